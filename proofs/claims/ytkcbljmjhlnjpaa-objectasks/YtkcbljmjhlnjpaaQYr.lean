/- States: the document's Valid. -/
import Derived.Test.YtkcbljmjhlnjpaaQ16
import Derived.Test.YtkcbljmjhlnjpaaQXgc
namespace Go.Proofs.Ytkcbljmjhlnjpaa
open Go.RowKit Go.Lib
section
variable {P : Program} {ops : Array Oper} {Q : Exit → Act → World → Prop} {md : Region.Mode} {S : World → Prop} {last : Nat}
/-- take number i first, which is not wanted -/
theorem wpAnyL_skip (i : Nat) (d : Tmp) (r : List Nat) {oi : Oper} {fuel : Nat} {listed : Array Bool} {a : Act} {w : World} (hi : ops[i]? = some oi) (hd : oi.dst = some d)
    (hs : Region.noSelect ops = true) (hf : Region.free md ops listed i = true) (hr : (Region.ready md ops listed).contains i = true) (hc : chained md ops last i r = true) (hu : (r.all fun y => !listed.getD y true) = true)
    (hQ : ∀ c a w, Q (.panic c) (a.put (some d) undef) w → Q (.panic c) a w) (hg : Region.wanted oi (yielded ops a.tmps) = false) (hS : S w)
    (h : wpAnyL P md ops Q S last fuel (listed.setIfInBounds i true) (a.put (some d) undef) w) : wpAnyL P md ops Q S last (fuel + 1) listed a w := by
  have hu' : unlisted listed r := by
    clear hc
    induction r with
    | nil => trivial
    | cons y r ih =>
      simp only [List.all_cons, Bool.and_eq_true, Bool.not_eq_true'] at hu
      exact ⟨hu.1, ih hu.2⟩
  exact wpAnyL_first hi (Region.noSelect_spec hs) (by rw [hd]; exact hQ) r hc fuel listed a w hu' (Region.free_spec hi hf) (by simpa using hr) (.inr ⟨hg, rfl⟩) hS (by rw [hd]; exact h)
end
set_option maxRecDepth 100000 in
set_option maxHeartbeats 2000000 in
theorem rAhead (pa pc qa qc : Nat) (u : World) : Calls Try.prog 94 #[.agg #[.int .u32 (pa : Int), .int .u64 (pc : Int)], .agg #[.int .u32 (qa : Int), .int .u64 (qc : Int)]] u fun e u' => e = .returned (.bool (ahB (pa, pc) (qa, qc))) ∧ Below u.heap.size u u' := by
  obtain ⟨N, hN⟩ : ∃ N, N = u.heap.size := ⟨_, rfl⟩
  have HN := hide hN
  rw [← hN]
  clear hN
  have HT : Hid (ah (pa, pc) (qa, qc) → ahB (pa, pc) (qa, qc) = true) := fun h => decide_eq_true h
  have HF : Hid (¬ ah (pa, pc) (qa, qc) → ahB (pa, pc) (qa, qc) = false) := fun h => decide_eq_false h
  generalize ahB (pa, pc) (qa, qc) = r at *
  by_cases h1 : pa < qa
  · have h1i : (pa : Int) < (qa : Int) := by omega
    have HR := hide (unhide HT (.inl h1))
    clear HT HF
    go_enter Try.func94, Try.ntmps94
    go_wp2_with (first
      | ((with_reducible refine wpList_box_dot (by rfl) (.tmp 0) (by rfl) (some 2) (by rfl) N (unhide HN) (pa : Int) (pc : Int) (by with_unfolding_all rfl) ?_); intro W1 HX1 HB1 HS1; simp only [Act.put, List.setIfInBounds_toArray, List.set_cons_zero, List.set_cons_succ])
      | ((with_reducible refine wpList_box_dot (by rfl) (.tmp 1) (by rfl) (some 3) (by rfl) (N + 1) (unhide HS1).symm (qa : Int) (qc : Int) (by with_unfolding_all rfl) ?_); intro W2 HX2 HB2 HS2; simp only [Act.put, List.setIfInBounds_toArray, List.set_cons_zero, List.set_cons_succ]; obtain ⟨y0, y1⟩ := box2 (unhide HX2); obtain ⟨z0, z1⟩ := box2 (((unhide HB2).block N (Nat.lt_succ_self _)).trans (unhide HX1)))
      | fail)
    go_ret
    exact ⟨by rw [unhide HR]; rfl, (unhide HB1).trans ((unhide HB2).mono (Nat.le_succ _))⟩
  · have h1i : ¬ (pa : Int) < (qa : Int) := by omega
    by_cases h2 : pa = qa
    · by_cases h3 : pc < qc
      · have h3i : (pc : Int) < (qc : Int) := by omega
        have HR := hide (unhide HT (.inr ⟨h2, h3⟩))
        subst h2
        clear HT HF
        go_enter Try.func94, Try.ntmps94
        go_wp2_with (first
          | ((with_reducible refine wpList_box_dot (by rfl) (.tmp 0) (by rfl) (some 2) (by rfl) N (unhide HN) (pa : Int) (pc : Int) (by with_unfolding_all rfl) ?_); intro W1 HX1 HB1 HS1; simp only [Act.put, List.setIfInBounds_toArray, List.set_cons_zero, List.set_cons_succ])
          | ((with_reducible refine wpList_box_dot (by rfl) (.tmp 1) (by rfl) (some 3) (by rfl) (N + 1) (unhide HS1).symm (pa : Int) (qc : Int) (by with_unfolding_all rfl) ?_); intro W2 HX2 HB2 HS2; simp only [Act.put, List.setIfInBounds_toArray, List.set_cons_zero, List.set_cons_succ]; obtain ⟨y0, y1⟩ := box2 (unhide HX2); obtain ⟨z0, z1⟩ := box2 (((unhide HB2).block N (Nat.lt_succ_self _)).trans (unhide HX1)))
          | fail)
        go_ret
        exact ⟨by rw [unhide HR]; rfl, (unhide HB1).trans ((unhide HB2).mono (Nat.le_succ _))⟩
      · have h3i : ¬ (pc : Int) < (qc : Int) := by omega
        have HR := hide (unhide HF (by unfold ah; simp only; omega))
        subst h2
        clear HT HF
        go_enter Try.func94, Try.ntmps94
        go_wp2_with (first
          | ((with_reducible refine wpList_box_dot (by rfl) (.tmp 0) (by rfl) (some 2) (by rfl) N (unhide HN) (pa : Int) (pc : Int) (by with_unfolding_all rfl) ?_); intro W1 HX1 HB1 HS1; simp only [Act.put, List.setIfInBounds_toArray, List.set_cons_zero, List.set_cons_succ])
          | ((with_reducible refine wpList_box_dot (by rfl) (.tmp 1) (by rfl) (some 3) (by rfl) (N + 1) (unhide HS1).symm (pa : Int) (qc : Int) (by with_unfolding_all rfl) ?_); intro W2 HX2 HB2 HS2; simp only [Act.put, List.setIfInBounds_toArray, List.set_cons_zero, List.set_cons_succ]; obtain ⟨y0, y1⟩ := box2 (unhide HX2); obtain ⟨z0, z1⟩ := box2 (((unhide HB2).block N (Nat.lt_succ_self _)).trans (unhide HX1)))
          | fail)
        go_ret
        exact ⟨by rw [unhide HR]; rfl, (unhide HB1).trans ((unhide HB2).mono (Nat.le_succ _))⟩
    · have h2i : ¬ (pa : Int) = (qa : Int) := by omega
      have h2b : ((pa : Int) == (qa : Int)) = false := by simpa using h2i
      have HR := hide (unhide HF (by unfold ah; simp only; omega))
      clear HT HF
      go_enter Try.func94, Try.ntmps94
      go_wp2_with (first
        | ((with_reducible refine wpList_box_dot (by rfl) (.tmp 0) (by rfl) (some 2) (by rfl) N (unhide HN) (pa : Int) (pc : Int) (by with_unfolding_all rfl) ?_); intro W1 HX1 HB1 HS1; simp only [Act.put, List.setIfInBounds_toArray, List.set_cons_zero, List.set_cons_succ])
        | ((with_reducible refine wpList_box_dot (by rfl) (.tmp 1) (by rfl) (some 3) (by rfl) (N + 1) (unhide HS1).symm (qa : Int) (qc : Int) (by with_unfolding_all rfl) ?_); intro W2 HX2 HB2 HS2; simp only [Act.put, List.setIfInBounds_toArray, List.set_cons_zero, List.set_cons_succ]; obtain ⟨y0, y1⟩ := box2 (unhide HX2); obtain ⟨z0, z1⟩ := box2 (((unhide HB2).block N (Nat.lt_succ_self _)).trans (unhide HX1)))
        | fail)
      go_ret
      exact ⟨by rw [unhide HR]; rfl, (unhide HB1).trans ((unhide HB2).mono (Nat.le_succ _))⟩
theorem entRA : ∀ args (w : World), (callFunc 94 args).run Try.prog w = .ok (.enter 94 args) w := by
  intro args w
  go_simp
theorem entRC10 : ∀ args (w : World), (callFunc 93 args).run Try.prog w = .ok (.enter 93 args) w := by
  intro args w
  go_simp
set_option maxRecDepth 100000 in
set_option maxHeartbeats 8000000 in
theorem rValidT (s : St) (v : Sv) (u : World) (h : SAt u s v) : Calls Try.prog 82 #[v.v s.seen.length s.sibs.length] u fun e u' => e = .returned (.bool (sokB s)) ∧ Below u.heap.size u u' := by
  have hmix : Try.prog.follows .mixedOrders = true := by kernel_rfl
  obtain ⟨N, hN⟩ : ∃ N, N = u.heap.size := ⟨_, rfl⟩
  have HN := hide hN
  have HD := hide h.seen
  have HA := hide h.sibs
  have hl0 := h.sibs.len
  rw [← hN]
  obtain ⟨n, hn⟩ : ∃ n, n = s.seen.length := ⟨_, rfl⟩
  obtain ⟨m, hm⟩ : ∃ m, m = s.sibs.length := ⟨_, rfl⟩
  have HNN := hide hn
  have HNM := hide hm
  rw [← hn, ← hm]
  rw [← hm] at hl0
  clear hN hn hm h
  have hmi : (m : Int) ≤ 3518437208780 := by omega
  have HKV : Hid (∀ (W0 : World), Da W0 s.seen v.sa v.sc → Calls Try.prog 91 #[.slice v.sa n v.sc] W0 fun e W' => e = .returned (.bool (V.okB s.seen)) ∧ Below W0.heap.size W0 W') := fun W0 h0 => by
    rw [unhide HNN]
    refine (rValid s.seen v.sa v.sc W0 h0.at).mono ?_
    rintro e W' ⟨h1, z, rfl⟩
    exact ⟨h1, belowDrewN (Below.refl _ _) _⟩
  by_cases hok : V.okB s.seen = true
  · have HOK := hide (V.okB_true.1 hok)
    rw [hok] at HKV
    clear hok
    by_cases h64 : m ≤ 64
    · have h64i : ¬ (64 : Int) < (m : Int) := by omega
      have HE : Hid (∀ i (hi : i < s.sibs.length), ¬ sgood s i hi → sokB s = false) := fun i hi hg => not_sok_at hi hg
      have HT : Hid ((∀ i (hi : i < s.sibs.length), sgood s i hi) → sokB s = true) := fun hg => sokB_true.2 (sok_iff.2 ⟨unhide HOK, by rw [← unhide HNM]; exact h64, hg⟩)
      generalize sokB s = ok at *
      have HKC : Hid (∀ (W0 : World), Da W0 s.seen v.sa v.sc → ∀ (x : Sb) (r : Bool), (r = true ↔ cov s.seen x.dot) → Calls Try.prog 93 #[.slice v.sa n v.sc, .agg #[.int .u32 (x.a : Int), .int .u64 (x.c : Int)]] W0 fun e W' => ∃ y, e = .returned y ∧ y = .bool r ∧ Below W0.heap.size W0 W') := fun W0 h0 x r hr => by
        rw [unhide HNN]
        refine (rCovers s.seen v.sa v.sc (x.a, x.c) W0 h0.at).mono ?_
        rintro e W' ⟨h1, h2⟩
        refine ⟨_, h1, ?_, h2⟩
        rw [covB_ok (unhide HOK)]
        congr 1
        rw [Bool.eq_iff_iff, decide_eq_true_eq, hr]; exact Iff.rfl
      clear HOK
      go_enter Try.func82, Try.ntmps82
      go_wp2_with (first
        | ((with_reducible refine wpList_box_state (by rfl) (.tmp 0) (by rfl) (some 1) (by rfl) N (unhide HN) v n m (by with_unfolding_all rfl) ?_); intro W1 HX1 HB1 HS1; simp only [Act.put, List.setIfInBounds_toArray, List.set_cons_zero, List.set_cons_succ]; have HD1 : Hid (Da W1 s.seen v.sa v.sc) := (unhide HD).below (by rw [← unhide HN]; exact unhide HB1); obtain ⟨y0, y1⟩ := st_cells (unhide HX1))
        | (go_at_call 91; refine (unhide HKV W1 (unhide HD1)).mono ?_; rintro e w2 ⟨rfl, hb2⟩; obtain ⟨z0, z1⟩ := st_cells (box_below (unhide HX1) hb2); have HB2 := hide hb2; clear hb2 y0 y1)
        | fail)
      have HA1 : Hid (Lies W1 v.ba (flatS s.sibs)) := (unhide HA).lies.below (by rw [← unhide HN]; exact unhide HB1)
      have HFT := hide (unhide HA).fits
      have HUB : Hid (∀ W : World, Below W1.heap.size W1 W → Below N u W) := fun W hW => (unhide HB1).trans (hW.mono (by rw [unhide HS1]; omega))
      clear z0 z1 HA HD HKV
      go_loopw [3] (fun i wr => ∃ k : Nat, k ≤ m ∧ i = .int .i64 k ∧ Hid (Below W1.heap.size W1 wr ∧ ∀ j (hj : j < s.sibs.length), j < k → sgood s j hj)) (fun i _ => m - (intOf i).toNat)
      case atStart => exact ⟨0, Nat.zero_le _, rfl, unhide HB2, fun j _ hj => absurd hj (Nat.not_lt_zero _)⟩
      case round =>
        obtain ⟨k, hk, rfl, HI⟩ := hrel
        obtain ⟨q0, q1⟩ := st_cells (box_below (unhide HX1) (unhide HI).1)
        by_cases hlt : k < m
        · have hki : (k : Int) < (m : Int) := by omega
          have hkl : k < s.sibs.length := by rw [← unhide HNM]; exact hlt
          have HLB := hide ((unhide HA1).below (unhide HI).1)
          obtain ⟨g, o, hao, c1, c2, c3, c4⟩ := (unhide HLB).sb hkl
          have hix := ixS g o m v.bc k hlt
          obtain ⟨M, hM⟩ : ∃ M, M = wr.heap.size := ⟨_, rfl⟩
          have HM := hide hM
          clear hM
          have HBI := hide (unhide HI).1
          have HR : Hid (sgood s k hkl → ∀ j (hj : j < s.sibs.length), j < k + 1 → sgood s j hj) := fun hg j hj hjk => by
            rcases Nat.lt_succ_iff_lt_or_eq.1 hjk with h | rfl
            · exact (unhide HI).2 j hj h
            · exact hg
          have HE1 := hide (unhide HE k hkl)
          obtain ⟨AH, hAH⟩ : ∃ A : Prop, A = (0 < k → ah s.sibs[k - 1].dot s.sibs[k].dot) := ⟨_, rfl⟩
          have HG : Hid (sgood s k hkl ↔ AH ∧ cov s.seen s.sibs[k].dot ∧ s.sibs[k].may) := by rw [hAH]; exact Iff.rfl
          have HAA := hide hAH
          clear hAH
          have HFq := hide (unhide HFT _ (List.getElem_mem hkl))
          clear HI HE
          generalize s.sibs[k] = q at *
          have c1 : wr.cell? ⟨g, o + k * 4, none⟩ = some (.int .u32 (q.a : Int)) := c1
          have c2 : wr.cell? ⟨g, o + k * 4 + 1, none⟩ = some (.int .u64 (q.c : Int)) := c2
          have c3 : wr.cell? ⟨g, o + k * 4 + 2, none⟩ = some (.bool q.gone) := c3
          have c4 : wr.cell? ⟨g, o + k * 4 + 3, none⟩ = some (.string q.val) := c4
          have hba : v.ba = some ⟨g, o, none⟩ := hao
          rw [hba] at q1
          generalize o + k * 4 = oo at *
          have HUP : Hid (∀ W : World, Below wr.heap.size wr W → Below W1.heap.size W1 W) := fun W hW => (unhide HBI).trans (hW.mono (unhide HBI).size)
          by_cases hk0 : k = 0
          · have HAH : Hid AH := by rw [unhide HAA]; intro h; omega
            have hk1 : ¬ (0 : Int) < (k : Int) := by omega
            have hk2 : decide ((0 : Int) < (k : Int)) = false := decide_eq_false hk1
            have hk3 : decide (0 < k) = false := decide_eq_false (by omega)
            have HK0 := hide hk0
            clear hk0
            go_wp2_with (first
              | ((with_reducible refine wpList_alloc_sib (by rfl) (by rfl) (some 4) (by rfl) M (unhide HM) ?_); intro W2 HX2 HB3 HS3; simp only [Act.put, List.setIfInBounds_toArray, List.set_cons_zero, List.set_cons_succ])
              | ((with_reducible refine wpList_store_sib (by rfl) (.tmp 4) (.tmp 26) (by rfl) M q (by with_unfolding_all rfl) (by with_unfolding_all rfl) (unhide HX2) ?_); intro W3 HX3 HE3; simp only [Act.put])
              | fail)
            have HB4 : Hid (Below wr.heap.size wr W3) := by rw [unhide HE3, ← unhide HM]; exact belowRow (unhide HB3) (Nat.le_refl _) _
            clear HX2 HB3 HS3 HE3 c1 c2 c3 c4 q0 q1
            have hC1 : ∀ W : World, Below W3.heap.size W3 W → W.cell? ⟨N, 0, none⟩ = some (.slice v.sa n v.sc) ∧ W.cell? ⟨N, 1, none⟩ = some (.slice (some ⟨g, o, none⟩) m v.bc) := fun W hW => by
              have := st_cells (box_below (unhide HX1) (unhide HUP _ ((unhide HB4).trans (hW.mono (unhide HB4).size))))
              rw [hba] at this
              exact this
            have hC3 : ∀ W : World, Below W3.heap.size W3 W → W.cell? ⟨M, 0, none⟩ = some (.int .u32 (q.a : Int)) ∧ W.cell? ⟨M, 1, none⟩ = some (.int .u64 (q.c : Int)) := fun W hW => by
              have := sib_cells (box_below (unhide HX3) hW)
              exact ⟨this.1, this.2.1⟩
            have HDX : Hid (∀ W : World, Below W3.heap.size W3 W → Da W s.seen v.sa v.sc) := fun W hW => (unhide HD1).below (unhide HUP _ ((unhide HB4).trans (hW.mono (unhide HB4).size)))
            refine wp_region_last (fun W => Below W3.heap.size W3 W) 22 hmix (belowDrew (Below.refl _ _)) fun hS => ?_
            generalize W3.drew = X0 at hS ⊢
            by_cases hcv : cov s.seen q.dot
            · have HCV := hide hcv
              refine wpAnyL_take 0 27 (.int .i64 (k : Int)) [1, 2, 12, 15] rfl rfl (by kernel_rfl) (by kernel_rfl) (by kernel_rfl) (by kernel_rfl) (by kernel_rfl) (fun _ _ _ h => h) (by rfl) (fun _ _ => by go_simp) hS ?_
              simp only [Act.put, List.setIfInBounds_toArray, List.set_cons_zero, List.set_cons_succ]
              refine wpAnyL_take 1 28 (.bool false) [2, 12, 15] rfl rfl (by kernel_rfl) (by kernel_rfl) (by kernel_rfl) (by kernel_rfl) (by kernel_rfl) (fun _ _ _ h => h) (by rfl) (fun _ _ => by go_simp) hS ?_
              simp only [Act.put, List.setIfInBounds_toArray, List.set_cons_zero, List.set_cons_succ]
              refine wpAnyL_take 2 29 (.bool false) [12, 15] rfl rfl (by kernel_rfl) (by kernel_rfl) (by kernel_rfl) (by kernel_rfl) (by kernel_rfl) (fun _ _ _ h => h) (by rfl) (fun _ _ => by go_simp) hS ?_
              simp only [Act.put, List.setIfInBounds_toArray, List.set_cons_zero, List.set_cons_succ]
              refine wpAnyL_skip 3 30 [4, 7, 8, 9, 12, 15] rfl rfl (by kernel_rfl) (by kernel_rfl) (by kernel_rfl) (by kernel_rfl) (by kernel_rfl) (fun _ _ _ h => h) (by rfl) hS ?_
              simp only [Act.put, List.setIfInBounds_toArray, List.set_cons_zero, List.set_cons_succ]
              refine wpAnyL_skip 4 31 [7, 8, 9, 12, 15] rfl rfl (by kernel_rfl) (by kernel_rfl) (by kernel_rfl) (by kernel_rfl) (by kernel_rfl) (fun _ _ _ h => h) (by rfl) hS ?_
              simp only [Act.put, List.setIfInBounds_toArray, List.set_cons_zero, List.set_cons_succ]
              refine wpAnyL_skip 5 32 [6, 7, 8, 9, 12, 15] rfl rfl (by kernel_rfl) (by kernel_rfl) (by kernel_rfl) (by kernel_rfl) (by kernel_rfl) (fun _ _ _ h => h) (by rfl) hS ?_
              simp only [Act.put, List.setIfInBounds_toArray, List.set_cons_zero, List.set_cons_succ]
              refine wpAnyL_skip 6 33 [7, 8, 9, 12, 15] rfl rfl (by kernel_rfl) (by kernel_rfl) (by kernel_rfl) (by kernel_rfl) (by kernel_rfl) (fun _ _ _ h => h) (by rfl) hS ?_
              simp only [Act.put, List.setIfInBounds_toArray, List.set_cons_zero, List.set_cons_succ]
              refine wpAnyL_skip 7 34 [8, 9, 12, 15] rfl rfl (by kernel_rfl) (by kernel_rfl) (by kernel_rfl) (by kernel_rfl) (by kernel_rfl) (fun _ _ _ h => h) (by rfl) hS ?_
              simp only [Act.put, List.setIfInBounds_toArray, List.set_cons_zero, List.set_cons_succ]
              refine wpAnyL_skip 8 35 [9, 12, 15] rfl rfl (by kernel_rfl) (by kernel_rfl) (by kernel_rfl) (by kernel_rfl) (by kernel_rfl) (fun _ _ _ h => h) (by rfl) hS ?_
              simp only [Act.put, List.setIfInBounds_toArray, List.set_cons_zero, List.set_cons_succ]
              refine wpAnyL_skip 9 36 [12, 15] rfl rfl (by kernel_rfl) (by kernel_rfl) (by kernel_rfl) (by kernel_rfl) (by kernel_rfl) (fun _ _ _ h => h) (by rfl) hS ?_
              simp only [Act.put, List.setIfInBounds_toArray, List.set_cons_zero, List.set_cons_succ]
              refine wpAnyL_skip 10 37 [11, 12, 15] rfl rfl (by kernel_rfl) (by kernel_rfl) (by kernel_rfl) (by kernel_rfl) (by kernel_rfl) (fun _ _ _ h => h) (by rfl) hS ?_
              simp only [Act.put, List.setIfInBounds_toArray, List.set_cons_zero, List.set_cons_succ]
              refine wpAnyL_skip 11 38 [12, 15] rfl rfl (by kernel_rfl) (by kernel_rfl) (by kernel_rfl) (by kernel_rfl) (by kernel_rfl) (fun _ _ _ h => h) (by rfl) hS ?_
              simp only [Act.put, List.setIfInBounds_toArray, List.set_cons_zero, List.set_cons_succ]
              refine wpAnyL_skip 12 39 [15] rfl rfl (by kernel_rfl) (by kernel_rfl) (by kernel_rfl) (by kernel_rfl) (by kernel_rfl) (fun _ _ _ h => h) (by rfl) hS ?_
              simp only [Act.put, List.setIfInBounds_toArray, List.set_cons_zero, List.set_cons_succ]
              refine wpAnyL_skip 13 40 [14, 15] rfl rfl (by kernel_rfl) (by kernel_rfl) (by kernel_rfl) (by kernel_rfl) (by kernel_rfl) (fun _ _ _ h => h) (by rfl) hS ?_
              simp only [Act.put, List.setIfInBounds_toArray, List.set_cons_zero, List.set_cons_succ]
              refine wpAnyL_take 14 41 (.bool false) [15] rfl rfl (by kernel_rfl) (by kernel_rfl) (by kernel_rfl) (by kernel_rfl) (by kernel_rfl) (fun _ _ _ h => h) (by rfl) (fun _ _ => by go_simp) hS ?_
              simp only [Act.put, List.setIfInBounds_toArray, List.set_cons_zero, List.set_cons_succ]
              refine wpAnyL_take 15 42 (.bool false) [] rfl rfl (by kernel_rfl) (by kernel_rfl) (by kernel_rfl) (by kernel_rfl) (by kernel_rfl) (fun _ _ _ h => h) (by rfl) (fun _ _ => by go_simp) hS ?_
              simp only [Act.put, List.setIfInBounds_toArray, List.set_cons_zero, List.set_cons_succ]
              refine wpAnyL_take 16 43 (.pointer (some ⟨N, 0, none⟩)) [17, 20, 21] rfl rfl (by kernel_rfl) (by kernel_rfl) (by kernel_rfl) (by kernel_rfl) (by kernel_rfl) (fun _ _ _ h => h) (by rfl) (fun _ _ => by go_simp) hS ?_
              simp only [Act.put, List.setIfInBounds_toArray, List.set_cons_zero, List.set_cons_succ]
              refine wpAnyL_take 17 44 (.slice v.sa n v.sc) [20, 21] rfl rfl (by kernel_rfl) (by kernel_rfl) (by kernel_rfl) (by kernel_rfl) (by kernel_rfl) (fun _ _ _ h => h) (by rfl) (fun W hW => by obtain ⟨e1, e2⟩ := hC1 W hW; go_simp) hS ?_
              simp only [Act.put, List.setIfInBounds_toArray, List.set_cons_zero, List.set_cons_succ]
              refine wpAnyL_take 18 45 (.pointer (some ⟨M, 0, none⟩)) [19, 20, 21] rfl rfl (by kernel_rfl) (by kernel_rfl) (by kernel_rfl) (by kernel_rfl) (by kernel_rfl) (fun _ _ _ h => h) (by rfl) (fun _ _ => by go_simp) hS ?_
              simp only [Act.put, List.setIfInBounds_toArray, List.set_cons_zero, List.set_cons_succ]
              refine wpAnyL_take 19 46 (.agg #[.int .u32 (q.a : Int), .int .u64 (q.c : Int)]) [20, 21] rfl rfl (by kernel_rfl) (by kernel_rfl) (by kernel_rfl) (by kernel_rfl) (by kernel_rfl) (fun _ _ _ h => h) (by rfl) (fun W hW => by obtain ⟨e1, e2⟩ := hC3 W hW; go_simp) hS ?_
              simp only [Act.put, List.setIfInBounds_toArray, List.set_cons_zero, List.set_cons_succ]
              refine wpAnyL_one (i := 20) (by kernel_rfl) rfl (by rfl) fun K hK => ?_
              refine wp_call_fn 93 _ _ (by rfl) #[.slice v.sa n v.sc, .agg #[.int .u32 (q.a : Int), .int .u64 (q.c : Int)]] (by with_unfolding_all rfl) entRC10 (some 47) (by rfl) _ (unhide HKC _ (unhide HDX _ hS) q true (by simp [hcv])) ?_
              rintro _ X2 ⟨rfl, hbe⟩
              have HBY : Hid (Below W3.heap.size W3 X2) := hS.trans (hbe.mono hS.size)
              clear hbe
              refine hK _ _ (fun _ => unhide HBY) ?_
              clear hK K
              simp only [Act.put, List.setIfInBounds_toArray, List.set_cons_zero, List.set_cons_succ]
              refine wpAnyL_take 21 48 (.bool false) [] rfl rfl (by kernel_rfl) (by kernel_rfl) (by kernel_rfl) (by kernel_rfl) (by kernel_rfl) (fun _ _ _ h => h) (by rfl) (fun _ _ => by go_simp) (unhide HBY) ?_
              simp only [Act.put, List.setIfInBounds_toArray, List.set_cons_zero, List.set_cons_succ]
              refine wpAnyL_one (i := 22) (by kernel_rfl) rfl (by rfl) fun K hK => ?_
              refine wp_val (.bool false) (by go_simp) (some 49) (by rfl) ?_
              refine hK _ _ (fun _ => unhide HBY) ?_
              clear hK K
              simp only [Act.put, List.setIfInBounds_toArray, List.set_cons_zero, List.set_cons_succ]
              refine wpAnyL_done (by kernel_rfl) ?_ _
              clear hcv
              obtain ⟨x0, x1, x2, x3⟩ := sib_cells (box_below (unhide HX3) (unhide HBY))
              have HBE : Hid (Below W1.heap.size W1 X2) := unhide HUP _ ((unhide HB4).trans ((unhide HBY).mono (unhide HB4).size))
              obtain ⟨qa, qc, qg, qv⟩ := q
              have hqs : (qv.size : Int) ≤ 140737488355328 := by have := (unhide HFq).2.2; simp only at this; omega
              by_cases hsz : qv.size ≤ 40
              · have hszi : ¬ (40 : Int) < (qv.size : Int) := by omega
                cases qg
                · have HGK : Hid (sgood s k hkl) := (unhide HG).2 ⟨unhide HAH, unhide HCV, hsz⟩
                  clear hsz
                  go_wp2
                  go_roundw
                  case rel => exact ⟨k + 1, by omega, by go_num, unhide HBE, unhide HR (unhide HGK)⟩
                  case measure => simp [intOf]; omega
                · by_cases h0 : qv.size = 0
                  · obtain rfl := size_zero.1 h0
                    have HGK : Hid (sgood s k hkl) := (unhide HG).2 ⟨unhide HAH, unhide HCV, rfl⟩
                    clear hsz h0 hszi hqs
                    go_wp2
                    go_roundw
                    case rel => exact ⟨k + 1, by omega, by go_num, unhide HBE, unhide HR (unhide HGK)⟩
                    case measure => simp [intOf]; omega
                  · have HBAD : Hid (ok = false) := unhide HE1 fun hg => h0 ((unhide HG).1 hg).2.2
                    have hne : (qv.toList == (⟨#[]⟩ : ByteArray).toList) = false := by rw [list_beq]; exact decide_eq_false fun e => h0 (by rw [e]; rfl)
                    have hne2 : (qv.toList == []) = false := by have h := hne; rwa [show (⟨#[]⟩ : ByteArray).toList = [] by rw [ByteArray.toList_eq]] at h
                    have hne3 : ¬ qv.toList = [] := by simpa using hne2
                    clear hsz h0
                    go_wp2
                    go_ret
                    exact ⟨by rw [unhide HBAD]; rfl, unhide HUB _ (unhide HBE)⟩
              · have HBAD : Hid (ok = false) := unhide HE1 fun hg => hsz (by
                  have := ((unhide HG).1 hg).2.2
                  unfold Sb.may at this
                  split at this <;> simp only at this <;> omega)
                have hszi : (40 : Int) < (qv.size : Int) := by omega
                clear hsz
                go_wp2
                go_ret
                exact ⟨by rw [unhide HBAD]; rfl, unhide HUB _ (unhide HBE)⟩
            · have HBAD : Hid (ok = false) := unhide HE1 fun hg => hcv ((unhide HG).1 hg).2.1
              refine wpAnyL_take 0 27 (.int .i64 (k : Int)) [1, 2, 12, 15] rfl rfl (by kernel_rfl) (by kernel_rfl) (by kernel_rfl) (by kernel_rfl) (by kernel_rfl) (fun _ _ _ h => h) (by rfl) (fun _ _ => by go_simp) hS ?_
              simp only [Act.put, List.setIfInBounds_toArray, List.set_cons_zero, List.set_cons_succ]
              refine wpAnyL_take 1 28 (.bool false) [2, 12, 15] rfl rfl (by kernel_rfl) (by kernel_rfl) (by kernel_rfl) (by kernel_rfl) (by kernel_rfl) (fun _ _ _ h => h) (by rfl) (fun _ _ => by go_simp) hS ?_
              simp only [Act.put, List.setIfInBounds_toArray, List.set_cons_zero, List.set_cons_succ]
              refine wpAnyL_take 2 29 (.bool false) [12, 15] rfl rfl (by kernel_rfl) (by kernel_rfl) (by kernel_rfl) (by kernel_rfl) (by kernel_rfl) (fun _ _ _ h => h) (by rfl) (fun _ _ => by go_simp) hS ?_
              simp only [Act.put, List.setIfInBounds_toArray, List.set_cons_zero, List.set_cons_succ]
              refine wpAnyL_skip 3 30 [4, 7, 8, 9, 12, 15] rfl rfl (by kernel_rfl) (by kernel_rfl) (by kernel_rfl) (by kernel_rfl) (by kernel_rfl) (fun _ _ _ h => h) (by rfl) hS ?_
              simp only [Act.put, List.setIfInBounds_toArray, List.set_cons_zero, List.set_cons_succ]
              refine wpAnyL_skip 4 31 [7, 8, 9, 12, 15] rfl rfl (by kernel_rfl) (by kernel_rfl) (by kernel_rfl) (by kernel_rfl) (by kernel_rfl) (fun _ _ _ h => h) (by rfl) hS ?_
              simp only [Act.put, List.setIfInBounds_toArray, List.set_cons_zero, List.set_cons_succ]
              refine wpAnyL_skip 5 32 [6, 7, 8, 9, 12, 15] rfl rfl (by kernel_rfl) (by kernel_rfl) (by kernel_rfl) (by kernel_rfl) (by kernel_rfl) (fun _ _ _ h => h) (by rfl) hS ?_
              simp only [Act.put, List.setIfInBounds_toArray, List.set_cons_zero, List.set_cons_succ]
              refine wpAnyL_skip 6 33 [7, 8, 9, 12, 15] rfl rfl (by kernel_rfl) (by kernel_rfl) (by kernel_rfl) (by kernel_rfl) (by kernel_rfl) (fun _ _ _ h => h) (by rfl) hS ?_
              simp only [Act.put, List.setIfInBounds_toArray, List.set_cons_zero, List.set_cons_succ]
              refine wpAnyL_skip 7 34 [8, 9, 12, 15] rfl rfl (by kernel_rfl) (by kernel_rfl) (by kernel_rfl) (by kernel_rfl) (by kernel_rfl) (fun _ _ _ h => h) (by rfl) hS ?_
              simp only [Act.put, List.setIfInBounds_toArray, List.set_cons_zero, List.set_cons_succ]
              refine wpAnyL_skip 8 35 [9, 12, 15] rfl rfl (by kernel_rfl) (by kernel_rfl) (by kernel_rfl) (by kernel_rfl) (by kernel_rfl) (fun _ _ _ h => h) (by rfl) hS ?_
              simp only [Act.put, List.setIfInBounds_toArray, List.set_cons_zero, List.set_cons_succ]
              refine wpAnyL_skip 9 36 [12, 15] rfl rfl (by kernel_rfl) (by kernel_rfl) (by kernel_rfl) (by kernel_rfl) (by kernel_rfl) (fun _ _ _ h => h) (by rfl) hS ?_
              simp only [Act.put, List.setIfInBounds_toArray, List.set_cons_zero, List.set_cons_succ]
              refine wpAnyL_skip 10 37 [11, 12, 15] rfl rfl (by kernel_rfl) (by kernel_rfl) (by kernel_rfl) (by kernel_rfl) (by kernel_rfl) (fun _ _ _ h => h) (by rfl) hS ?_
              simp only [Act.put, List.setIfInBounds_toArray, List.set_cons_zero, List.set_cons_succ]
              refine wpAnyL_skip 11 38 [12, 15] rfl rfl (by kernel_rfl) (by kernel_rfl) (by kernel_rfl) (by kernel_rfl) (by kernel_rfl) (fun _ _ _ h => h) (by rfl) hS ?_
              simp only [Act.put, List.setIfInBounds_toArray, List.set_cons_zero, List.set_cons_succ]
              refine wpAnyL_skip 12 39 [15] rfl rfl (by kernel_rfl) (by kernel_rfl) (by kernel_rfl) (by kernel_rfl) (by kernel_rfl) (fun _ _ _ h => h) (by rfl) hS ?_
              simp only [Act.put, List.setIfInBounds_toArray, List.set_cons_zero, List.set_cons_succ]
              refine wpAnyL_skip 13 40 [14, 15] rfl rfl (by kernel_rfl) (by kernel_rfl) (by kernel_rfl) (by kernel_rfl) (by kernel_rfl) (fun _ _ _ h => h) (by rfl) hS ?_
              simp only [Act.put, List.setIfInBounds_toArray, List.set_cons_zero, List.set_cons_succ]
              refine wpAnyL_take 14 41 (.bool false) [15] rfl rfl (by kernel_rfl) (by kernel_rfl) (by kernel_rfl) (by kernel_rfl) (by kernel_rfl) (fun _ _ _ h => h) (by rfl) (fun _ _ => by go_simp) hS ?_
              simp only [Act.put, List.setIfInBounds_toArray, List.set_cons_zero, List.set_cons_succ]
              refine wpAnyL_take 15 42 (.bool false) [] rfl rfl (by kernel_rfl) (by kernel_rfl) (by kernel_rfl) (by kernel_rfl) (by kernel_rfl) (fun _ _ _ h => h) (by rfl) (fun _ _ => by go_simp) hS ?_
              simp only [Act.put, List.setIfInBounds_toArray, List.set_cons_zero, List.set_cons_succ]
              refine wpAnyL_take 16 43 (.pointer (some ⟨N, 0, none⟩)) [17, 20, 21] rfl rfl (by kernel_rfl) (by kernel_rfl) (by kernel_rfl) (by kernel_rfl) (by kernel_rfl) (fun _ _ _ h => h) (by rfl) (fun _ _ => by go_simp) hS ?_
              simp only [Act.put, List.setIfInBounds_toArray, List.set_cons_zero, List.set_cons_succ]
              refine wpAnyL_take 17 44 (.slice v.sa n v.sc) [20, 21] rfl rfl (by kernel_rfl) (by kernel_rfl) (by kernel_rfl) (by kernel_rfl) (by kernel_rfl) (fun _ _ _ h => h) (by rfl) (fun W hW => by obtain ⟨e1, e2⟩ := hC1 W hW; go_simp) hS ?_
              simp only [Act.put, List.setIfInBounds_toArray, List.set_cons_zero, List.set_cons_succ]
              refine wpAnyL_take 18 45 (.pointer (some ⟨M, 0, none⟩)) [19, 20, 21] rfl rfl (by kernel_rfl) (by kernel_rfl) (by kernel_rfl) (by kernel_rfl) (by kernel_rfl) (fun _ _ _ h => h) (by rfl) (fun _ _ => by go_simp) hS ?_
              simp only [Act.put, List.setIfInBounds_toArray, List.set_cons_zero, List.set_cons_succ]
              refine wpAnyL_take 19 46 (.agg #[.int .u32 (q.a : Int), .int .u64 (q.c : Int)]) [20, 21] rfl rfl (by kernel_rfl) (by kernel_rfl) (by kernel_rfl) (by kernel_rfl) (by kernel_rfl) (fun _ _ _ h => h) (by rfl) (fun W hW => by obtain ⟨e1, e2⟩ := hC3 W hW; go_simp) hS ?_
              simp only [Act.put, List.setIfInBounds_toArray, List.set_cons_zero, List.set_cons_succ]
              refine wpAnyL_one (i := 20) (by kernel_rfl) rfl (by rfl) fun K hK => ?_
              refine wp_call_fn 93 _ _ (by rfl) #[.slice v.sa n v.sc, .agg #[.int .u32 (q.a : Int), .int .u64 (q.c : Int)]] (by with_unfolding_all rfl) entRC10 (some 47) (by rfl) _ (unhide HKC _ (unhide HDX _ hS) q false (by simp [hcv])) ?_
              rintro _ X2 ⟨rfl, hbe⟩
              have HBY : Hid (Below W3.heap.size W3 X2) := hS.trans (hbe.mono hS.size)
              clear hbe
              refine hK _ _ (fun _ => unhide HBY) ?_
              clear hK K
              simp only [Act.put, List.setIfInBounds_toArray, List.set_cons_zero, List.set_cons_succ]
              refine wpAnyL_take 21 48 (.bool true) [] rfl rfl (by kernel_rfl) (by kernel_rfl) (by kernel_rfl) (by kernel_rfl) (by kernel_rfl) (fun _ _ _ h => h) (by rfl) (fun _ _ => by go_simp) (unhide HBY) ?_
              simp only [Act.put, List.setIfInBounds_toArray, List.set_cons_zero, List.set_cons_succ]
              refine wpAnyL_one (i := 22) (by kernel_rfl) rfl (by rfl) fun K hK => ?_
              refine wp_val (.bool true) (by go_simp) (some 49) (by rfl) ?_
              refine hK _ _ (fun _ => unhide HBY) ?_
              clear hK K
              simp only [Act.put, List.setIfInBounds_toArray, List.set_cons_zero, List.set_cons_succ]
              refine wpAnyL_done (by kernel_rfl) ?_ _
              clear hcv
              go_wp2
              go_ret
              exact ⟨by rw [unhide HBAD]; rfl, unhide HUB _ (unhide HUP _ ((unhide HB4).trans ((unhide HBY).mono (unhide HB4).size)))⟩
          · obtain ⟨j, hj⟩ : ∃ j, k = j + 1 := ⟨k - 1, by omega⟩
            have hjl : j < s.sibs.length := by omega
            obtain ⟨g', o', hao', d1, d2, d3, d4⟩ := (unhide HLB).sb hjl
            obtain ⟨rfl, rfl⟩ : g = g' ∧ o = o' := by rw [hba] at hao'; cases hao'; exact ⟨rfl, rfl⟩
            have hix2 := ixS g o m v.bc j (by omega)
            have hw1 : IntKind.i64.wrap ((k : Int) - 1) = (j : Int) := by rw [IntKind.wrap_i64]; omega
            have hk1 : (0 : Int) < (k : Int) := by omega
            have hk2 : decide ((0 : Int) < (k : Int)) = true := decide_eq_true hk1
            have hk3 : decide (0 < k) = true := decide_eq_true (by omega)
            have HG3 : Hid (AH ↔ ah s.sibs[j].dot q.dot) := by
              rw [unhide HAA]
              subst hj
              exact ⟨fun h => h (Nat.succ_pos _), fun h _ => h⟩
            clear HAA
            generalize s.sibs[j] = p at *
            have HJ := hide hj
            clear hj hk0 hao' hjl
            have d1 : wr.cell? ⟨g, o + j * 4, none⟩ = some (.int .u32 (p.a : Int)) := d1
            have d2 : wr.cell? ⟨g, o + j * 4 + 1, none⟩ = some (.int .u64 (p.c : Int)) := d2
            clear d3 d4
            have HD12 := hide (And.intro d1 d2)
            clear d1 d2
            generalize o + j * 4 = oj at *
            go_wp2_with (first
              | ((with_reducible refine wpList_alloc_sib (by rfl) (by rfl) (some 4) (by rfl) M (unhide HM) ?_); intro W2 HX2 HB3 HS3; simp only [Act.put, List.setIfInBounds_toArray, List.set_cons_zero, List.set_cons_succ])
              | ((with_reducible refine wpList_store_sib (by rfl) (.tmp 4) (.tmp 26) (by rfl) M q (by with_unfolding_all rfl) (by with_unfolding_all rfl) (unhide HX2) ?_); intro W3 HX3 HE3; simp only [Act.put])
              | fail)
            have HB4 : Hid (Below wr.heap.size wr W3) := by rw [unhide HE3, ← unhide HM]; exact belowRow (unhide HB3) (Nat.le_refl _) _
            clear HX2 HB3 HS3 HE3 c1 c2 c3 c4 q0 q1
            have hC1 : ∀ W : World, Below W3.heap.size W3 W → W.cell? ⟨N, 0, none⟩ = some (.slice v.sa n v.sc) ∧ W.cell? ⟨N, 1, none⟩ = some (.slice (some ⟨g, o, none⟩) m v.bc) := fun W hW => by
              have := st_cells (box_below (unhide HX1) (unhide HUP _ ((unhide HB4).trans (hW.mono (unhide HB4).size))))
              rw [hba] at this
              exact this
            have hC3 : ∀ W : World, Below W3.heap.size W3 W → W.cell? ⟨M, 0, none⟩ = some (.int .u32 (q.a : Int)) ∧ W.cell? ⟨M, 1, none⟩ = some (.int .u64 (q.c : Int)) := fun W hW => by
              have := sib_cells (box_below (unhide HX3) hW)
              exact ⟨this.1, this.2.1⟩
            have HDX : Hid (∀ W : World, Below W3.heap.size W3 W → Da W s.seen v.sa v.sc) := fun W hW => (unhide HD1).below (unhide HUP _ ((unhide HB4).trans (hW.mono (unhide HB4).size)))
            have hC2 : ∀ W : World, Below W3.heap.size W3 W → W.cell? ⟨g, oj, none⟩ = some (.int .u32 (p.a : Int)) ∧ W.cell? ⟨g, oj + 1, none⟩ = some (.int .u64 (p.c : Int)) := fun W hW => by
              have hb := (unhide HB4).trans (hW.mono (unhide HB4).size)
              exact ⟨cell_keep rfl hb (unhide HD12).1, cell_keep rfl hb (unhide HD12).2⟩
            have HCA := hide (fun (W : World) => asV (rAhead p.a p.c q.a q.c W))
            refine wp_region_last (fun W => Below W3.heap.size W3 W) 22 hmix (belowDrew (Below.refl _ _)) fun hS => ?_
            generalize W3.drew = X0 at hS ⊢
            rcases bool_cases (ahB_true (d := (p.a, p.c)) (e := (q.a, q.c))) with ⟨hah, hah2⟩ | ⟨hah, hah2⟩ <;> rw [hah] at HCA <;> clear hah
            · have HAH := hide ((unhide HG3).2 hah2)
              clear hah2
              by_cases hcv : cov s.seen q.dot
              · have HCV := hide hcv
                refine wpAnyL_take 0 27 (.int .i64 (k : Int)) [1, 2, 12, 15] rfl rfl (by kernel_rfl) (by kernel_rfl) (by kernel_rfl) (by kernel_rfl) (by kernel_rfl) (fun _ _ _ h => h) (by rfl) (fun _ _ => by go_simp) hS ?_
                simp only [Act.put, List.setIfInBounds_toArray, List.set_cons_zero, List.set_cons_succ]
                refine wpAnyL_take 1 28 (.bool true) [2, 12, 15] rfl rfl (by kernel_rfl) (by kernel_rfl) (by kernel_rfl) (by kernel_rfl) (by kernel_rfl) (fun _ _ _ h => h) (by rfl) (fun _ _ => by go_simp) hS ?_
                simp only [Act.put, List.setIfInBounds_toArray, List.set_cons_zero, List.set_cons_succ]
                refine wpAnyL_take 2 29 (.bool true) [12, 15] rfl rfl (by kernel_rfl) (by kernel_rfl) (by kernel_rfl) (by kernel_rfl) (by kernel_rfl) (fun _ _ _ h => h) (by rfl) (fun _ _ => by go_simp) hS ?_
                simp only [Act.put, List.setIfInBounds_toArray, List.set_cons_zero, List.set_cons_succ]
                refine wpAnyL_take 3 30 (.pointer (some ⟨N, 1, none⟩)) [4, 7, 8, 9, 12, 15] rfl rfl (by kernel_rfl) (by kernel_rfl) (by kernel_rfl) (by kernel_rfl) (by kernel_rfl) (fun _ _ _ h => h) (by rfl) (fun _ _ => by go_simp) hS ?_
                simp only [Act.put, List.setIfInBounds_toArray, List.set_cons_zero, List.set_cons_succ]
                refine wpAnyL_take 4 31 (.slice (some ⟨g, o, none⟩) m v.bc) [7, 8, 9, 12, 15] rfl rfl (by kernel_rfl) (by kernel_rfl) (by kernel_rfl) (by kernel_rfl) (by kernel_rfl) (fun _ _ _ h => h) (by rfl) (fun W hW => by obtain ⟨e1, e2⟩ := hC1 W hW; go_simp) hS ?_
                simp only [Act.put, List.setIfInBounds_toArray, List.set_cons_zero, List.set_cons_succ]
                refine wpAnyL_take 5 32 (.int .i64 (k : Int)) [6, 7, 8, 9, 12, 15] rfl rfl (by kernel_rfl) (by kernel_rfl) (by kernel_rfl) (by kernel_rfl) (by kernel_rfl) (fun _ _ _ h => h) (by rfl) (fun _ _ => by go_simp) hS ?_
                simp only [Act.put, List.setIfInBounds_toArray, List.set_cons_zero, List.set_cons_succ]
                refine wpAnyL_take 6 33 (.int .i64 (j : Int)) [7, 8, 9, 12, 15] rfl rfl (by kernel_rfl) (by kernel_rfl) (by kernel_rfl) (by kernel_rfl) (by kernel_rfl) (fun _ _ _ h => h) (by rfl) (fun _ _ => by go_simp) hS ?_
                simp only [Act.put, List.setIfInBounds_toArray, List.set_cons_zero, List.set_cons_succ]
                refine wpAnyL_take 7 34 (.pointer (some ⟨g, oj, none⟩)) [8, 9, 12, 15] rfl rfl (by kernel_rfl) (by kernel_rfl) (by kernel_rfl) (by kernel_rfl) (by kernel_rfl) (fun _ _ _ h => h) (by rfl) (fun _ _ => by go_simp) hS ?_
                simp only [Act.put, List.setIfInBounds_toArray, List.set_cons_zero, List.set_cons_succ]
                refine wpAnyL_take 8 35 (.pointer (some ⟨g, oj, none⟩)) [9, 12, 15] rfl rfl (by kernel_rfl) (by kernel_rfl) (by kernel_rfl) (by kernel_rfl) (by kernel_rfl) (fun _ _ _ h => h) (by rfl) (fun _ _ => by go_simp) hS ?_
                simp only [Act.put, List.setIfInBounds_toArray, List.set_cons_zero, List.set_cons_succ]
                refine wpAnyL_take 9 36 (.agg #[.int .u32 (p.a : Int), .int .u64 (p.c : Int)]) [12, 15] rfl rfl (by kernel_rfl) (by kernel_rfl) (by kernel_rfl) (by kernel_rfl) (by kernel_rfl) (fun _ _ _ h => h) (by rfl) (fun W hW => by obtain ⟨e1, e2⟩ := hC2 W hW; go_simp) hS ?_
                simp only [Act.put, List.setIfInBounds_toArray, List.set_cons_zero, List.set_cons_succ]
                refine wpAnyL_take 10 37 (.pointer (some ⟨M, 0, none⟩)) [11, 12, 15] rfl rfl (by kernel_rfl) (by kernel_rfl) (by kernel_rfl) (by kernel_rfl) (by kernel_rfl) (fun _ _ _ h => h) (by rfl) (fun _ _ => by go_simp) hS ?_
                simp only [Act.put, List.setIfInBounds_toArray, List.set_cons_zero, List.set_cons_succ]
                refine wpAnyL_take 11 38 (.agg #[.int .u32 (q.a : Int), .int .u64 (q.c : Int)]) [12, 15] rfl rfl (by kernel_rfl) (by kernel_rfl) (by kernel_rfl) (by kernel_rfl) (by kernel_rfl) (fun _ _ _ h => h) (by rfl) (fun W hW => by obtain ⟨e1, e2⟩ := hC3 W hW; go_simp) hS ?_
                simp only [Act.put, List.setIfInBounds_toArray, List.set_cons_zero, List.set_cons_succ]
                refine wpAnyL_one (i := 12) (by kernel_rfl) rfl (by rfl) fun K hK => ?_
                refine wp_call_fn 94 _ _ (by rfl) #[.agg #[.int .u32 (p.a : Int), .int .u64 (p.c : Int)], .agg #[.int .u32 (q.a : Int), .int .u64 (q.c : Int)]] (by with_unfolding_all rfl) entRA (some 39) (by rfl) _ (unhide HCA _) ?_
                rintro _ X1 ⟨rfl, hbe⟩
                have HBX : Hid (Below W3.heap.size W3 X1) := hS.trans (hbe.mono hS.size)
                clear hbe
                refine hK _ _ (fun _ => unhide HBX) ?_
                clear hK K
                simp only [Act.put, List.setIfInBounds_toArray, List.set_cons_zero, List.set_cons_succ]
                refine wpAnyL_take 13 40 (.bool false) [14, 15] rfl rfl (by kernel_rfl) (by kernel_rfl) (by kernel_rfl) (by kernel_rfl) (by kernel_rfl) (fun _ _ _ h => h) (by rfl) (fun _ _ => by go_simp) (unhide HBX) ?_
                simp only [Act.put, List.setIfInBounds_toArray, List.set_cons_zero, List.set_cons_succ]
                refine wpAnyL_take 14 41 (.bool false) [15] rfl rfl (by kernel_rfl) (by kernel_rfl) (by kernel_rfl) (by kernel_rfl) (by kernel_rfl) (fun _ _ _ h => h) (by rfl) (fun _ _ => by go_simp) (unhide HBX) ?_
                simp only [Act.put, List.setIfInBounds_toArray, List.set_cons_zero, List.set_cons_succ]
                refine wpAnyL_take 15 42 (.bool false) [] rfl rfl (by kernel_rfl) (by kernel_rfl) (by kernel_rfl) (by kernel_rfl) (by kernel_rfl) (fun _ _ _ h => h) (by rfl) (fun _ _ => by go_simp) (unhide HBX) ?_
                simp only [Act.put, List.setIfInBounds_toArray, List.set_cons_zero, List.set_cons_succ]
                refine wpAnyL_take 16 43 (.pointer (some ⟨N, 0, none⟩)) [17, 20, 21] rfl rfl (by kernel_rfl) (by kernel_rfl) (by kernel_rfl) (by kernel_rfl) (by kernel_rfl) (fun _ _ _ h => h) (by rfl) (fun _ _ => by go_simp) (unhide HBX) ?_
                simp only [Act.put, List.setIfInBounds_toArray, List.set_cons_zero, List.set_cons_succ]
                refine wpAnyL_take 17 44 (.slice v.sa n v.sc) [20, 21] rfl rfl (by kernel_rfl) (by kernel_rfl) (by kernel_rfl) (by kernel_rfl) (by kernel_rfl) (fun _ _ _ h => h) (by rfl) (fun W hW => by obtain ⟨e1, e2⟩ := hC1 W hW; go_simp) (unhide HBX) ?_
                simp only [Act.put, List.setIfInBounds_toArray, List.set_cons_zero, List.set_cons_succ]
                refine wpAnyL_take 18 45 (.pointer (some ⟨M, 0, none⟩)) [19, 20, 21] rfl rfl (by kernel_rfl) (by kernel_rfl) (by kernel_rfl) (by kernel_rfl) (by kernel_rfl) (fun _ _ _ h => h) (by rfl) (fun _ _ => by go_simp) (unhide HBX) ?_
                simp only [Act.put, List.setIfInBounds_toArray, List.set_cons_zero, List.set_cons_succ]
                refine wpAnyL_take 19 46 (.agg #[.int .u32 (q.a : Int), .int .u64 (q.c : Int)]) [20, 21] rfl rfl (by kernel_rfl) (by kernel_rfl) (by kernel_rfl) (by kernel_rfl) (by kernel_rfl) (fun _ _ _ h => h) (by rfl) (fun W hW => by obtain ⟨e1, e2⟩ := hC3 W hW; go_simp) (unhide HBX) ?_
                simp only [Act.put, List.setIfInBounds_toArray, List.set_cons_zero, List.set_cons_succ]
                refine wpAnyL_one (i := 20) (by kernel_rfl) rfl (by rfl) fun K hK => ?_
                refine wp_call_fn 93 _ _ (by rfl) #[.slice v.sa n v.sc, .agg #[.int .u32 (q.a : Int), .int .u64 (q.c : Int)]] (by with_unfolding_all rfl) entRC10 (some 47) (by rfl) _ (unhide HKC _ (unhide HDX _ (unhide HBX)) q true (by simp [hcv])) ?_
                rintro _ X2 ⟨rfl, hbe⟩
                have HBY : Hid (Below W3.heap.size W3 X2) := (unhide HBX).trans (hbe.mono (unhide HBX).size)
                clear hbe
                refine hK _ _ (fun _ => unhide HBY) ?_
                clear hK K
                simp only [Act.put, List.setIfInBounds_toArray, List.set_cons_zero, List.set_cons_succ]
                refine wpAnyL_take 21 48 (.bool false) [] rfl rfl (by kernel_rfl) (by kernel_rfl) (by kernel_rfl) (by kernel_rfl) (by kernel_rfl) (fun _ _ _ h => h) (by rfl) (fun _ _ => by go_simp) (unhide HBY) ?_
                simp only [Act.put, List.setIfInBounds_toArray, List.set_cons_zero, List.set_cons_succ]
                refine wpAnyL_one (i := 22) (by kernel_rfl) rfl (by rfl) fun K hK => ?_
                refine wp_val (.bool false) (by go_simp) (some 49) (by rfl) ?_
                refine hK _ _ (fun _ => unhide HBY) ?_
                clear hK K
                simp only [Act.put, List.setIfInBounds_toArray, List.set_cons_zero, List.set_cons_succ]
                refine wpAnyL_done (by kernel_rfl) ?_ _
                clear hcv
                obtain ⟨x0, x1, x2, x3⟩ := sib_cells (box_below (unhide HX3) (unhide HBY))
                have HBE : Hid (Below W1.heap.size W1 X2) := unhide HUP _ ((unhide HB4).trans ((unhide HBY).mono (unhide HB4).size))
                obtain ⟨qa, qc, qg, qv⟩ := q
                have hqs : (qv.size : Int) ≤ 140737488355328 := by have := (unhide HFq).2.2; simp only at this; omega
                by_cases hsz : qv.size ≤ 40
                · have hszi : ¬ (40 : Int) < (qv.size : Int) := by omega
                  cases qg
                  · have HGK : Hid (sgood s k hkl) := (unhide HG).2 ⟨unhide HAH, unhide HCV, hsz⟩
                    clear hsz
                    go_wp2
                    go_roundw
                    case rel => exact ⟨k + 1, by omega, by go_num, unhide HBE, unhide HR (unhide HGK)⟩
                    case measure => simp [intOf]; omega
                  · by_cases h0 : qv.size = 0
                    · obtain rfl := size_zero.1 h0
                      have HGK : Hid (sgood s k hkl) := (unhide HG).2 ⟨unhide HAH, unhide HCV, rfl⟩
                      clear hsz h0 hszi hqs
                      go_wp2
                      go_roundw
                      case rel => exact ⟨k + 1, by omega, by go_num, unhide HBE, unhide HR (unhide HGK)⟩
                      case measure => simp [intOf]; omega
                    · have HBAD : Hid (ok = false) := unhide HE1 fun hg => h0 ((unhide HG).1 hg).2.2
                      have hne : (qv.toList == (⟨#[]⟩ : ByteArray).toList) = false := by rw [list_beq]; exact decide_eq_false fun e => h0 (by rw [e]; rfl)
                      have hne2 : (qv.toList == []) = false := by have h := hne; rwa [show (⟨#[]⟩ : ByteArray).toList = [] by rw [ByteArray.toList_eq]] at h
                      have hne3 : ¬ qv.toList = [] := by simpa using hne2
                      clear hsz h0
                      go_wp2
                      go_ret
                      exact ⟨by rw [unhide HBAD]; rfl, unhide HUB _ (unhide HBE)⟩
                · have HBAD : Hid (ok = false) := unhide HE1 fun hg => hsz (by
                    have := ((unhide HG).1 hg).2.2
                    unfold Sb.may at this
                    split at this <;> simp only at this <;> omega)
                  have hszi : (40 : Int) < (qv.size : Int) := by omega
                  clear hsz
                  go_wp2
                  go_ret
                  exact ⟨by rw [unhide HBAD]; rfl, unhide HUB _ (unhide HBE)⟩
              · have HBAD : Hid (ok = false) := unhide HE1 fun hg => hcv ((unhide HG).1 hg).2.1
                refine wpAnyL_take 0 27 (.int .i64 (k : Int)) [1, 2, 12, 15] rfl rfl (by kernel_rfl) (by kernel_rfl) (by kernel_rfl) (by kernel_rfl) (by kernel_rfl) (fun _ _ _ h => h) (by rfl) (fun _ _ => by go_simp) hS ?_
                simp only [Act.put, List.setIfInBounds_toArray, List.set_cons_zero, List.set_cons_succ]
                refine wpAnyL_take 1 28 (.bool true) [2, 12, 15] rfl rfl (by kernel_rfl) (by kernel_rfl) (by kernel_rfl) (by kernel_rfl) (by kernel_rfl) (fun _ _ _ h => h) (by rfl) (fun _ _ => by go_simp) hS ?_
                simp only [Act.put, List.setIfInBounds_toArray, List.set_cons_zero, List.set_cons_succ]
                refine wpAnyL_take 2 29 (.bool true) [12, 15] rfl rfl (by kernel_rfl) (by kernel_rfl) (by kernel_rfl) (by kernel_rfl) (by kernel_rfl) (fun _ _ _ h => h) (by rfl) (fun _ _ => by go_simp) hS ?_
                simp only [Act.put, List.setIfInBounds_toArray, List.set_cons_zero, List.set_cons_succ]
                refine wpAnyL_take 3 30 (.pointer (some ⟨N, 1, none⟩)) [4, 7, 8, 9, 12, 15] rfl rfl (by kernel_rfl) (by kernel_rfl) (by kernel_rfl) (by kernel_rfl) (by kernel_rfl) (fun _ _ _ h => h) (by rfl) (fun _ _ => by go_simp) hS ?_
                simp only [Act.put, List.setIfInBounds_toArray, List.set_cons_zero, List.set_cons_succ]
                refine wpAnyL_take 4 31 (.slice (some ⟨g, o, none⟩) m v.bc) [7, 8, 9, 12, 15] rfl rfl (by kernel_rfl) (by kernel_rfl) (by kernel_rfl) (by kernel_rfl) (by kernel_rfl) (fun _ _ _ h => h) (by rfl) (fun W hW => by obtain ⟨e1, e2⟩ := hC1 W hW; go_simp) hS ?_
                simp only [Act.put, List.setIfInBounds_toArray, List.set_cons_zero, List.set_cons_succ]
                refine wpAnyL_take 5 32 (.int .i64 (k : Int)) [6, 7, 8, 9, 12, 15] rfl rfl (by kernel_rfl) (by kernel_rfl) (by kernel_rfl) (by kernel_rfl) (by kernel_rfl) (fun _ _ _ h => h) (by rfl) (fun _ _ => by go_simp) hS ?_
                simp only [Act.put, List.setIfInBounds_toArray, List.set_cons_zero, List.set_cons_succ]
                refine wpAnyL_take 6 33 (.int .i64 (j : Int)) [7, 8, 9, 12, 15] rfl rfl (by kernel_rfl) (by kernel_rfl) (by kernel_rfl) (by kernel_rfl) (by kernel_rfl) (fun _ _ _ h => h) (by rfl) (fun _ _ => by go_simp) hS ?_
                simp only [Act.put, List.setIfInBounds_toArray, List.set_cons_zero, List.set_cons_succ]
                refine wpAnyL_take 7 34 (.pointer (some ⟨g, oj, none⟩)) [8, 9, 12, 15] rfl rfl (by kernel_rfl) (by kernel_rfl) (by kernel_rfl) (by kernel_rfl) (by kernel_rfl) (fun _ _ _ h => h) (by rfl) (fun _ _ => by go_simp) hS ?_
                simp only [Act.put, List.setIfInBounds_toArray, List.set_cons_zero, List.set_cons_succ]
                refine wpAnyL_take 8 35 (.pointer (some ⟨g, oj, none⟩)) [9, 12, 15] rfl rfl (by kernel_rfl) (by kernel_rfl) (by kernel_rfl) (by kernel_rfl) (by kernel_rfl) (fun _ _ _ h => h) (by rfl) (fun _ _ => by go_simp) hS ?_
                simp only [Act.put, List.setIfInBounds_toArray, List.set_cons_zero, List.set_cons_succ]
                refine wpAnyL_take 9 36 (.agg #[.int .u32 (p.a : Int), .int .u64 (p.c : Int)]) [12, 15] rfl rfl (by kernel_rfl) (by kernel_rfl) (by kernel_rfl) (by kernel_rfl) (by kernel_rfl) (fun _ _ _ h => h) (by rfl) (fun W hW => by obtain ⟨e1, e2⟩ := hC2 W hW; go_simp) hS ?_
                simp only [Act.put, List.setIfInBounds_toArray, List.set_cons_zero, List.set_cons_succ]
                refine wpAnyL_take 10 37 (.pointer (some ⟨M, 0, none⟩)) [11, 12, 15] rfl rfl (by kernel_rfl) (by kernel_rfl) (by kernel_rfl) (by kernel_rfl) (by kernel_rfl) (fun _ _ _ h => h) (by rfl) (fun _ _ => by go_simp) hS ?_
                simp only [Act.put, List.setIfInBounds_toArray, List.set_cons_zero, List.set_cons_succ]
                refine wpAnyL_take 11 38 (.agg #[.int .u32 (q.a : Int), .int .u64 (q.c : Int)]) [12, 15] rfl rfl (by kernel_rfl) (by kernel_rfl) (by kernel_rfl) (by kernel_rfl) (by kernel_rfl) (fun _ _ _ h => h) (by rfl) (fun W hW => by obtain ⟨e1, e2⟩ := hC3 W hW; go_simp) hS ?_
                simp only [Act.put, List.setIfInBounds_toArray, List.set_cons_zero, List.set_cons_succ]
                refine wpAnyL_one (i := 12) (by kernel_rfl) rfl (by rfl) fun K hK => ?_
                refine wp_call_fn 94 _ _ (by rfl) #[.agg #[.int .u32 (p.a : Int), .int .u64 (p.c : Int)], .agg #[.int .u32 (q.a : Int), .int .u64 (q.c : Int)]] (by with_unfolding_all rfl) entRA (some 39) (by rfl) _ (unhide HCA _) ?_
                rintro _ X1 ⟨rfl, hbe⟩
                have HBX : Hid (Below W3.heap.size W3 X1) := hS.trans (hbe.mono hS.size)
                clear hbe
                refine hK _ _ (fun _ => unhide HBX) ?_
                clear hK K
                simp only [Act.put, List.setIfInBounds_toArray, List.set_cons_zero, List.set_cons_succ]
                refine wpAnyL_take 13 40 (.bool false) [14, 15] rfl rfl (by kernel_rfl) (by kernel_rfl) (by kernel_rfl) (by kernel_rfl) (by kernel_rfl) (fun _ _ _ h => h) (by rfl) (fun _ _ => by go_simp) (unhide HBX) ?_
                simp only [Act.put, List.setIfInBounds_toArray, List.set_cons_zero, List.set_cons_succ]
                refine wpAnyL_take 14 41 (.bool false) [15] rfl rfl (by kernel_rfl) (by kernel_rfl) (by kernel_rfl) (by kernel_rfl) (by kernel_rfl) (fun _ _ _ h => h) (by rfl) (fun _ _ => by go_simp) (unhide HBX) ?_
                simp only [Act.put, List.setIfInBounds_toArray, List.set_cons_zero, List.set_cons_succ]
                refine wpAnyL_take 15 42 (.bool false) [] rfl rfl (by kernel_rfl) (by kernel_rfl) (by kernel_rfl) (by kernel_rfl) (by kernel_rfl) (fun _ _ _ h => h) (by rfl) (fun _ _ => by go_simp) (unhide HBX) ?_
                simp only [Act.put, List.setIfInBounds_toArray, List.set_cons_zero, List.set_cons_succ]
                refine wpAnyL_take 16 43 (.pointer (some ⟨N, 0, none⟩)) [17, 20, 21] rfl rfl (by kernel_rfl) (by kernel_rfl) (by kernel_rfl) (by kernel_rfl) (by kernel_rfl) (fun _ _ _ h => h) (by rfl) (fun _ _ => by go_simp) (unhide HBX) ?_
                simp only [Act.put, List.setIfInBounds_toArray, List.set_cons_zero, List.set_cons_succ]
                refine wpAnyL_take 17 44 (.slice v.sa n v.sc) [20, 21] rfl rfl (by kernel_rfl) (by kernel_rfl) (by kernel_rfl) (by kernel_rfl) (by kernel_rfl) (fun _ _ _ h => h) (by rfl) (fun W hW => by obtain ⟨e1, e2⟩ := hC1 W hW; go_simp) (unhide HBX) ?_
                simp only [Act.put, List.setIfInBounds_toArray, List.set_cons_zero, List.set_cons_succ]
                refine wpAnyL_take 18 45 (.pointer (some ⟨M, 0, none⟩)) [19, 20, 21] rfl rfl (by kernel_rfl) (by kernel_rfl) (by kernel_rfl) (by kernel_rfl) (by kernel_rfl) (fun _ _ _ h => h) (by rfl) (fun _ _ => by go_simp) (unhide HBX) ?_
                simp only [Act.put, List.setIfInBounds_toArray, List.set_cons_zero, List.set_cons_succ]
                refine wpAnyL_take 19 46 (.agg #[.int .u32 (q.a : Int), .int .u64 (q.c : Int)]) [20, 21] rfl rfl (by kernel_rfl) (by kernel_rfl) (by kernel_rfl) (by kernel_rfl) (by kernel_rfl) (fun _ _ _ h => h) (by rfl) (fun W hW => by obtain ⟨e1, e2⟩ := hC3 W hW; go_simp) (unhide HBX) ?_
                simp only [Act.put, List.setIfInBounds_toArray, List.set_cons_zero, List.set_cons_succ]
                refine wpAnyL_one (i := 20) (by kernel_rfl) rfl (by rfl) fun K hK => ?_
                refine wp_call_fn 93 _ _ (by rfl) #[.slice v.sa n v.sc, .agg #[.int .u32 (q.a : Int), .int .u64 (q.c : Int)]] (by with_unfolding_all rfl) entRC10 (some 47) (by rfl) _ (unhide HKC _ (unhide HDX _ (unhide HBX)) q false (by simp [hcv])) ?_
                rintro _ X2 ⟨rfl, hbe⟩
                have HBY : Hid (Below W3.heap.size W3 X2) := (unhide HBX).trans (hbe.mono (unhide HBX).size)
                clear hbe
                refine hK _ _ (fun _ => unhide HBY) ?_
                clear hK K
                simp only [Act.put, List.setIfInBounds_toArray, List.set_cons_zero, List.set_cons_succ]
                refine wpAnyL_take 21 48 (.bool true) [] rfl rfl (by kernel_rfl) (by kernel_rfl) (by kernel_rfl) (by kernel_rfl) (by kernel_rfl) (fun _ _ _ h => h) (by rfl) (fun _ _ => by go_simp) (unhide HBY) ?_
                simp only [Act.put, List.setIfInBounds_toArray, List.set_cons_zero, List.set_cons_succ]
                refine wpAnyL_one (i := 22) (by kernel_rfl) rfl (by rfl) fun K hK => ?_
                refine wp_val (.bool true) (by go_simp) (some 49) (by rfl) ?_
                refine hK _ _ (fun _ => unhide HBY) ?_
                clear hK K
                simp only [Act.put, List.setIfInBounds_toArray, List.set_cons_zero, List.set_cons_succ]
                refine wpAnyL_done (by kernel_rfl) ?_ _
                clear hcv
                go_wp2
                go_ret
                exact ⟨by rw [unhide HBAD]; rfl, unhide HUB _ (unhide HUP _ ((unhide HB4).trans ((unhide HBY).mono (unhide HB4).size)))⟩
            · have HBAD : Hid (ok = false) := unhide HE1 fun hg => hah2 ((unhide HG3).1 ((unhide HG).1 hg).1)
              clear hah2
              refine wpAnyL_take 0 27 (.int .i64 (k : Int)) [1, 2, 12, 15] rfl rfl (by kernel_rfl) (by kernel_rfl) (by kernel_rfl) (by kernel_rfl) (by kernel_rfl) (fun _ _ _ h => h) (by rfl) (fun _ _ => by go_simp) hS ?_
              simp only [Act.put, List.setIfInBounds_toArray, List.set_cons_zero, List.set_cons_succ]
              refine wpAnyL_take 1 28 (.bool true) [2, 12, 15] rfl rfl (by kernel_rfl) (by kernel_rfl) (by kernel_rfl) (by kernel_rfl) (by kernel_rfl) (fun _ _ _ h => h) (by rfl) (fun _ _ => by go_simp) hS ?_
              simp only [Act.put, List.setIfInBounds_toArray, List.set_cons_zero, List.set_cons_succ]
              refine wpAnyL_take 2 29 (.bool true) [12, 15] rfl rfl (by kernel_rfl) (by kernel_rfl) (by kernel_rfl) (by kernel_rfl) (by kernel_rfl) (fun _ _ _ h => h) (by rfl) (fun _ _ => by go_simp) hS ?_
              simp only [Act.put, List.setIfInBounds_toArray, List.set_cons_zero, List.set_cons_succ]
              refine wpAnyL_take 3 30 (.pointer (some ⟨N, 1, none⟩)) [4, 7, 8, 9, 12, 15] rfl rfl (by kernel_rfl) (by kernel_rfl) (by kernel_rfl) (by kernel_rfl) (by kernel_rfl) (fun _ _ _ h => h) (by rfl) (fun _ _ => by go_simp) hS ?_
              simp only [Act.put, List.setIfInBounds_toArray, List.set_cons_zero, List.set_cons_succ]
              refine wpAnyL_take 4 31 (.slice (some ⟨g, o, none⟩) m v.bc) [7, 8, 9, 12, 15] rfl rfl (by kernel_rfl) (by kernel_rfl) (by kernel_rfl) (by kernel_rfl) (by kernel_rfl) (fun _ _ _ h => h) (by rfl) (fun W hW => by obtain ⟨e1, e2⟩ := hC1 W hW; go_simp) hS ?_
              simp only [Act.put, List.setIfInBounds_toArray, List.set_cons_zero, List.set_cons_succ]
              refine wpAnyL_take 5 32 (.int .i64 (k : Int)) [6, 7, 8, 9, 12, 15] rfl rfl (by kernel_rfl) (by kernel_rfl) (by kernel_rfl) (by kernel_rfl) (by kernel_rfl) (fun _ _ _ h => h) (by rfl) (fun _ _ => by go_simp) hS ?_
              simp only [Act.put, List.setIfInBounds_toArray, List.set_cons_zero, List.set_cons_succ]
              refine wpAnyL_take 6 33 (.int .i64 (j : Int)) [7, 8, 9, 12, 15] rfl rfl (by kernel_rfl) (by kernel_rfl) (by kernel_rfl) (by kernel_rfl) (by kernel_rfl) (fun _ _ _ h => h) (by rfl) (fun _ _ => by go_simp) hS ?_
              simp only [Act.put, List.setIfInBounds_toArray, List.set_cons_zero, List.set_cons_succ]
              refine wpAnyL_take 7 34 (.pointer (some ⟨g, oj, none⟩)) [8, 9, 12, 15] rfl rfl (by kernel_rfl) (by kernel_rfl) (by kernel_rfl) (by kernel_rfl) (by kernel_rfl) (fun _ _ _ h => h) (by rfl) (fun _ _ => by go_simp) hS ?_
              simp only [Act.put, List.setIfInBounds_toArray, List.set_cons_zero, List.set_cons_succ]
              refine wpAnyL_take 8 35 (.pointer (some ⟨g, oj, none⟩)) [9, 12, 15] rfl rfl (by kernel_rfl) (by kernel_rfl) (by kernel_rfl) (by kernel_rfl) (by kernel_rfl) (fun _ _ _ h => h) (by rfl) (fun _ _ => by go_simp) hS ?_
              simp only [Act.put, List.setIfInBounds_toArray, List.set_cons_zero, List.set_cons_succ]
              refine wpAnyL_take 9 36 (.agg #[.int .u32 (p.a : Int), .int .u64 (p.c : Int)]) [12, 15] rfl rfl (by kernel_rfl) (by kernel_rfl) (by kernel_rfl) (by kernel_rfl) (by kernel_rfl) (fun _ _ _ h => h) (by rfl) (fun W hW => by obtain ⟨e1, e2⟩ := hC2 W hW; go_simp) hS ?_
              simp only [Act.put, List.setIfInBounds_toArray, List.set_cons_zero, List.set_cons_succ]
              refine wpAnyL_take 10 37 (.pointer (some ⟨M, 0, none⟩)) [11, 12, 15] rfl rfl (by kernel_rfl) (by kernel_rfl) (by kernel_rfl) (by kernel_rfl) (by kernel_rfl) (fun _ _ _ h => h) (by rfl) (fun _ _ => by go_simp) hS ?_
              simp only [Act.put, List.setIfInBounds_toArray, List.set_cons_zero, List.set_cons_succ]
              refine wpAnyL_take 11 38 (.agg #[.int .u32 (q.a : Int), .int .u64 (q.c : Int)]) [12, 15] rfl rfl (by kernel_rfl) (by kernel_rfl) (by kernel_rfl) (by kernel_rfl) (by kernel_rfl) (fun _ _ _ h => h) (by rfl) (fun W hW => by obtain ⟨e1, e2⟩ := hC3 W hW; go_simp) hS ?_
              simp only [Act.put, List.setIfInBounds_toArray, List.set_cons_zero, List.set_cons_succ]
              refine wpAnyL_one (i := 12) (by kernel_rfl) rfl (by rfl) fun K hK => ?_
              refine wp_call_fn 94 _ _ (by rfl) #[.agg #[.int .u32 (p.a : Int), .int .u64 (p.c : Int)], .agg #[.int .u32 (q.a : Int), .int .u64 (q.c : Int)]] (by with_unfolding_all rfl) entRA (some 39) (by rfl) _ (unhide HCA _) ?_
              rintro _ X1 ⟨rfl, hbe⟩
              have HBX : Hid (Below W3.heap.size W3 X1) := hS.trans (hbe.mono hS.size)
              clear hbe
              refine hK _ _ (fun _ => unhide HBX) ?_
              clear hK K
              simp only [Act.put, List.setIfInBounds_toArray, List.set_cons_zero, List.set_cons_succ]
              refine wpAnyL_take 13 40 (.bool true) [14, 15] rfl rfl (by kernel_rfl) (by kernel_rfl) (by kernel_rfl) (by kernel_rfl) (by kernel_rfl) (fun _ _ _ h => h) (by rfl) (fun _ _ => by go_simp) (unhide HBX) ?_
              simp only [Act.put, List.setIfInBounds_toArray, List.set_cons_zero, List.set_cons_succ]
              refine wpAnyL_take 14 41 (.bool true) [15] rfl rfl (by kernel_rfl) (by kernel_rfl) (by kernel_rfl) (by kernel_rfl) (by kernel_rfl) (fun _ _ _ h => h) (by rfl) (fun _ _ => by go_simp) (unhide HBX) ?_
              simp only [Act.put, List.setIfInBounds_toArray, List.set_cons_zero, List.set_cons_succ]
              refine wpAnyL_take 15 42 (.bool true) [] rfl rfl (by kernel_rfl) (by kernel_rfl) (by kernel_rfl) (by kernel_rfl) (by kernel_rfl) (fun _ _ _ h => h) (by rfl) (fun _ _ => by go_simp) (unhide HBX) ?_
              simp only [Act.put, List.setIfInBounds_toArray, List.set_cons_zero, List.set_cons_succ]
              refine wpAnyL_skip 16 43 [17, 20, 21] rfl rfl (by kernel_rfl) (by kernel_rfl) (by kernel_rfl) (by kernel_rfl) (by kernel_rfl) (fun _ _ _ h => h) (by rfl) (unhide HBX) ?_
              simp only [Act.put, List.setIfInBounds_toArray, List.set_cons_zero, List.set_cons_succ]
              refine wpAnyL_skip 17 44 [20, 21] rfl rfl (by kernel_rfl) (by kernel_rfl) (by kernel_rfl) (by kernel_rfl) (by kernel_rfl) (fun _ _ _ h => h) (by rfl) (unhide HBX) ?_
              simp only [Act.put, List.setIfInBounds_toArray, List.set_cons_zero, List.set_cons_succ]
              refine wpAnyL_skip 18 45 [19, 20, 21] rfl rfl (by kernel_rfl) (by kernel_rfl) (by kernel_rfl) (by kernel_rfl) (by kernel_rfl) (fun _ _ _ h => h) (by rfl) (unhide HBX) ?_
              simp only [Act.put, List.setIfInBounds_toArray, List.set_cons_zero, List.set_cons_succ]
              refine wpAnyL_skip 19 46 [20, 21] rfl rfl (by kernel_rfl) (by kernel_rfl) (by kernel_rfl) (by kernel_rfl) (by kernel_rfl) (fun _ _ _ h => h) (by rfl) (unhide HBX) ?_
              simp only [Act.put, List.setIfInBounds_toArray, List.set_cons_zero, List.set_cons_succ]
              refine wpAnyL_skip 20 47 [21] rfl rfl (by kernel_rfl) (by kernel_rfl) (by kernel_rfl) (by kernel_rfl) (by kernel_rfl) (fun _ _ _ h => h) (by rfl) (unhide HBX) ?_
              simp only [Act.put, List.setIfInBounds_toArray, List.set_cons_zero, List.set_cons_succ]
              refine wpAnyL_skip 21 48 [] rfl rfl (by kernel_rfl) (by kernel_rfl) (by kernel_rfl) (by kernel_rfl) (by kernel_rfl) (fun _ _ _ h => h) (by rfl) (unhide HBX) ?_
              simp only [Act.put, List.setIfInBounds_toArray, List.set_cons_zero, List.set_cons_succ]
              refine wpAnyL_one (i := 22) (by kernel_rfl) rfl (by rfl) fun K hK => ?_
              refine wp_val (.bool true) (by go_simp) (some 49) (by rfl) ?_
              refine hK _ _ (fun _ => unhide HBX) ?_
              clear hK K
              simp only [Act.put, List.setIfInBounds_toArray, List.set_cons_zero, List.set_cons_succ]
              refine wpAnyL_done (by kernel_rfl) ?_ _
              go_wp2
              go_ret
              exact ⟨by rw [unhide HBAD]; rfl, unhide HUB _ (unhide HUP _ ((unhide HB4).trans ((unhide HBX).mono (unhide HB4).size)))⟩
        · obtain rfl : k = m := by omega
          have hki : ¬ (k : Int) < (k : Int) := by omega
          go_wp2
          go_ret
          refine ⟨?_, unhide HUB _ (unhide HI).1⟩
          rw [unhide HT fun i hi => (unhide HI).2 i hi (by rw [unhide HNM]; exact hi)]
          rfl
    · rw [show sokB s = false from sokB_false.2 fun ho => h64 (by rw [unhide HNM]; exact ho.len)]
      have h64i : (64 : Int) < (m : Int) := by omega
      go_enter Try.func82, Try.ntmps82
      go_wp2_with (first
        | ((with_reducible refine wpList_box_state (by rfl) (.tmp 0) (by rfl) (some 1) (by rfl) N (unhide HN) v n m (by with_unfolding_all rfl) ?_); intro W1 HX1 HB1 HS1; simp only [Act.put, List.setIfInBounds_toArray, List.set_cons_zero, List.set_cons_succ]; have HD1 : Hid (Da W1 s.seen v.sa v.sc) := (unhide HD).below (by rw [← unhide HN]; exact unhide HB1); obtain ⟨y0, y1⟩ := st_cells (unhide HX1))
        | (go_at_call 91; refine (unhide HKV W1 (unhide HD1)).mono ?_; rintro e w2 ⟨rfl, hb2⟩; obtain ⟨z0, z1⟩ := st_cells (box_below (unhide HX1) hb2); have HB2 := hide hb2; clear hb2 y0 y1)
        | fail)
      go_ret
      exact ⟨rfl, (unhide HB1).trans ((unhide HB2).mono (by rw [unhide HS1]; omega))⟩
  · rw [show sokB s = false from sokB_false.2 fun ho => hok (V.okB_true.2 ho.ok)]
    rw [show V.okB s.seen = false by simpa using hok] at HKV
    clear hok
    go_enter Try.func82, Try.ntmps82
    go_wp2_with (first
      | ((with_reducible refine wpList_box_state (by rfl) (.tmp 0) (by rfl) (some 1) (by rfl) N (unhide HN) v n m (by with_unfolding_all rfl) ?_); intro W1 HX1 HB1 HS1; simp only [Act.put, List.setIfInBounds_toArray, List.set_cons_zero, List.set_cons_succ]; have HD1 : Hid (Da W1 s.seen v.sa v.sc) := (unhide HD).below (by rw [← unhide HN]; exact unhide HB1); obtain ⟨y0, y1⟩ := st_cells (unhide HX1))
      | (go_at_call 91; refine (unhide HKV W1 (unhide HD1)).mono ?_; rintro e w2 ⟨rfl, hb2⟩; obtain ⟨z0, z1⟩ := st_cells (box_below (unhide HX1) hb2); have HB2 := hide hb2; clear hb2 y0 y1)
      | fail)
    go_ret
    exact ⟨rfl, (unhide HB1).trans ((unhide HB2).mono (by rw [unhide HS1]; omega))⟩
end Go.Proofs.Ytkcbljmjhlnjpaa
