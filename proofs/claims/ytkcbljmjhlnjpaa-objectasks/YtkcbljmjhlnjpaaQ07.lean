/- Put together out of Yg, Yh. -/
import Derived.Test.YtkcbljmjhlnjpaaQ06
namespace Go.Proofs.Ytkcbljmjhlnjpaa
open Go.RowKit Go.Lib
/-- is the i-th sibling as it must be -/
def sgood (s : St) (i : Nat) (h : i < s.sibs.length) : Prop := (0 < i → ah s.sibs[i - 1].dot s.sibs[i].dot) ∧ cov s.seen s.sibs[i].dot ∧ s.sibs[i].may
theorem rise_of {l : List Sb} (h : ∀ i (h : i + 1 < l.length), ah l[i].dot l[i + 1].dot) : Rise l := by
  refine List.pairwise_iff_getElem.2 fun i j hi hj hij => ?_
  obtain ⟨k, rfl⟩ : ∃ k, j = i + 1 + k := ⟨j - (i + 1), by omega⟩
  clear hij
  induction k with
  | zero => exact h i hj
  | succ k ih => exact ah_trans (ih (by omega)) (h (i + 1 + k) hj)
theorem sok_iff {s : St} : SOk s ↔ V.Ok s.seen ∧ s.sibs.length ≤ 64 ∧ ∀ i (h : i < s.sibs.length), sgood s i h := by
  constructor
  · intro h
    refine ⟨h.ok, h.len, fun i hi => ⟨fun h0 => ?_, h.cvd _ (List.getElem_mem hi), h.may _ (List.getElem_mem hi)⟩⟩
    exact List.pairwise_iff_getElem.1 h.up (i - 1) i (by omega) hi (by omega)
  · rintro ⟨h1, h2, h3⟩
    refine ⟨⟨h1.toVec, rise_of fun i hi => ?_, fun x hx => ?_, fun x hx => ?_⟩, h1.len, h2⟩
    · exact (h3 (i + 1) hi).1 (by omega)
    · obtain ⟨i, hi, rfl⟩ := List.getElem_of_mem hx
      exact (h3 i hi).2.1
    · obtain ⟨i, hi, rfl⟩ := List.getElem_of_mem hx
      exact (h3 i hi).2.2
theorem not_sok_at {s : St} {i : Nat} (h : i < s.sibs.length) (hg : ¬ sgood s i h) : sokB s = false := sokB_false.2 fun ho => hg ((sok_iff.1 ho).2.2 i h)
theorem mayB_iff {x : Sb} : mayB x.gone x.val = true ↔ x.may := by unfold mayB Sb.may; rw [decide_eq_true_iff]
open Classical in
theorem ahB_true {d e : Nat × Nat} : ahB d e = true ↔ ah d e := by unfold ahB; rw [decide_eq_true_iff]
theorem bool_cases {b : Bool} {p : Prop} (h : b = true ↔ p) : (b = true ∧ p) ∨ (b = false ∧ ¬ p) := by
  cases b
  · exact .inr ⟨rfl, fun hp => by cases h.2 hp⟩
  · exact .inl ⟨rfl, h.1 rfl⟩
set_option maxRecDepth 100000 in
set_option maxHeartbeats 4000000 in
theorem dValid' (s : St) (v : Sv) (u : World) (h : SAt u s v) : Calls Try.prog 81 #[v.v s.seen.length s.sibs.length] u fun e u' => e = .returned (.bool (sokB s)) ∧ Below u.heap.size u u' := by
  have hmix : Try.prog.follows .mixedOrders = true := by kernel_rfl
  obtain ⟨N, hN⟩ : ∃ N, N = u.heap.size := ⟨_, rfl⟩
  have HN := hide hN
  have HD := hide h.seen
  have HA := hide h.sibs
  have hl0 := h.sibs.len
  rw [← hN]
  obtain ⟨n, hn⟩ : ∃ n, n = s.seen.length := ⟨_, rfl⟩
  obtain ⟨m, hm⟩ : ∃ m, m = s.sibs.length := ⟨_, rfl⟩
  have HNN := hide hn
  have HNM := hide hm
  rw [← hn, ← hm]
  rw [← hm] at hl0
  clear hN hn hm h
  have hmi : (m : Int) ≤ 3518437208780 := by omega
  have HKV : Hid (∀ (W0 : World), Da W0 s.seen v.sa v.sc → ∀ (r : Bool), V.okB s.seen = r → ∀ W, Below W0.heap.size W0 W → Calls Try.prog 122 #[.slice v.sa n v.sc] W fun e W' => e = .returned (.bool r) ∧ Below W0.heap.size W0 W') := fun W0 h0 r hr W hW => kValid r hr (unhide HNN) h0 W hW
  by_cases hok : V.okB s.seen = true
  · have HOK := hide (V.okB_true.1 hok)
    have HV1 := hide (fun W0 h0 => unhide HKV W0 h0 true hok)
    clear HKV hok
    by_cases h64 : m ≤ 64
    · have h64i : ¬ (64 : Int) < (m : Int) := by omega
      have HE : Hid (∀ i (hi : i < s.sibs.length), ¬ sgood s i hi → sokB s = false) := fun i hi hg => not_sok_at hi hg
      have HT : Hid ((∀ i (hi : i < s.sibs.length), sgood s i hi) → sokB s = true) := fun hg => sokB_true.2 (sok_iff.2 ⟨unhide HOK, by rw [← unhide HNM]; exact h64, hg⟩)
      generalize sokB s = ok at *
      have HKC : Hid (∀ (W0 : World), Da W0 s.seen v.sa v.sc → ∀ (x : Sb) (r : Bool), (r = true ↔ cov s.seen x.dot) → ∀ W, Below W0.heap.size W0 W → Calls Try.prog 124 #[.slice v.sa n v.sc, .agg #[.int .u32 (x.a : Int), .int .u64 (x.c : Int)]] W fun e W' => e = .returned (.bool r) ∧ Below W0.heap.size W0 W') := fun W0 h0 x r hr W hW =>
        kCovers x.a x.c r (by rw [covB_ok (unhide HOK), Bool.eq_iff_iff, decide_eq_true_eq, hr]; exact Iff.rfl) (unhide HNN) h0 W hW
      clear HOK
      go_enter Try.func81, Try.ntmps81
      go_wp2_with (first
        | ((with_reducible refine wpList_box_state (by rfl) (.tmp 0) (by rfl) (some 1) (by rfl) N (unhide HN) v n m (by with_unfolding_all rfl) ?_); intro W1 HX1 HB1 HS1; simp only [Act.put, List.setIfInBounds_toArray, List.set_cons_zero, List.set_cons_succ]; have HD1 : Hid (Da W1 s.seen v.sa v.sc) := (unhide HD).below (by rw [← unhide HN]; exact unhide HB1); obtain ⟨y0, y1⟩ := st_cells (unhide HX1))
        | (go_at_call 122; refine (unhide HV1 W1 (unhide HD1) W1 (Below.refl _ _)).mono ?_; rintro e w2 ⟨rfl, hb2⟩; obtain ⟨z0, z1⟩ := st_cells (box_below (unhide HX1) hb2); have HB2 := hide hb2; clear hb2 y0 y1)
        | fail)
      have HA1 : Hid (Lies W1 v.ba (flatS s.sibs)) := (unhide HA).lies.below (by rw [← unhide HN]; exact unhide HB1)
      have HFT := hide (unhide HA).fits
      have HUB : Hid (∀ W : World, Below W1.heap.size W1 W → Below N u W) := fun W hW => (unhide HB1).trans (hW.mono (by rw [unhide HS1]; omega))
      clear z0 z1 HA HD HV1
      go_loopw [18] (fun i wr => ∃ k : Nat, k ≤ m ∧ i = .int .i64 k ∧ Hid (Below W1.heap.size W1 wr ∧ ∀ j (hj : j < s.sibs.length), j < k → sgood s j hj)) (fun i _ => m - (intOf i).toNat)
      case atStart => exact ⟨0, Nat.zero_le _, rfl, unhide HB2, fun j _ hj => absurd hj (Nat.not_lt_zero _)⟩
      case round =>
        obtain ⟨k, hk, rfl, HI⟩ := hrel
        by_cases hlt : k < m
        · have hki : (k : Int) < (m : Int) := by omega
          have hkl : k < s.sibs.length := by rw [← unhide HNM]; exact hlt
          have HLB := hide ((unhide HA1).below (unhide HI).1)
          obtain ⟨g, o, hao, c1, c2, c3, c4⟩ := (unhide HLB).sb hkl
          have hix := ixS g o m v.bc k hlt
          obtain ⟨M, hM⟩ : ∃ M, M = wr.heap.size := ⟨_, rfl⟩
          have HM := hide hM
          clear hM
          have HBI := hide (unhide HI).1
          have HR : Hid (sgood s k hkl → ∀ j (hj : j < s.sibs.length), j < k + 1 → sgood s j hj) := fun hg j hj hjk => by
            rcases Nat.lt_succ_iff_lt_or_eq.1 hjk with h | rfl
            · exact (unhide HI).2 j hj h
            · exact hg
          have HE1 := hide (unhide HE k hkl)
          obtain ⟨AH, hAH⟩ : ∃ A : Prop, A = (0 < k → ah s.sibs[k - 1].dot s.sibs[k].dot) := ⟨_, rfl⟩
          have HG : Hid (sgood s k hkl ↔ AH ∧ cov s.seen s.sibs[k].dot ∧ s.sibs[k].may) := by rw [hAH]; exact Iff.rfl
          have HAA := hide hAH
          clear hAH
          have HFq := hide (unhide HFT _ (List.getElem_mem hkl))
          clear HI HE
          generalize s.sibs[k] = q at *
          have c1 : wr.cell? ⟨g, o + k * 4, none⟩ = some (.int .u32 (q.a : Int)) := c1
          have c2 : wr.cell? ⟨g, o + k * 4 + 1, none⟩ = some (.int .u64 (q.c : Int)) := c2
          have c3 : wr.cell? ⟨g, o + k * 4 + 2, none⟩ = some (.bool q.gone) := c3
          have c4 : wr.cell? ⟨g, o + k * 4 + 3, none⟩ = some (.string q.val) := c4
          have hba : v.ba = some ⟨g, o, none⟩ := hao
          generalize o + k * 4 = oo at *
          have HUP : Hid (∀ W : World, Below wr.heap.size wr W → Below W1.heap.size W1 W) := fun W hW => (unhide HBI).trans (hW.mono (unhide HBI).size)
          rw [hba]
          by_cases hk0 : k = 0
          · have HAH : Hid AH := by rw [unhide HAA]; intro h; omega
            have hk1 : ¬ (0 : Int) < (k : Int) := by omega
            have hk2 : decide ((0 : Int) < (k : Int)) = false := decide_eq_false hk1
            have hk3 : decide (0 < k) = false := decide_eq_false (by omega)
            have HK0 := hide hk0
            clear hk0 hk1
            go_wp2_with (first
              | ((with_reducible refine wpList_alloc_sib (by rfl) (by rfl) (some 4) (by rfl) M (unhide HM) ?_); intro W2 HX2 HB3 HS3; simp only [Act.put, List.setIfInBounds_toArray, List.set_cons_zero, List.set_cons_succ])
              | ((with_reducible refine wpList_store_sib (by rfl) (.tmp 4) (.tmp 22) (by rfl) M q (by with_unfolding_all rfl) (by with_unfolding_all rfl) (unhide HX2) ?_); intro W3 HX3 HE3; simp only [Act.put])
              | fail)
            have HB4 : Hid (Below wr.heap.size wr W3) := by rw [unhide HE3, ← unhide HM]; exact belowRow (unhide HB3) (Nat.le_refl _) _
            clear HX2 HB3 HS3 HE3 c1 c2 c3 c4
            go_quiet (fail)
            have HBX : Hid (Below W3.heap.size W3 (W3.drewN nq)) := belowDrewN (Below.refl _ _) _
            generalize W3.drewN nq = X at HBX ⊢
            have HBW : Hid (Below W1.heap.size W1 X) := unhide HUP _ ((unhide HB4).trans ((unhide HBX).mono (unhide HB4).size))
            have HDX : Hid (Da X s.seen v.sa v.sc) := (unhide HD1).below (unhide HBW)
            obtain ⟨y0, y1⟩ := st_cells (box_below (unhide HX1) (unhide HBW))
            obtain ⟨x0, x1, x2, x3⟩ := sib_cells (box_below (unhide HX3) (unhide HBX))
            by_cases hcv : cov s.seen q.dot
            · have HCC := hide (unhide HKC X (unhide HDX) q true (by simp [hcv]) X (Below.refl _ _))
              have HCV := hide hcv
              clear hcv
              by_cases hmy : q.may
              · have HCM := hide (fun W => dMayBe q.gone q.val W (unhide HFq).2.2)
                rw [mayB_iff.2 hmy] at HCM
                have HGK : Hid (sgood s k hkl) := (unhide HG).2 ⟨unhide HAH, unhide HCV, hmy⟩
                clear hmy
                go_wp2_with (first
                  | (go_at_call 124; refine (unhide HCC).mono ?_; rintro e Y1 ⟨rfl, hb1⟩; have HY1 := hide hb1; clear hb1; obtain ⟨x0, x1, x2, x3⟩ := sib_cells (box_below (box_below (unhide HX3) (unhide HBX)) (unhide HY1)))
                  | (go_at_call 125; refine (dContentOf q Y1).mono ?_; rintro e Y2 ⟨rfl, hb1⟩; have HY2 := hide hb1; clear hb1)
                  | (go_at_call 126; refine (unhide HCM Y2).mono ?_; rintro e Y3 ⟨rfl, hb1⟩; have HY3 := hide hb1; clear hb1)
                  | fail)
                have HBE : Hid (Below W1.heap.size W1 Y3) := (unhide HBW).trans (((unhide HY1).trans (((unhide HY2).trans ((unhide HY3).mono (unhide HY2).size)).mono (unhide HY1).size)).mono (unhide HBW).size)
                go_roundw
                case rel => exact ⟨k + 1, by omega, by go_num, unhide HBE, unhide HR (unhide HGK)⟩
                case measure => simp [intOf]; omega
              · have HCM := hide (fun W => dMayBe q.gone q.val W (unhide HFq).2.2)
                rw [show mayB q.gone q.val = false by rw [← Bool.not_eq_true, mayB_iff]; exact hmy] at HCM
                have HBAD : Hid (ok = false) := unhide HE1 fun hg => hmy ((unhide HG).1 hg).2.2
                clear hmy
                go_wp2_with (first
                  | (go_at_call 124; refine (unhide HCC).mono ?_; rintro e Y1 ⟨rfl, hb1⟩; have HY1 := hide hb1; clear hb1; obtain ⟨x0, x1, x2, x3⟩ := sib_cells (box_below (box_below (unhide HX3) (unhide HBX)) (unhide HY1)))
                  | (go_at_call 125; refine (dContentOf q Y1).mono ?_; rintro e Y2 ⟨rfl, hb1⟩; have HY2 := hide hb1; clear hb1)
                  | (go_at_call 126; refine (unhide HCM Y2).mono ?_; rintro e Y3 ⟨rfl, hb1⟩; have HY3 := hide hb1; clear hb1)
                  | fail)
                have HBE : Hid (Below W1.heap.size W1 Y3) := (unhide HBW).trans (((unhide HY1).trans (((unhide HY2).trans ((unhide HY3).mono (unhide HY2).size)).mono (unhide HY1).size)).mono (unhide HBW).size)
                go_ret
                exact ⟨by rw [unhide HBAD]; rfl, unhide HUB _ (unhide HBE)⟩
            · have HCC := hide (unhide HKC X (unhide HDX) q false (by simp [hcv]) X (Below.refl _ _))
              have HBAD : Hid (ok = false) := unhide HE1 fun hg => hcv ((unhide HG).1 hg).2.1
              clear hcv
              go_wp2_with (first
                | (go_at_call 124; refine (unhide HCC).mono ?_; rintro e Y1 ⟨rfl, hb1⟩; have HY1 := hide hb1; clear hb1; obtain ⟨x0, x1, x2, x3⟩ := sib_cells (box_below (box_below (unhide HX3) (unhide HBX)) (unhide HY1)))
                | fail)
              have HBE : Hid (Below W1.heap.size W1 Y1) := (unhide HBW).trans ((unhide HY1).mono (unhide HBW).size)
              go_ret
              exact ⟨by rw [unhide HBAD]; rfl, unhide HUB _ (unhide HBE)⟩
          · obtain ⟨j, hj⟩ : ∃ j, k = j + 1 := ⟨k - 1, by omega⟩
            have hjl : j < s.sibs.length := by omega
            obtain ⟨g', o', hao', d1, d2, d3, d4⟩ := (unhide HLB).sb hjl
            obtain ⟨rfl, rfl⟩ : g' = g ∧ o' = o := by rw [hba] at hao'; cases hao'; exact ⟨rfl, rfl⟩
            have hix2 := ixS g' o' m v.bc j (by omega)
            have hw1 : IntKind.i64.wrap ((k : Int) - 1) = (j : Int) := by rw [IntKind.wrap_i64]; omega
            have hk1 : (0 : Int) < (k : Int) := by omega
            have hk2 : decide ((0 : Int) < (k : Int)) = true := decide_eq_true hk1
            have hk3 : decide (0 < k) = true := decide_eq_true (by omega)
            have HG3 : Hid (AH ↔ ah s.sibs[j].dot q.dot) := by
              rw [unhide HAA]
              subst hj
              exact ⟨fun h => h (Nat.succ_pos _), fun h _ => h⟩
            clear HAA
            have hmj : j < m := by omega
            generalize s.sibs[j] = p at *
            have HJ := hide hj
            clear hj hk0 hao' hjl
            have d1 : wr.cell? ⟨g', o' + j * 4, none⟩ = some (.int .u32 (p.a : Int)) := d1
            have d2 : wr.cell? ⟨g', o' + j * 4 + 1, none⟩ = some (.int .u64 (p.c : Int)) := d2
            clear d3 d4
            have HD12 := hide (And.intro d1 d2)
            clear d1 d2
            generalize o' + j * 4 = oj at *
            go_wp2_with (first
              | ((with_reducible refine wpList_alloc_sib (by rfl) (by rfl) (some 4) (by rfl) M (unhide HM) ?_); intro W2 HX2 HB3 HS3; simp only [Act.put, List.setIfInBounds_toArray, List.set_cons_zero, List.set_cons_succ])
              | ((with_reducible refine wpList_store_sib (by rfl) (.tmp 4) (.tmp 22) (by rfl) M q (by with_unfolding_all rfl) (by with_unfolding_all rfl) (unhide HX2) ?_); intro W3 HX3 HE3; simp only [Act.put])
              | fail)
            have HB4 : Hid (Below wr.heap.size wr W3) := by rw [unhide HE3, ← unhide HM]; exact belowRow (unhide HB3) (Nat.le_refl _) _
            clear HX2 HB3 HS3 HE3 c1 c2 c3 c4
            have hC1 : ∀ W : World, Below W3.heap.size W3 W → W.cell? ⟨N, 0, none⟩ = some (.slice v.sa n v.sc) ∧ W.cell? ⟨N, 1, none⟩ = some (.slice (some ⟨g', o', none⟩) m v.bc) := fun W hW => by
              have := st_cells (box_below (unhide HX1) (unhide HUP _ ((unhide HB4).trans (hW.mono (unhide HB4).size))))
              rw [hba] at this
              exact this
            have hC2 : ∀ W : World, Below W3.heap.size W3 W → W.cell? ⟨g', oj, none⟩ = some (.int .u32 (p.a : Int)) ∧ W.cell? ⟨g', oj + 1, none⟩ = some (.int .u64 (p.c : Int)) := fun W hW => by
              have hb := (unhide HB4).trans (hW.mono (unhide HB4).size)
              exact ⟨cell_keep rfl hb (unhide HD12).1, cell_keep rfl hb (unhide HD12).2⟩
            have hC3 : ∀ W : World, Below W3.heap.size W3 W → W.cell? ⟨M, 0, none⟩ = some (.int .u32 (q.a : Int)) ∧ W.cell? ⟨M, 1, none⟩ = some (.int .u64 (q.c : Int)) := fun W hW => by
              have := sib_cells (box_below (unhide HX3) hW)
              exact ⟨this.1, this.2.1⟩
            have HCA := hide (fun (W : World) => asV (dAhead p.a p.c q.a q.c W))
            refine wp_region_last (fun W => Below W3.heap.size W3 W) 14 hmix (belowDrew (Below.refl _ _)) fun hS => ?_
            generalize W3.drew = X0 at hS ⊢
            rcases bool_cases (ahB_true (d := (p.a, p.c)) (e := (q.a, q.c))) with ⟨hah, hah2⟩ | ⟨hah, hah2⟩ <;> rw [hah] at HCA <;> clear hah
            · have HAH := hide ((unhide HG3).2 hah2)
              clear hah2
              refine wpAnyL_take 0 23 (.int .i64 (k : Int)) [1, 2] rfl rfl (by kernel_rfl) (by kernel_rfl) (by kernel_rfl) (by kernel_rfl) (by kernel_rfl) (fun _ _ _ h => h) (by rfl) (fun _ _ => by go_simp) hS ?_
              simp only [Act.put, List.setIfInBounds_toArray, List.set_cons_zero, List.set_cons_succ]
              refine wpAnyL_take 1 24 (.bool true) [2] rfl rfl (by kernel_rfl) (by kernel_rfl) (by kernel_rfl) (by kernel_rfl) (by kernel_rfl) (fun _ _ _ h => h) (by rfl) (fun _ _ => by go_simp) hS ?_
              simp only [Act.put, List.setIfInBounds_toArray, List.set_cons_zero, List.set_cons_succ]
              refine wpAnyL_take 2 25 (.bool true) [] rfl rfl (by kernel_rfl) (by kernel_rfl) (by kernel_rfl) (by kernel_rfl) (by kernel_rfl) (fun _ _ _ h => h) (by rfl) (fun _ _ => by go_simp) hS ?_
              simp only [Act.put, List.setIfInBounds_toArray, List.set_cons_zero, List.set_cons_succ]
              refine wpAnyL_take 3 26 (.pointer (some ⟨N, 1, none⟩)) [4, 7, 8, 9, 12, 13] rfl rfl (by kernel_rfl) (by kernel_rfl) (by kernel_rfl) (by kernel_rfl) (by kernel_rfl) (fun _ _ _ h => h) (by rfl) (fun _ _ => by go_simp) hS ?_
              simp only [Act.put, List.setIfInBounds_toArray, List.set_cons_zero, List.set_cons_succ]
              refine wpAnyL_take 4 27 (.slice (some ⟨g', o', none⟩) m v.bc) [7, 8, 9, 12, 13] rfl rfl (by kernel_rfl) (by kernel_rfl) (by kernel_rfl) (by kernel_rfl) (by kernel_rfl) (fun _ _ _ h => h) (by rfl) (fun W hW => by obtain ⟨e1, e2⟩ := hC1 W hW; go_simp) hS ?_
              simp only [Act.put, List.setIfInBounds_toArray, List.set_cons_zero, List.set_cons_succ]
              refine wpAnyL_take 5 28 (.int .i64 (k : Int)) [6, 7, 8, 9, 12, 13] rfl rfl (by kernel_rfl) (by kernel_rfl) (by kernel_rfl) (by kernel_rfl) (by kernel_rfl) (fun _ _ _ h => h) (by rfl) (fun _ _ => by go_simp) hS ?_
              simp only [Act.put, List.setIfInBounds_toArray, List.set_cons_zero, List.set_cons_succ]
              refine wpAnyL_take 6 29 (.int .i64 (j : Int)) [7, 8, 9, 12, 13] rfl rfl (by kernel_rfl) (by kernel_rfl) (by kernel_rfl) (by kernel_rfl) (by kernel_rfl) (fun _ _ _ h => h) (by rfl) (fun _ _ => by go_simp) hS ?_
              simp only [Act.put, List.setIfInBounds_toArray, List.set_cons_zero, List.set_cons_succ]
              refine wpAnyL_take 7 30 (.pointer (some ⟨g', oj, none⟩)) [8, 9, 12, 13] rfl rfl (by kernel_rfl) (by kernel_rfl) (by kernel_rfl) (by kernel_rfl) (by kernel_rfl) (fun _ _ _ h => h) (by rfl) (fun _ _ => by go_simp) hS ?_
              simp only [Act.put, List.setIfInBounds_toArray, List.set_cons_zero, List.set_cons_succ]
              refine wpAnyL_take 8 31 (.pointer (some ⟨g', oj, none⟩)) [9, 12, 13] rfl rfl (by kernel_rfl) (by kernel_rfl) (by kernel_rfl) (by kernel_rfl) (by kernel_rfl) (fun _ _ _ h => h) (by rfl) (fun _ _ => by go_simp) hS ?_
              simp only [Act.put, List.setIfInBounds_toArray, List.set_cons_zero, List.set_cons_succ]
              refine wpAnyL_take 9 32 (.agg #[.int .u32 (p.a : Int), .int .u64 (p.c : Int)]) [12, 13] rfl rfl (by kernel_rfl) (by kernel_rfl) (by kernel_rfl) (by kernel_rfl) (by kernel_rfl) (fun _ _ _ h => h) (by rfl) (fun W hW => by obtain ⟨e1, e2⟩ := hC2 W hW; go_simp) hS ?_
              simp only [Act.put, List.setIfInBounds_toArray, List.set_cons_zero, List.set_cons_succ]
              refine wpAnyL_take 10 33 (.pointer (some ⟨M, 0, none⟩)) [11, 12, 13] rfl rfl (by kernel_rfl) (by kernel_rfl) (by kernel_rfl) (by kernel_rfl) (by kernel_rfl) (fun _ _ _ h => h) (by rfl) (fun _ _ => by go_simp) hS ?_
              simp only [Act.put, List.setIfInBounds_toArray, List.set_cons_zero, List.set_cons_succ]
              refine wpAnyL_take 11 34 (.agg #[.int .u32 (q.a : Int), .int .u64 (q.c : Int)]) [12, 13] rfl rfl (by kernel_rfl) (by kernel_rfl) (by kernel_rfl) (by kernel_rfl) (by kernel_rfl) (fun _ _ _ h => h) (by rfl) (fun W hW => by obtain ⟨e1, e2⟩ := hC3 W hW; go_simp) hS ?_
              simp only [Act.put, List.setIfInBounds_toArray, List.set_cons_zero, List.set_cons_succ]
              refine wpAnyL_one (i := 12) (by kernel_rfl) rfl (by rfl) fun K hK => ?_
              refine wp_call_fn 123 _ _ (by rfl) #[.agg #[.int .u32 (p.a : Int), .int .u64 (p.c : Int)], .agg #[.int .u32 (q.a : Int), .int .u64 (q.c : Int)]] (by with_unfolding_all rfl) entAh (some 35) (by rfl) _ (unhide HCA _) ?_
              rintro _ X ⟨rfl, hbe⟩
              have HBX : Hid (Below W3.heap.size W3 X) := hS.trans (hbe.mono hS.size)
              clear hbe
              refine hK _ _ (fun _ => unhide HBX) ?_
              clear hK K
              simp only [Act.put, List.setIfInBounds_toArray, List.set_cons_zero, List.set_cons_succ]
              refine wpAnyL_one (i := 13) (by kernel_rfl) rfl (by rfl) fun K hK => ?_
              refine wp_val (.bool false) (by go_simp) (some 36) (by rfl) ?_
              refine hK _ _ (fun _ => unhide HBX) ?_
              clear hK K
              simp only [Act.put, List.setIfInBounds_toArray, List.set_cons_zero, List.set_cons_succ]
              refine wpAnyL_one (i := 14) (by kernel_rfl) rfl (by rfl) fun K hK => ?_
              refine wp_val (.bool false) (by go_simp) (some 37) (by rfl) ?_
              refine hK _ _ (fun _ => unhide HBX) ?_
              clear hK K
              simp only [Act.put, List.setIfInBounds_toArray, List.set_cons_zero, List.set_cons_succ]
              refine wpAnyL_done (by kernel_rfl) ?_ _
              have HBW : Hid (Below W1.heap.size W1 X) := unhide HUP _ ((unhide HB4).trans ((unhide HBX).mono (unhide HB4).size))
              have HDX : Hid (Da X s.seen v.sa v.sc) := (unhide HD1).below (unhide HBW)
              obtain ⟨y0, y1⟩ := st_cells (box_below (unhide HX1) (unhide HBW))
              obtain ⟨x0, x1, x2, x3⟩ := sib_cells (box_below (unhide HX3) (unhide HBX))
              by_cases hcv : cov s.seen q.dot
              · have HCC := hide (unhide HKC X (unhide HDX) q true (by simp [hcv]) X (Below.refl _ _))
                have HCV := hide hcv
                clear hcv
                by_cases hmy : q.may
                · have HCM := hide (fun W => dMayBe q.gone q.val W (unhide HFq).2.2)
                  rw [mayB_iff.2 hmy] at HCM
                  have HGK : Hid (sgood s k hkl) := (unhide HG).2 ⟨unhide HAH, unhide HCV, hmy⟩
                  clear hmy
                  go_wp2_with (first
                    | (go_at_call 124; refine (unhide HCC).mono ?_; rintro e Y1 ⟨rfl, hb1⟩; have HY1 := hide hb1; clear hb1; obtain ⟨x0, x1, x2, x3⟩ := sib_cells (box_below (box_below (unhide HX3) (unhide HBX)) (unhide HY1)))
                    | (go_at_call 125; refine (dContentOf q Y1).mono ?_; rintro e Y2 ⟨rfl, hb1⟩; have HY2 := hide hb1; clear hb1)
                    | (go_at_call 126; refine (unhide HCM Y2).mono ?_; rintro e Y3 ⟨rfl, hb1⟩; have HY3 := hide hb1; clear hb1)
                    | fail)
                  have HBE : Hid (Below W1.heap.size W1 Y3) := (unhide HBW).trans (((unhide HY1).trans (((unhide HY2).trans ((unhide HY3).mono (unhide HY2).size)).mono (unhide HY1).size)).mono (unhide HBW).size)
                  go_roundw
                  case rel => exact ⟨k + 1, by omega, by go_num, unhide HBE, unhide HR (unhide HGK)⟩
                  case measure => simp [intOf]; omega
                · have HCM := hide (fun W => dMayBe q.gone q.val W (unhide HFq).2.2)
                  rw [show mayB q.gone q.val = false by rw [← Bool.not_eq_true, mayB_iff]; exact hmy] at HCM
                  have HBAD : Hid (ok = false) := unhide HE1 fun hg => hmy ((unhide HG).1 hg).2.2
                  clear hmy
                  go_wp2_with (first
                    | (go_at_call 124; refine (unhide HCC).mono ?_; rintro e Y1 ⟨rfl, hb1⟩; have HY1 := hide hb1; clear hb1; obtain ⟨x0, x1, x2, x3⟩ := sib_cells (box_below (box_below (unhide HX3) (unhide HBX)) (unhide HY1)))
                    | (go_at_call 125; refine (dContentOf q Y1).mono ?_; rintro e Y2 ⟨rfl, hb1⟩; have HY2 := hide hb1; clear hb1)
                    | (go_at_call 126; refine (unhide HCM Y2).mono ?_; rintro e Y3 ⟨rfl, hb1⟩; have HY3 := hide hb1; clear hb1)
                    | fail)
                  have HBE : Hid (Below W1.heap.size W1 Y3) := (unhide HBW).trans (((unhide HY1).trans (((unhide HY2).trans ((unhide HY3).mono (unhide HY2).size)).mono (unhide HY1).size)).mono (unhide HBW).size)
                  go_ret
                  exact ⟨by rw [unhide HBAD]; rfl, unhide HUB _ (unhide HBE)⟩
              · have HCC := hide (unhide HKC X (unhide HDX) q false (by simp [hcv]) X (Below.refl _ _))
                have HBAD : Hid (ok = false) := unhide HE1 fun hg => hcv ((unhide HG).1 hg).2.1
                clear hcv
                go_wp2_with (first
                  | (go_at_call 124; refine (unhide HCC).mono ?_; rintro e Y1 ⟨rfl, hb1⟩; have HY1 := hide hb1; clear hb1; obtain ⟨x0, x1, x2, x3⟩ := sib_cells (box_below (box_below (unhide HX3) (unhide HBX)) (unhide HY1)))
                  | fail)
                have HBE : Hid (Below W1.heap.size W1 Y1) := (unhide HBW).trans ((unhide HY1).mono (unhide HBW).size)
                go_ret
                exact ⟨by rw [unhide HBAD]; rfl, unhide HUB _ (unhide HBE)⟩
            · have HBAD : Hid (ok = false) := unhide HE1 fun hg => hah2 ((unhide HG3).1 ((unhide HG).1 hg).1)
              clear hah2
              refine wpAnyL_take 0 23 (.int .i64 (k : Int)) [1, 2] rfl rfl (by kernel_rfl) (by kernel_rfl) (by kernel_rfl) (by kernel_rfl) (by kernel_rfl) (fun _ _ _ h => h) (by rfl) (fun _ _ => by go_simp) hS ?_
              simp only [Act.put, List.setIfInBounds_toArray, List.set_cons_zero, List.set_cons_succ]
              refine wpAnyL_take 1 24 (.bool true) [2] rfl rfl (by kernel_rfl) (by kernel_rfl) (by kernel_rfl) (by kernel_rfl) (by kernel_rfl) (fun _ _ _ h => h) (by rfl) (fun _ _ => by go_simp) hS ?_
              simp only [Act.put, List.setIfInBounds_toArray, List.set_cons_zero, List.set_cons_succ]
              refine wpAnyL_take 2 25 (.bool true) [] rfl rfl (by kernel_rfl) (by kernel_rfl) (by kernel_rfl) (by kernel_rfl) (by kernel_rfl) (fun _ _ _ h => h) (by rfl) (fun _ _ => by go_simp) hS ?_
              simp only [Act.put, List.setIfInBounds_toArray, List.set_cons_zero, List.set_cons_succ]
              refine wpAnyL_take 3 26 (.pointer (some ⟨N, 1, none⟩)) [4, 7, 8, 9, 12, 13] rfl rfl (by kernel_rfl) (by kernel_rfl) (by kernel_rfl) (by kernel_rfl) (by kernel_rfl) (fun _ _ _ h => h) (by rfl) (fun _ _ => by go_simp) hS ?_
              simp only [Act.put, List.setIfInBounds_toArray, List.set_cons_zero, List.set_cons_succ]
              refine wpAnyL_take 4 27 (.slice (some ⟨g', o', none⟩) m v.bc) [7, 8, 9, 12, 13] rfl rfl (by kernel_rfl) (by kernel_rfl) (by kernel_rfl) (by kernel_rfl) (by kernel_rfl) (fun _ _ _ h => h) (by rfl) (fun W hW => by obtain ⟨e1, e2⟩ := hC1 W hW; go_simp) hS ?_
              simp only [Act.put, List.setIfInBounds_toArray, List.set_cons_zero, List.set_cons_succ]
              refine wpAnyL_take 5 28 (.int .i64 (k : Int)) [6, 7, 8, 9, 12, 13] rfl rfl (by kernel_rfl) (by kernel_rfl) (by kernel_rfl) (by kernel_rfl) (by kernel_rfl) (fun _ _ _ h => h) (by rfl) (fun _ _ => by go_simp) hS ?_
              simp only [Act.put, List.setIfInBounds_toArray, List.set_cons_zero, List.set_cons_succ]
              refine wpAnyL_take 6 29 (.int .i64 (j : Int)) [7, 8, 9, 12, 13] rfl rfl (by kernel_rfl) (by kernel_rfl) (by kernel_rfl) (by kernel_rfl) (by kernel_rfl) (fun _ _ _ h => h) (by rfl) (fun _ _ => by go_simp) hS ?_
              simp only [Act.put, List.setIfInBounds_toArray, List.set_cons_zero, List.set_cons_succ]
              refine wpAnyL_take 7 30 (.pointer (some ⟨g', oj, none⟩)) [8, 9, 12, 13] rfl rfl (by kernel_rfl) (by kernel_rfl) (by kernel_rfl) (by kernel_rfl) (by kernel_rfl) (fun _ _ _ h => h) (by rfl) (fun _ _ => by go_simp) hS ?_
              simp only [Act.put, List.setIfInBounds_toArray, List.set_cons_zero, List.set_cons_succ]
              refine wpAnyL_take 8 31 (.pointer (some ⟨g', oj, none⟩)) [9, 12, 13] rfl rfl (by kernel_rfl) (by kernel_rfl) (by kernel_rfl) (by kernel_rfl) (by kernel_rfl) (fun _ _ _ h => h) (by rfl) (fun _ _ => by go_simp) hS ?_
              simp only [Act.put, List.setIfInBounds_toArray, List.set_cons_zero, List.set_cons_succ]
              refine wpAnyL_take 9 32 (.agg #[.int .u32 (p.a : Int), .int .u64 (p.c : Int)]) [12, 13] rfl rfl (by kernel_rfl) (by kernel_rfl) (by kernel_rfl) (by kernel_rfl) (by kernel_rfl) (fun _ _ _ h => h) (by rfl) (fun W hW => by obtain ⟨e1, e2⟩ := hC2 W hW; go_simp) hS ?_
              simp only [Act.put, List.setIfInBounds_toArray, List.set_cons_zero, List.set_cons_succ]
              refine wpAnyL_take 10 33 (.pointer (some ⟨M, 0, none⟩)) [11, 12, 13] rfl rfl (by kernel_rfl) (by kernel_rfl) (by kernel_rfl) (by kernel_rfl) (by kernel_rfl) (fun _ _ _ h => h) (by rfl) (fun _ _ => by go_simp) hS ?_
              simp only [Act.put, List.setIfInBounds_toArray, List.set_cons_zero, List.set_cons_succ]
              refine wpAnyL_take 11 34 (.agg #[.int .u32 (q.a : Int), .int .u64 (q.c : Int)]) [12, 13] rfl rfl (by kernel_rfl) (by kernel_rfl) (by kernel_rfl) (by kernel_rfl) (by kernel_rfl) (fun _ _ _ h => h) (by rfl) (fun W hW => by obtain ⟨e1, e2⟩ := hC3 W hW; go_simp) hS ?_
              simp only [Act.put, List.setIfInBounds_toArray, List.set_cons_zero, List.set_cons_succ]
              refine wpAnyL_one (i := 12) (by kernel_rfl) rfl (by rfl) fun K hK => ?_
              refine wp_call_fn 123 _ _ (by rfl) #[.agg #[.int .u32 (p.a : Int), .int .u64 (p.c : Int)], .agg #[.int .u32 (q.a : Int), .int .u64 (q.c : Int)]] (by with_unfolding_all rfl) entAh (some 35) (by rfl) _ (unhide HCA _) ?_
              rintro _ X ⟨rfl, hbe⟩
              have HBX : Hid (Below W3.heap.size W3 X) := hS.trans (hbe.mono hS.size)
              clear hbe
              refine hK _ _ (fun _ => unhide HBX) ?_
              clear hK K
              simp only [Act.put, List.setIfInBounds_toArray, List.set_cons_zero, List.set_cons_succ]
              refine wpAnyL_one (i := 13) (by kernel_rfl) rfl (by rfl) fun K hK => ?_
              refine wp_val (.bool true) (by go_simp) (some 36) (by rfl) ?_
              refine hK _ _ (fun _ => unhide HBX) ?_
              clear hK K
              simp only [Act.put, List.setIfInBounds_toArray, List.set_cons_zero, List.set_cons_succ]
              refine wpAnyL_one (i := 14) (by kernel_rfl) rfl (by rfl) fun K hK => ?_
              refine wp_val (.bool true) (by go_simp) (some 37) (by rfl) ?_
              refine hK _ _ (fun _ => unhide HBX) ?_
              clear hK K
              simp only [Act.put, List.setIfInBounds_toArray, List.set_cons_zero, List.set_cons_succ]
              refine wpAnyL_done (by kernel_rfl) ?_ _
              have HBE : Hid (Below W1.heap.size W1 X) := unhide HUP _ ((unhide HB4).trans ((unhide HBX).mono (unhide HB4).size))
              go_wp2
              go_ret
              exact ⟨by rw [unhide HBAD]; rfl, unhide HUB _ (unhide HBE)⟩
        · obtain rfl : k = m := by omega
          have hki : ¬ (k : Int) < (k : Int) := by omega
          go_wp2
          go_ret
          refine ⟨?_, unhide HUB _ (unhide HI).1⟩
          rw [unhide HT fun i hi => (unhide HI).2 i hi (by rw [unhide HNM]; exact hi)]
          rfl
    · rw [show sokB s = false from sokB_false.2 fun ho => h64 (by rw [unhide HNM]; exact ho.len)]
      have h64i : (64 : Int) < (m : Int) := by omega
      go_enter Try.func81, Try.ntmps81
      go_wp2_with (first
        | ((with_reducible refine wpList_box_state (by rfl) (.tmp 0) (by rfl) (some 1) (by rfl) N (unhide HN) v n m (by with_unfolding_all rfl) ?_); intro W1 HX1 HB1 HS1; simp only [Act.put, List.setIfInBounds_toArray, List.set_cons_zero, List.set_cons_succ]; have HD1 : Hid (Da W1 s.seen v.sa v.sc) := (unhide HD).below (by rw [← unhide HN]; exact unhide HB1); obtain ⟨y0, y1⟩ := st_cells (unhide HX1))
        | (go_at_call 122; refine (unhide HV1 W1 (unhide HD1) W1 (Below.refl _ _)).mono ?_; rintro e w2 ⟨rfl, hb2⟩; obtain ⟨z0, z1⟩ := st_cells (box_below (unhide HX1) hb2); have HB2 := hide hb2; clear hb2 y0 y1)
        | fail)
      go_ret
      exact ⟨rfl, (unhide HB1).trans ((unhide HB2).mono (by rw [unhide HS1]; omega))⟩
  · rw [show sokB s = false from sokB_false.2 fun ho => hok (V.okB_true.2 ho.ok)]
    have HV1 := hide (fun W0 h0 => unhide HKV W0 h0 false (by simpa using hok))
    clear HKV hok
    go_enter Try.func81, Try.ntmps81
    go_wp2_with (first
      | ((with_reducible refine wpList_box_state (by rfl) (.tmp 0) (by rfl) (some 1) (by rfl) N (unhide HN) v n m (by with_unfolding_all rfl) ?_); intro W1 HX1 HB1 HS1; simp only [Act.put, List.setIfInBounds_toArray, List.set_cons_zero, List.set_cons_succ]; have HD1 : Hid (Da W1 s.seen v.sa v.sc) := (unhide HD).below (by rw [← unhide HN]; exact unhide HB1); obtain ⟨y0, y1⟩ := st_cells (unhide HX1))
      | (go_at_call 122; refine (unhide HV1 W1 (unhide HD1) W1 (Below.refl _ _)).mono ?_; rintro e w2 ⟨rfl, hb2⟩; obtain ⟨z0, z1⟩ := st_cells (box_below (unhide HX1) hb2); have HB2 := hide hb2; clear hb2 y0 y1)
      | fail)
    go_ret
    exact ⟨rfl, (unhide HB1).trans ((unhide HB2).mono (by rw [unhide HS1]; omega))⟩
end Go.Proofs.Ytkcbljmjhlnjpaa
namespace Go.Proofs.Ytkcbljmjhlnjpaa
open Go.RowKit Go.Lib
open Classical in
noncomputable def sameB (a b : St) : Bool := decide (a = b)
open Classical in
theorem sameB_eq (a b : St) : sameB a b = (decide (a.seen = b.seen) && eqL a.sibs b.sibs) := by
  unfold sameB eqL
  rw [Bool.eq_iff_iff, Bool.and_eq_true, decide_eq_true_iff, decide_eq_true_iff, decide_eq_true_iff]
  constructor
  · rintro rfl; exact ⟨rfl, rfl⟩
  · rintro ⟨h1, h2⟩; cases a; cases b; simp_all
theorem kEqualD {W0 : World} {a b : List (Nat × Nat)} {xa xb : Option Addr} {ca cb na nb : Nat} (r : Bool) (hr : decide (a = b) = r) (ea : na = a.length) (eb : nb = b.length) (ha : Da W0 a xa ca) (hb : Da W0 b xb cb) (W : World) (hW : Below W0.heap.size W0 W) : Calls Try.prog 99 #[.slice xa na ca, .slice xb nb cb] W fun e W' => e = .returned (.bool r) ∧ Below W0.heap.size W0 W' := by
  subst hr ea eb
  refine (vEqual a b xa xb ca cb W (ha.below hW).at (hb.below hW).at).mono ?_
  rintro e W' ⟨h1, z, rfl⟩
  exact ⟨h1, belowDrewN hW _⟩
theorem kEqualS {W0 : World} {a b : List Sb} {xa xb : Option Addr} {ca cb na nb : Nat} (r : Bool) (hr : eqL a b = r) (ea : na = a.length) (eb : nb = b.length) (ha : Sa W0 a xa ca) (hb : Sa W0 b xb cb) (W : World) (hW : Below W0.heap.size W0 W) : Calls Try.prog 100 #[.slice xa na ca, .slice xb nb cb] W fun e W' => e = .returned (.bool r) ∧ Below W0.heap.size W0 W' := by
  subst hr ea eb
  refine (dEqualS a b xa xb ca cb W (ha.below hW) (hb.below hW)).mono ?_
  rintro e W' ⟨h1, z, rfl⟩
  exact ⟨h1, belowDrewN hW _⟩
set_option maxRecDepth 100000 in
set_option maxHeartbeats 2000000 in
theorem dSame (a b : St) (v w : Sv) (u : World) (ha : SAt u a v) (hb : SAt u b w) : Calls Try.prog 62 #[v.v a.seen.length a.sibs.length, w.v b.seen.length b.sibs.length] u fun e u' => e = .returned (.bool (sameB a b)) ∧ Below u.heap.size u u' := by
  obtain ⟨N, hN⟩ : ∃ N, N = u.heap.size := ⟨_, rfl⟩
  have HN := hide hN
  have HA := hide ha
  have HB := hide hb
  rw [← hN, sameB_eq]
  clear hN ha hb
  obtain ⟨n1, hn1⟩ : ∃ n, n = a.seen.length := ⟨_, rfl⟩
  obtain ⟨m1, hm1⟩ : ∃ n, n = a.sibs.length := ⟨_, rfl⟩
  obtain ⟨n2, hn2⟩ : ∃ n, n = b.seen.length := ⟨_, rfl⟩
  obtain ⟨m2, hm2⟩ : ∃ n, n = b.sibs.length := ⟨_, rfl⟩
  have E1 := hide hn1
  have E2 := hide hm1
  have E3 := hide hn2
  have E4 := hide hm2
  rw [← hn1, ← hm1, ← hn2, ← hm2]
  clear hn1 hm1 hn2 hm2
  have HK1 : Hid (∀ W0 : World, SAt W0 a v → SAt W0 b w → ∀ r, decide (a.seen = b.seen) = r → Calls Try.prog 99 #[.slice v.sa n1 v.sc, .slice w.sa n2 w.sc] W0 fun e W' => e = .returned (.bool r) ∧ Below W0.heap.size W0 W') := fun W0 h1 h2 r hr => kEqualD r hr (unhide E1) (unhide E3) h1.seen h2.seen W0 (Below.refl _ _)
  have HK2 : Hid (∀ W0 : World, SAt W0 a v → SAt W0 b w → ∀ r, eqL a.sibs b.sibs = r → Calls Try.prog 100 #[.slice v.ba m1 v.bc, .slice w.ba m2 w.bc] W0 fun e W' => e = .returned (.bool r) ∧ Below W0.heap.size W0 W') := fun W0 h1 h2 r hr => kEqualS r hr (unhide E2) (unhide E4) h1.sibs h2.sibs W0 (Below.refl _ _)
  generalize decide (a.seen = b.seen) = r1 at *
  generalize eqL a.sibs b.sibs = r2 at *
  cases r1
  · go_enter Try.func62, Try.ntmps62
    go_wp2_with (first
      | ((with_reducible refine wpList_box_state (by rfl) (.tmp 0) (by rfl) (some 2) (by rfl) N (unhide HN) v n1 m1 (by with_unfolding_all rfl) ?_); intro W1 HX1 HB1 HS1; simp only [Act.put, List.setIfInBounds_toArray, List.set_cons_zero, List.set_cons_succ])
      | ((with_reducible refine wpList_box_state (by rfl) (.tmp 1) (by rfl) (some 3) (by rfl) (N + 1) (unhide HS1).symm w n2 m2 (by with_unfolding_all rfl) ?_); intro W2 HX2 HB2 HS2; simp only [Act.put, List.setIfInBounds_toArray, List.set_cons_zero, List.set_cons_succ]; have HY1 : Hid (W2.heap[N]? = some (stRow v n1 m1)) := ((unhide HB2).block N (Nat.lt_succ_self _)).trans (unhide HX1); have HBU : Hid (Below N u W2) := (unhide HB1).trans ((unhide HB2).mono (Nat.le_succ _)); have HA2 := hide ((unhide HA).below (by rw [← unhide HN]; exact unhide HBU)); have HB3 := hide ((unhide HB).below (by rw [← unhide HN]; exact unhide HBU)); obtain ⟨x0, x1⟩ := st_cells (unhide HY1); obtain ⟨y0, y1⟩ := st_cells (unhide HX2))
      | (go_at_call 99; refine (unhide HK1 W2 (unhide HA2) (unhide HB3) _ rfl).mono ?_; rintro e w3 ⟨rfl, hb3⟩)
      | fail)
    go_ret
    exact ⟨rfl, (unhide HBU).trans (hb3.mono (by rw [unhide HS2]; omega))⟩
  · go_enter Try.func62, Try.ntmps62
    go_wp2_with (first
      | ((with_reducible refine wpList_box_state (by rfl) (.tmp 0) (by rfl) (some 2) (by rfl) N (unhide HN) v n1 m1 (by with_unfolding_all rfl) ?_); intro W1 HX1 HB1 HS1; simp only [Act.put, List.setIfInBounds_toArray, List.set_cons_zero, List.set_cons_succ])
      | ((with_reducible refine wpList_box_state (by rfl) (.tmp 1) (by rfl) (some 3) (by rfl) (N + 1) (unhide HS1).symm w n2 m2 (by with_unfolding_all rfl) ?_); intro W2 HX2 HB2 HS2; simp only [Act.put, List.setIfInBounds_toArray, List.set_cons_zero, List.set_cons_succ]; have HY1 : Hid (W2.heap[N]? = some (stRow v n1 m1)) := ((unhide HB2).block N (Nat.lt_succ_self _)).trans (unhide HX1); have HBU : Hid (Below N u W2) := (unhide HB1).trans ((unhide HB2).mono (Nat.le_succ _)); have HA2 := hide ((unhide HA).below (by rw [← unhide HN]; exact unhide HBU)); have HB3 := hide ((unhide HB).below (by rw [← unhide HN]; exact unhide HBU)); obtain ⟨x0, x1⟩ := st_cells (unhide HY1); obtain ⟨y0, y1⟩ := st_cells (unhide HX2))
      | (go_at_call 99; refine (unhide HK1 W2 (unhide HA2) (unhide HB3) _ rfl).mono ?_; rintro e w3 ⟨rfl, hb3⟩; have HB4 := hide hb3; clear hb3; obtain ⟨x0, x1⟩ := st_cells (box_below (unhide HY1) (unhide HB4)); obtain ⟨y0, y1⟩ := st_cells (box_below (unhide HX2) (unhide HB4)))
      | (go_at_call 100; refine (unhide HK2 w3 ((unhide HA2).below (unhide HB4)) ((unhide HB3).below (unhide HB4)) _ rfl).mono ?_; rintro e w4 ⟨rfl, hb5⟩)
      | fail)
    go_ret
    exact ⟨by simp, (unhide HBU).trans (((unhide HB4).trans (hb5.mono (unhide HB4).size)).mono (by rw [unhide HS2]; omega))⟩
theorem uns_take (A : List (Nat × Nat)) {l : List Sb} {k : Nat} (h : k < l.length) : uns A (l.take (k + 1)) = uns A (l.take k) ++ (if cov A l[k].dot then [] else [l[k]]) := by
  unfold uns
  rw [List.take_succ_eq_append_getElem h, List.filter_append]
  congr 1
  by_cases hc : cov A l[k].dot
  · rw [if_pos hc]; simp [hc]
  · rw [if_neg hc]; simp [hc]
set_option maxRecDepth 100000 in
set_option maxHeartbeats 4000000 in
/-- what was not seen is laid behind a row of one's own -/
theorem dUnseen (acc l : List Sb) (A : List (Nat × Nat)) (n1 n2 n3 : Nat) (e1 : n1 = acc.length) (e2 : n2 = l.length) (e3 : n3 = A.length) (xo lo so : Option Addr) (c1 c2 c3 : Nat) (W0 u : World) (hA : V.Ok A) (hs : Da W0 A so c3) (hl : Dw W0 l lo c2)
    (hb : Below W0.heap.size W0 u) (ho : OwnS u W0.heap.size acc xo c1) (hlen : acc.length + l.length ≤ 1000) :
    Calls Try.prog 131 #[.slice xo n1 c1, .slice lo n2 c2, .slice so n3 c3] u fun e u' => ∃ xo' n' c', e = .returned (.slice xo' n' c') ∧ n' = (acc ++ uns A l).length ∧ OwnS u' W0.heap.size (acc ++ uns A l) xo' c' ∧ Below W0.heap.size W0 u' := by
  obtain ⟨B, hB⟩ : ∃ B, B = W0.heap.size := ⟨_, rfl⟩
  have HB := hide hB
  have HS := hide hs
  have HL := hide hl
  have HLEN := hide hlen
  have E1 := hide e1
  have E2 := hide e2
  have E3 := hide e3
  have HB0 := hide hb
  have HO := hide ho
  rw [← hB] at HB0 HO ⊢
  have HSZ : Hid (∀ W : World, Below B W0 W → B ≤ W.heap.size) := fun W hW => by rw [unhide HB]; exact hW.size
  have h2i : (n2 : Int) ≤ 1000 := by omega
  have HC : Hid (∀ (W : World) (x : Sb) (r : Bool), Below B W0 W → (r = true ↔ cov A x.dot) → Calls Try.prog 124 #[.slice so n3 c3, .agg #[.int .u32 (x.a : Int), .int .u64 (x.c : Int)]] W fun e W' => e = .returned (.bool r) ∧ Below W.heap.size W W') := fun W x r hW hr =>
    kCovers x.a x.c r (by rw [covB_ok hA, Bool.eq_iff_iff, decide_eq_true_eq, hr]; exact Iff.rfl) (unhide E3) ((unhide HS).below (by rw [← unhide HB]; exact hW)) W (Below.refl _ _)
  clear hB hs hl hlen e1 e2 e3 hb ho HS
  go_enter Try.func131, Try.ntmps131
  go_wp2
  go_loopw [0, 11] (fun out i wr => ∃ (k : Nat) (xp : Option Addr) (np cp : Nat), k ≤ n2 ∧ out = .slice xp np cp ∧ i = .int .i64 k ∧ Hid (np = (acc ++ uns A (l.take k)).length ∧ OwnS wr B (acc ++ uns A (l.take k)) xp cp ∧ Below B W0 wr)) (fun _ i _ => n2 - (intOf i).toNat)
  case atStart => exact ⟨0, xo, n1, c1, Nat.zero_le _, rfl, rfl, by rw [List.take_zero, show uns A [] = [] from rfl, List.append_nil]; exact unhide E1, by rw [List.take_zero, show uns A [] = [] from rfl, List.append_nil]; exact unhide HO, unhide HB0⟩
  case round =>
    obtain ⟨k, xp, np, cp, hk, rfl, rfl, HI⟩ := hrel
    by_cases hlt : k < n2
    · have hki : (k : Int) < (n2 : Int) := by omega
      have hkl : k < l.length := by rw [← unhide E2]; exact hlt
      obtain ⟨g, o, hao, x1, x2, x3, x4⟩ := ((unhide HL).lies.below (by rw [← unhide HB]; exact (unhide HI).2.2)).sb hkl
      subst hao
      have hix := ixS g o n2 c2 k hlt
      obtain ⟨M, hM⟩ : ∃ M, M = wr.heap.size := ⟨_, rfl⟩
      have HM := hide hM
      clear hM
      have HT := hide (uns_take A hkl)
      have HLM : Hid ((acc ++ uns A (l.take k)).length + 1 ≤ 1000) := by
        have := uns_len A (l.take k)
        rw [List.length_take] at this
        have := unhide HLEN
        show (acc ++ uns A (l.take k)).length + 1 ≤ 1000
        rw [List.length_append]; omega
      generalize l[k] = q at *
      have x1 : wr.cell? ⟨g, o + k * 4, none⟩ = some (.int .u32 (q.a : Int)) := x1
      have x2 : wr.cell? ⟨g, o + k * 4 + 1, none⟩ = some (.int .u64 (q.c : Int)) := x2
      have x3 : wr.cell? ⟨g, o + k * 4 + 2, none⟩ = some (.bool q.gone) := x3
      have x4 : wr.cell? ⟨g, o + k * 4 + 3, none⟩ = some (.string q.val) := x4
      generalize o + k * 4 = oo at *
      generalize uns A (l.take k) = lk at *
      by_cases hcv : cov A q.dot
      · rw [if_pos hcv, List.append_nil] at HT
        have HCC := hide (fun W hW => unhide HC W q true hW (by simp [hcv]))
        clear hcv
        go_wp2_with (first
          | ((with_reducible refine wpList_alloc_sib (by rfl) (by rfl) (some 8) (by rfl) M (unhide HM) ?_); intro W2 HX2 HB2 HS2; simp only [Act.put, List.setIfInBounds_toArray, List.set_cons_zero, List.set_cons_succ])
          | ((with_reducible refine wpList_store_sib (by rfl) (.tmp 8) (.tmp 14) (by rfl) M q (by with_unfolding_all rfl) (by with_unfolding_all rfl) (unhide HX2) ?_); intro W3 HX3 HE3; simp only [Act.put]; have HB3 : Hid (Below wr.heap.size wr W3) := (by rw [unhide HE3, ← unhide HM]; exact belowRow (unhide HB2) (Nat.le_refl _) _); have HBB : Hid (Below B W0 W3) := (unhide HI).2.2.trans ((unhide HB3).mono (unhide HSZ _ (unhide HI).2.2)); obtain ⟨y0, y1, y2, y3⟩ := sib_cells (unhide HX3))
          | (go_at_call 124; refine (unhide HCC W3 (unhide HBB)).mono ?_; rintro e W4 ⟨rfl, hb4⟩; have HB4 := hide hb4; clear hb4)
          | fail)
        have HB5 : Hid (Below wr.heap.size wr W4) := (unhide HB3).trans ((unhide HB4).mono (unhide HB3).size)
        go_roundw
        case rel => exact ⟨k + 1, xp, np, cp, by omega, rfl, by go_num, by rw [unhide HT]; exact (unhide HI).1, by rw [unhide HT]; exact (unhide HI).2.1.below (unhide HB5), (unhide HI).2.2.trans ((unhide HB5).mono (unhide HSZ _ (unhide HI).2.2))⟩
        case measure => simp [intOf]; omega
      · rw [if_neg hcv] at HT
        have HCC := hide (fun W hW => unhide HC W q false hW (by simp [hcv]))
        clear hcv
        go_wp2_with (first
          | ((with_reducible refine wpList_alloc_sib (by rfl) (by rfl) (some 8) (by rfl) M (unhide HM) ?_); intro W2 HX2 HB2 HS2; simp only [Act.put, List.setIfInBounds_toArray, List.set_cons_zero, List.set_cons_succ])
          | ((with_reducible refine wpList_store_sib (by rfl) (.tmp 8) (.tmp 14) (by rfl) M q (by with_unfolding_all rfl) (by with_unfolding_all rfl) (unhide HX2) ?_); intro W3 HX3 HE3; simp only [Act.put]; have HB3 : Hid (Below wr.heap.size wr W3) := (by rw [unhide HE3, ← unhide HM]; exact belowRow (unhide HB2) (Nat.le_refl _) _); have HBB : Hid (Below B W0 W3) := (unhide HI).2.2.trans ((unhide HB3).mono (unhide HSZ _ (unhide HI).2.2)); obtain ⟨y0, y1, y2, y3⟩ := sib_cells (unhide HX3))
          | (go_at_call 124; refine (unhide HCC W3 (unhide HBB)).mono ?_; rintro e W4 ⟨rfl, hb4⟩; have HB4 := hide hb4; clear hb4; obtain ⟨y0, y1, y2, y3⟩ := sib_cells (box_below (unhide HX3) (unhide HB4)); have HB5 : Hid (Below wr.heap.size wr W4) := (unhide HB3).trans ((unhide HB4).mono (unhide HB3).size); have HO4 := hide (((unhide HI).2.1.below (unhide HB5)).below ((Below.refl _ W4).alloc (Nat.le_refl _) (.cells #[.int .u32 (q.a : Int), .int .u64 (q.c : Int), .bool q.gone, .string q.val] 69))); have HBA : Hid (Below B W0 (W4.alloc (.cells #[.int .u32 (q.a : Int), .int .u64 (q.c : Int), .bool q.gone, .string q.val] 69))) := (unhide HI).2.2.trans (((unhide HB5).trans (((Below.refl _ W4).alloc (Nat.le_refl _) _).mono (unhide HB5).size)).mono (unhide HSZ _ (unhide HI).2.2)))
          | (at_builtin; refine wpList_putS (by rfl) (.tmp 20) (.tmp 22) (by rfl) (some 23) (by rfl) B (acc ++ lk) [q] np 1 (unhide HI).1 rfl xp (some ⟨W4.heap.size, 0, none⟩) cp 1 (by rfl) (by rfl) (unhide HO4) (Dw.one W4 q 69) (by have := unhide HLM; simp only [List.length_cons, List.length_nil]; omega) (unhide HSZ _ (unhide HBA)) ?_; intro x5 n5 c5 W5 EN5 HO5 _ HBE5 _; simp only [Act.put, List.setIfInBounds_toArray, List.set_cons_zero, List.set_cons_succ]; have HB6 : Hid (Below B W0 W5) := (unhide HBA).trans (unhide HBE5))
          | fail)
        go_roundw
        case rel => exact ⟨k + 1, x5, n5, c5, by omega, rfl, by go_num, by rw [unhide HT, ← List.append_assoc]; exact unhide EN5, by rw [unhide HT, ← List.append_assoc]; exact unhide HO5, unhide HB6⟩
        case measure => simp [intOf]; omega
    · obtain rfl : k = n2 := by omega
      have hki : ¬ (k : Int) < (k : Int) := by omega
      have HT : Hid (l.take k = l) := List.take_of_length_le (by rw [unhide E2]; exact Nat.le_refl _)
      rw [unhide HT] at HI
      go_wp2
      go_ret
      exact ⟨xp, np, cp, rfl, by rw [← List.length_append]; exact (unhide HI).1, (unhide HI).2.1, (unhide HI).2.2⟩
end Go.Proofs.Ytkcbljmjhlnjpaa
