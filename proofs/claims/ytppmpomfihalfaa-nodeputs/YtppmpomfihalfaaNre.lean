/- Nodes, the document's side: the size of a node. -/
import Derived.Test.YtppmpomfihalfaaNrd
namespace Go.Proofs.Ytppmpomfihalfaa
open Go.RowKit

theorem tsz_parts (q : ByteArray) : tsz q = (if q.size < 128 then 1 else 2) + q.size := by unfold tsz; split <;> omega
theorem sum_take_succ {l : List Nat} {k x : Nat} (h : l[k]? = some x) : (l.take (k + 1)).sum = (l.take k).sum + x := by
  rw [List.take_add_one, h, List.sum_append]; simp
theorem sum_take_le (l : List Nat) (b : Nat) (h : ∀ x ∈ l, x ≤ b) (k : Nat) : (l.take k).sum ≤ b * k := by
  have h1 := sum_le_mul (l.take k) b (fun x hx => h x (List.mem_of_mem_take hx))
  have : (l.take k).length ≤ k := by rw [List.length_take]; omega
  have := Nat.mul_le_mul_left b this
  omega
set_option maxRecDepth 100000 in
set_option maxHeartbeats 8000000 in
theorem rLong (n : Nd) (a : Nv) (hs : n.Small) (u : World) (h : NdAt u n a) : Calls Try.prog 61 #[a.v n] u fun e u' => e = .returned (.int .i64 (n.size : Int)) ∧ Below u.heap.size u u' := by
  obtain ⟨N, hN⟩ : ∃ N, N = u.heap.size := ⟨_, rfl⟩
  have HN := hide hN
  rw [← hN]
  clear hN
  have HSL := hide (Nd.szs_le hs)
  obtain ⟨ca, cc, ka, kc, ga, gc⟩ := a
  obtain ⟨lf, cs, ks, gs⟩ := n
  show Calls Try.prog 61 #[.agg #[.bool lf, .slice ca cs.length cc, .slice ka ks.length kc, .slice ga gs.length gc]] u _
  have hl : cs.length ≤ 140737488355328 ∧ ks.length ≤ 140737488355328 ∧ gs.length ≤ 140737488355328 := h.len
  have HC : Hid (Lies u ca (flatC cs)) := h.cells
  have HK : Hid (Lies u ka (flatK ks)) := h.keys
  have HSC : Hid (∀ c ∈ cs, c.Ok) := hs.1
  have HSK : Hid (∀ k ∈ ks, keyOk k) := hs.2
  have HUI := hide rUints
  clear h hs
  cases lf
  · have hsz : Nd.size ⟨false, cs, ks, gs⟩ = 7 + (ks.map ksz).sum := rfl
    have HSL : Hid (∀ x ∈ ks.map ksz, x ≤ 644) := unhide HSL
    rw [hsz]
    clear hsz
    obtain ⟨S, hS⟩ : ∃ S : Nat → Nat, S = fun k => ((ks.map ksz).take k).sum := ⟨_, rfl⟩
    have HS0 : Hid (S 0 = 0) := by rw [hS]; rfl
    have HSS : Hid (∀ k (hk : k < ks.length), S (k + 1) = S k + ksz ks[k]) := fun k hk => by rw [hS]; exact sum_take_succ (by simp [hk])
    have HSB : Hid (∀ k, S k ≤ 644 * k) := fun k => by rw [hS]; exact sum_take_le _ _ (unhide HSL) k
    have hSA : (ks.map ksz).sum = S ks.length := by rw [hS]; show _ = (List.take _ _).sum; rw [List.take_of_length_le (by simp)]
    rw [hSA]
    clear hSA hS HSL HC HSC
    obtain ⟨kn, hkn⟩ : ∃ kn, kn = ks.length := ⟨_, rfl⟩
    have HKN := hide hkn
    rw [← hkn] at hl ⊢
    generalize cs.length = cn at *
    generalize gs.length = gn at *
    have hkni : (kn : Int) ≤ 140737488355328 := by omega
    clear hkn hl
    go_enter Try.func61, Try.ntmps61
    go_wp2_with (first
      | (with_reducible refine wpList_box_node (by rfl) (.tmp 0) (by rfl) (some 1) (by rfl) N (unhide HN) false ca cn cc ka kn kc ga gn gc (by with_unfolding_all rfl) ?_; intro W1 HX1 HB1 HS1; simp only [Act.put, List.setIfInBounds_toArray, List.set_cons_zero, List.set_cons_succ]; obtain ⟨y0, y1, y2, y3⟩ := box4 (unhide HX1))
      | fail)
    go_loopw [6, 7] (fun b i wr => ∃ k : Nat, k ≤ kn ∧ b = .int .i64 ((7 + S k : Nat) : Int) ∧ i = .int .i64 k ∧ Hid (Below N u wr ∧ wr.heap[N]? = some (.cells #[.bool false, .slice ca cn cc, .slice ka kn kc, .slice ga gn gc] 26 (0, 0)))) (fun _ i _ => kn - (intOf i).toNat)
    case atStart => exact ⟨0, Nat.zero_le _, by rw [unhide HS0]; rfl, rfl, unhide HB1, unhide HX1⟩
    case round =>
      clear HX1 HB1 HS1 y0 y1 y2 y3
      obtain ⟨k, hk, rfl, rfl, HI⟩ := hrel
      obtain ⟨y0, y1, y2, y3⟩ := box4 (unhide HI).2
      by_cases hlt : k < kn
      · have hki : (k : Int) < (kn : Int) := by omega
        have hkl : k < ks.length := by rw [← unhide HKN]; exact hlt
        have hbw : Below u.heap.size u wr := by rw [← unhide HN]; exact (unhide HI).1
        obtain ⟨g, o, hao, hc⟩ := ((unhide HK).below hbw).ky hkl
        subst hao
        have hix := ixStrs g o kn kc k hlt
        have hq := (unhide HSK _ (List.getElem_mem hkl)).2
        have h1 := unhide HSB k
        have h2 := unhide HSS k hkl
        have h3 : ksz ks[k] = (if ks[k].size < 128 then 1 else 2) + ks[k].size + 4 := by unfold ksz; rw [tsz_parts]
        rw [h3] at h2
        have HUQ := hide (unhide HUI ks[k].size)
        clear hbw h3
        generalize ks[k] = q at *
        clear hkl
        have ht : (if q.size < 128 then 1 else 2 : Nat) ≤ 2 := by split <;> omega
        generalize (if q.size < 128 then 1 else 2 : Nat) = t at *
        have HE := hide h2
        generalize S k = s at *
        generalize o + k = j2 at *
        have hcast : ((7 + s : Nat) : Int) = 7 + (s : Int) := by omega
        rw [hcast]
        clear hcast h2
        have e1 : IntKind.i64.wrap (7 + (s : Int) + (t : Int)) = 7 + (s : Int) + (t : Int) := by rw [IntKind.wrap_i64]; omega
        have e2 : IntKind.i64.wrap (7 + (s : Int) + (t : Int) + (q.size : Int)) = 7 + (s : Int) + (t : Int) + (q.size : Int) := by rw [IntKind.wrap_i64]; omega
        have e3 : IntKind.i64.wrap (7 + (s : Int) + (t : Int) + (q.size : Int) + 4) = 7 + (s : Int) + (t : Int) + (q.size : Int) + 4 := by rw [IntKind.wrap_i64]; omega
        go_wp2_with fail
        go_quiet (first | with_reducible exact Calls.quiet_of_same (unhide HUQ _))
        go_wp2
        go_roundw
        case rel => exact ⟨k + 1, by omega, by rw [unhide HE]; congr 1; omega, by go_num, belowDrewN (unhide HI).1 _, (unhide HI).2⟩
        case measure => simp [intOf]; omega
      · obtain rfl : k = kn := by omega
        have hki : ¬ (k : Int) < (k : Int) := by omega
        go_wp2
        go_ret
        exact ⟨rfl, (unhide HI).1⟩
  · have hsz : Nd.size ⟨true, cs, ks, gs⟩ = 3 + (cs.map Cl.sz).sum := rfl
    have HSL : Hid (∀ x ∈ cs.map Cl.sz, x ≤ 644) := unhide HSL
    rw [hsz]
    clear hsz
    obtain ⟨S, hS⟩ : ∃ S : Nat → Nat, S = fun k => ((cs.map Cl.sz).take k).sum := ⟨_, rfl⟩
    have HS0 : Hid (S 0 = 0) := by rw [hS]; rfl
    have HSS : Hid (∀ k (hk : k < cs.length), S (k + 1) = S k + Cl.sz cs[k]) := fun k hk => by rw [hS]; exact sum_take_succ (by simp [hk])
    have HSB : Hid (∀ k, S k ≤ 644 * k) := fun k => by rw [hS]; exact sum_take_le _ _ (unhide HSL) k
    have hSA : (cs.map Cl.sz).sum = S cs.length := by rw [hS]; show _ = (List.take _ _).sum; rw [List.take_of_length_le (by simp)]
    rw [hSA]
    clear hSA hS HSL HK HSK
    obtain ⟨cn, hcn⟩ : ∃ cn, cn = cs.length := ⟨_, rfl⟩
    have HCN := hide hcn
    rw [← hcn] at hl ⊢
    generalize ks.length = kn at *
    generalize gs.length = gn at *
    have hcni : (cn : Int) ≤ 140737488355328 := by omega
    clear hcn hl
    go_enter Try.func61, Try.ntmps61
    go_wp2_with (first
      | (with_reducible refine wpList_box_node (by rfl) (.tmp 0) (by rfl) (some 1) (by rfl) N (unhide HN) true ca cn cc ka kn kc ga gn gc (by with_unfolding_all rfl) ?_; intro W1 HX1 HB1 HS1; simp only [Act.put, List.setIfInBounds_toArray, List.set_cons_zero, List.set_cons_succ]; obtain ⟨y0, y1, y2, y3⟩ := box4 (unhide HX1))
      | fail)
    go_loopw [3, 4] (fun b i wr => ∃ k : Nat, k ≤ cn ∧ b = .int .i64 ((3 + S k : Nat) : Int) ∧ i = .int .i64 k ∧ Hid (Below N u wr ∧ wr.heap[N]? = some (.cells #[.bool true, .slice ca cn cc, .slice ka kn kc, .slice ga gn gc] 26 (0, 0)))) (fun _ i _ => cn - (intOf i).toNat)
    case atStart => exact ⟨0, Nat.zero_le _, by rw [unhide HS0]; rfl, rfl, unhide HB1, unhide HX1⟩
    case round =>
      clear HX1 HB1 HS1 y0 y1 y2 y3
      obtain ⟨k, hk, rfl, rfl, HI⟩ := hrel
      obtain ⟨y0, y1, y2, y3⟩ := box4 (unhide HI).2
      by_cases hlt : k < cn
      · have hki : (k : Int) < (cn : Int) := by omega
        have hkl : k < cs.length := by rw [← unhide HCN]; exact hlt
        have hbw : Below u.heap.size u wr := by rw [← unhide HN]; exact (unhide HI).1
        obtain ⟨g, o, hao, hc, hv⟩ := ((unhide HC).below hbw).cl hkl
        subst hao
        have hix := ixCells g o cn cc k hlt
        obtain ⟨M, hM⟩ : ∃ M, M = wr.heap.size := ⟨_, rfl⟩
        have HMM := hide hM
        have HNM : Hid (N ≤ M) := by rw [hM, unhide HN]; exact hbw.size
        have hq := (unhide HSC _ (List.getElem_mem hkl)).2
        have h1 := unhide HSB k
        have h2 := unhide HSS k hkl
        clear hbw hM
        generalize cs[k] = c at *
        clear hkl
        obtain ⟨q, p⟩ := c
        replace hq : q.size + p.size ≤ 320 := hq
        have h3 : Cl.sz ⟨q, p⟩ = (if q.size < 128 then 1 else 2) + q.size + ((if p.size < 128 then 1 else 2) + p.size) := by show tsz q + tsz p = _; rw [tsz_parts, tsz_parts]
        rw [h3] at h2
        have HUQ := hide (unhide HUI q.size)
        have HUP := hide (unhide HUI p.size)
        clear h3
        have hc : wr.cell? ⟨g, o + k * 2, none⟩ = some (.string q) := hc
        have hv : wr.cell? ⟨g, o + k * 2 + 1, none⟩ = some (.string p) := hv
        generalize o + k * 2 = j2 at *
        have ht : (if q.size < 128 then 1 else 2 : Nat) ≤ 2 := by split <;> omega
        have ht2 : (if p.size < 128 then 1 else 2 : Nat) ≤ 2 := by split <;> omega
        generalize (if q.size < 128 then 1 else 2 : Nat) = t at *
        generalize (if p.size < 128 then 1 else 2 : Nat) = t2 at *
        have HE := hide h2
        generalize S k = s at *
        have HBX : Hid (∀ W4 W5 : World, Below M wr W4 → W5 = W4.setRow M #[.string q, .string p] → Below N u W5 ∧ W5.heap[N]? = some (.cells #[.bool true, .slice (some ⟨g, o, none⟩) cn cc, .slice ka kn kc, .slice ga gn gc] 26 (0, 0))) := fun W4 W5 h4 h5 => by
          have h6 : Below M wr W5 := by rw [h5]; exact belowRow h4 (Nat.le_refl _) _
          exact ⟨(unhide HI).1.trans (h6.mono (unhide HNM)), box_below (unhide HI).2 (by rw [← unhide HMM]; exact h6)⟩
        have hcast : ((3 + s : Nat) : Int) = 3 + (s : Int) := by omega
        rw [hcast]
        clear hcast h2
        have e1 : IntKind.i64.wrap (3 + (s : Int) + (t : Int)) = 3 + (s : Int) + (t : Int) := by rw [IntKind.wrap_i64]; omega
        have e2 : IntKind.i64.wrap (3 + (s : Int) + (t : Int) + (q.size : Int)) = 3 + (s : Int) + (t : Int) + (q.size : Int) := by rw [IntKind.wrap_i64]; omega
        have e3 : IntKind.i64.wrap (3 + (s : Int) + (t : Int) + (q.size : Int) + (t2 : Int)) = 3 + (s : Int) + (t : Int) + (q.size : Int) + (t2 : Int) := by rw [IntKind.wrap_i64]; omega
        have e4 : IntKind.i64.wrap (3 + (s : Int) + (t : Int) + (q.size : Int) + (t2 : Int) + (p.size : Int)) = 3 + (s : Int) + (t : Int) + (q.size : Int) + (t2 : Int) + (p.size : Int) := by rw [IntKind.wrap_i64]; omega
        go_wp2_with (first
          | (with_reducible refine wpList_alloc_cell (by rfl) (by rfl) (some 5) (by rfl) M (unhide HMM) ?_; intro W4 HX4 HB4 HS4; simp only [Act.put, List.setIfInBounds_toArray, List.set_cons_zero, List.set_cons_succ])
          | (with_reducible refine wpList_store_cell (by rfl) (.tmp 5) (.tmp 21) (by rfl) M q p (by with_unfolding_all rfl) (by with_unfolding_all rfl) (unhide HX4) ?_; intro W5 HX5 HE5; simp only [Act.put]; obtain ⟨z0, z1⟩ := box2 (unhide HX5))
          | fail)
        have HZ := hide (unhide HBX W4 W5 (unhide HB4) (unhide HE5))
        clear HE5 HX4 HB4 HS4 HX5 y0 y1 y2 y3
        go_quiet (first | with_reducible exact Calls.quiet_of_same (unhide HUQ _) | with_reducible exact Calls.quiet_of_same (unhide HUP _))
        obtain ⟨y0, y1, y2, y3⟩ := box4 (unhide HZ).2
        go_wp2
        go_roundw
        case rel => exact ⟨k + 1, by omega, by rw [unhide HE]; congr 1; omega, by go_num, belowDrewN (unhide HZ).1 _, (unhide HZ).2⟩
        case measure => simp [intOf]; omega
      · obtain rfl : k = cn := by omega
        have hki : ¬ (k : Int) < (k : Int) := by omega
        go_wp2
        go_ret
        exact ⟨rfl, (unhide HI).1⟩
end Go.Proofs.Ytppmpomfihalfaa
