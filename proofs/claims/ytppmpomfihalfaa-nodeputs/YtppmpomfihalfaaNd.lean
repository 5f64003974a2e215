/- Nodes: what may be. -/
import Derived.Test.YtppmpomfihalfaaNr
namespace Go.Proofs.Ytppmpomfihalfaa
open Go.RowKit

theorem nSize (n : Nd) (a : Nv) (hs : n.Small) (u : World) (h : NdAt u n a) : Calls Try.prog 65 #[a.v n] u fun e u' => e = .returned (.int .i64 (n.size : Int)) ∧ Below u.heap.size u u' := by
  have HC := hide (fun (v : World) (hb : Below u.heap.size u v) => nItemsSize n a hs v (h.below hb))
  have hb : n.szs.sum ≤ 644 * 140737488355328 := by
    have h1 := sum_le_mul n.szs 644 (Nd.szs_le hs)
    have h2 : n.szs.length ≤ 140737488355328 := by rw [Nd.szs_len]; unfold Nd.items; split; exact h.len.1; exact h.len.2.1
    have := Nat.mul_le_mul_left 644 h2
    omega
  clear h hs
  unfold Nd.size
  generalize n.szs.sum = s at *
  have hsi : (s : Int) ≤ 90634942500831232 := by omega
  clear hb
  obtain ⟨N, hN⟩ : ∃ N, N = u.heap.size := ⟨_, rfl⟩
  have HN := hide hN
  rw [← hN] at HC ⊢
  clear hN
  obtain ⟨ca, cc, ka, kc, ga, gc⟩ := a
  obtain ⟨lf, cs, ks, gs⟩ := n
  have HC2 : Hid (∀ v : World, Below N u v → Calls Try.prog 109 #[.agg #[.bool lf, .slice ca cs.length cc, .slice ka ks.length kc, .slice ga gs.length gc]] v fun e u' => e = .returned (.int .i64 (s : Int)) ∧ Below v.heap.size v u') := unhide HC
  show Calls Try.prog 65 #[.agg #[.bool lf, .slice ca cs.length cc, .slice ka ks.length kc, .slice ga gs.length gc]] u _
  clear HC
  generalize cs.length = cn at *
  generalize ks.length = kn at *
  generalize gs.length = gn at *
  cases lf
  all_goals
    go_enter Try.func65, Try.ntmps65
    go_wp2_with (first
      | (refine wpList_box_row (by rfl) 26 (.tmp 0) (by rfl) (some 1) (by rfl) N (by exact (unhide HN).symm) #[.bool _, .slice ca cn cc, .slice ka kn kc, .slice ga gn gc] rfl ?_; intro W1 HX1 HB1 HS1; simp only [Act.put, List.setIfInBounds_toArray, List.set_cons_zero, List.set_cons_succ]; obtain ⟨y0, y1, y2, y3⟩ := box4 (unhide HX1))
      | fail)
    refine (unhide HC2 _ (unhide HB1)).mono ?_
    rintro e w2 ⟨rfl, hb2⟩
    have HB2 : Hid (Below N u w2) := (unhide HB1).trans (hb2.mono (by rw [unhide HS1]; omega))
    clear hb2
    go_wp2
    go_ret
    exact ⟨by go_num, unhide HB2⟩
open Classical in
set_option maxRecDepth 100000 in
theorem nKind (n : Nd) (a : Nv) (u : World) (h : NdAt u n a) : Calls Try.prog 70 #[a.v n] u fun e u' => e = .returned (.bool (decide n.Kind)) ∧ Below u.heap.size u u' := by
  obtain ⟨N, hN⟩ : ∃ N, N = u.heap.size := ⟨_, rfl⟩
  have HN := hide hN
  rw [← hN]
  clear hN
  obtain ⟨ca, cc, ka, kc, ga, gc⟩ := a
  obtain ⟨lf, cs, ks, gs⟩ := n
  show Calls Try.prog 70 #[.agg #[.bool lf, .slice ca cs.length cc, .slice ka ks.length kc, .slice ga gs.length gc]] u _
  have hl : cs.length ≤ 140737488355328 ∧ ks.length ≤ 140737488355328 ∧ gs.length ≤ 140737488355328 := h.len
  have HG : Hid (Lies u ga (flatG gs)) := h.kids
  have HK : Hid (∀ k ∈ gs, k < 4294967296) := h.kid
  clear h
  obtain ⟨r, hr⟩ : ∃ r, r = decide (Nd.Kind ⟨lf, cs, ks, gs⟩) := ⟨_, rfl⟩
  rw [← hr]
  replace hr : r = true ↔ Nd.Kind ⟨lf, cs, ks, gs⟩ := by rw [hr]; exact decide_eq_true_iff
  cases lf
  · replace hr : r = true ↔ ((∀ k ∈ gs, k ≠ 0) ∧ cs.length = 0 ∧ gs.length = ks.length + 1) := hr
    have HR := hide hr
    obtain ⟨gn, hgn⟩ : ∃ gn, gn = gs.length := ⟨_, rfl⟩
    have HGN := hide hgn
    rw [← hgn] at HR hl ⊢
    generalize cs.length = cn at *
    generalize ks.length = kn at *
    have hcni : (cn : Int) ≤ 140737488355328 := by omega
    have hkni : (kn : Int) ≤ 140737488355328 := by omega
    have hgni : (gn : Int) ≤ 140737488355328 := by omega
    clear hr hgn hl
    go_enter Try.func70, Try.ntmps70
    go_wp2_with (first
      | (refine wpList_box_row (by rfl) 26 (.tmp 0) (by rfl) (some 1) (by rfl) N (by exact (unhide HN).symm) #[.bool _, .slice ca cn cc, .slice ka kn kc, .slice ga gn gc] rfl ?_; intro W1 HX1 HB1 HS1; simp only [Act.put, List.setIfInBounds_toArray, List.set_cons_zero, List.set_cons_succ]; obtain ⟨y0, y1, y2, y3⟩ := box4 (unhide HX1))
      | fail)
    have HL : Hid (Lies W1 ga (flatG gs)) := (unhide HG).below (by rw [← unhide HN]; exact unhide HB1)
    go_loopw [20] (fun i wr => ∃ k : Nat, k ≤ gn ∧ i = .int .i64 k ∧ wr = W1 ∧ Hid (∀ j (hj : j < gs.length), j < k → gs[j] ≠ 0)) (fun i _ => gn - (intOf i).toNat)
    case atStart => exact ⟨0, Nat.zero_le _, rfl, rfl, fun j _ h => by omega⟩
    case round =>
      obtain ⟨k, hk, rfl, hw, HI⟩ := hrel
      obtain rfl := hw.symm
      clear hw
      by_cases hlt : k < gn
      · have hki : (k : Int) < (gn : Int) := by omega
        have hkl : k < gs.length := by rw [← unhide HGN]; exact hlt
        obtain ⟨g, o, hao, hc⟩ := (unhide HL).kd hkl
        subst hao
        have hix := ixKids g o gn gc k hlt
        by_cases hz : gs[k] = 0
        · have hc0 : W1.cell? ⟨g, o + k, none⟩ = some (.int .u32 0) := by rw [hc, hz]; rfl
          obtain rfl : r = false := Bool.eq_false_iff.2 (fun hq => ((unhide HR).1 hq).1 _ (List.getElem_mem hkl) hz)
          clear hc hz hkl
          go_wp2
          go_ret
          exact ⟨rfl, unhide HB1⟩
        · have HI2 : Hid (∀ j (hj : j < gs.length), j < k + 1 → gs[j] ≠ 0) := fun j hj hjk => by
            rcases Nat.lt_or_ge j k with h1 | h1
            · exact unhide HI j hj h1
            · obtain rfl : j = k := by omega
              exact hz
          generalize gs[k] = x at *
          have hxi : ¬ (x : Int) = 0 := by omega
          clear hz hkl
          go_wp2
          go_roundw
          case rel => exact ⟨k + 1, by omega, by go_num, trivial, unhide HI2⟩
          case measure => simp [intOf]; omega
      · obtain rfl : k = gn := by omega
        have hki : ¬ (k : Int) < (k : Int) := by omega
        have HALL : Hid (∀ x ∈ gs, x ≠ 0) := fun x hx => by
          obtain ⟨j, hj, rfl⟩ := List.mem_iff_getElem.1 hx
          exact unhide HI j hj (by rw [unhide HGN]; exact hj)
        by_cases h1 : cn = 0
        · by_cases h2 : k = kn + 1
          · obtain rfl : r = true := (unhide HR).2 ⟨unhide HALL, h1, h2⟩
            subst h1 h2
            go_wp2
            go_ret
            exact ⟨rfl, unhide HB1⟩
          · obtain rfl : r = false := Bool.eq_false_iff.2 (fun hq => (fun hx => h2 hx.2.2) ((unhide HR).1 hq))
            have h2i : ¬ (k : Int) = (kn : Int) + 1 := by omega
            subst h1
            clear h2
            go_wp2
            go_ret
            exact ⟨congrArg (fun b => Ending.returned (.bool b)) (beq_false_of_ne h2i), unhide HB1⟩
        · obtain rfl : r = false := Bool.eq_false_iff.2 (fun hq => (fun hx => h1 hx.2.1) ((unhide HR).1 hq))
          have h1i : ¬ (cn : Int) = 0 := by omega
          go_wp2
          go_ret
          exact ⟨rfl, unhide HB1⟩
  · replace hr : r = true ↔ (ks.length = 0 ∧ gs.length = 0) := hr
    have HR := hide hr
    generalize cs.length = cn at *
    generalize ks.length = kn at *
    generalize gs.length = gn at *
    have HB := hide ((Below.refl u.heap.size u).alloc (Nat.le_refl _) (.cells #[.bool true, .slice ca cn cc, .slice ka kn kc, .slice ga gn gc] 26))
    rw [← unhide HN] at HB
    clear HN hr hl HG HK
    by_cases h1 : kn = 0
    · by_cases h2 : gn = 0
      · obtain rfl : r = true := (unhide HR).2 ⟨h1, h2⟩
        subst h1 h2
        go_enter Try.func70, Try.ntmps70
        go_wp2
        go_ret
        exact ⟨rfl, unhide HB⟩
      · obtain rfl : r = false := Bool.eq_false_iff.2 (fun hq => (fun hx => h2 hx.2) ((unhide HR).1 hq))
        have h2i : ¬ (gn : Int) = 0 := by omega
        subst h1
        go_enter Try.func70, Try.ntmps70
        go_wp2
        go_ret
        exact ⟨congrArg (fun b => Ending.returned (.bool b)) (beq_false_of_ne h2i), unhide HB⟩
    · obtain rfl : r = false := Bool.eq_false_iff.2 (fun hq => (fun hx => h1 hx.1) ((unhide HR).1 hq))
      have h1i : ¬ (kn : Int) = 0 := by omega
      go_enter Try.func70, Try.ntmps70
      go_wp2
      go_ret
      exact ⟨rfl, unhide HB⟩
end Go.Proofs.Ytppmpomfihalfaa
