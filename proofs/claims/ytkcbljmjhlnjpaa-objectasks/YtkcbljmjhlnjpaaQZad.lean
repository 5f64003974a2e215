/- States: the document's Same. -/
import Derived.Test.YtkcbljmjhlnjpaaQ16
namespace Go.Proofs.Ytkcbljmjhlnjpaa
open Go.RowKit Go.Lib
theorem krSameD {W0 : World} {a b : List (Nat × Nat)} {xa xb : Option Addr} {ca cb na nb : Nat} (r : Bool) (hr : decide (a = b) = r) (ea : na = a.length) (eb : nb = b.length) (ha : Da W0 a xa ca) (hb : Da W0 b xb cb) : Calls Try.prog 111 #[.slice xa na ca, .slice xb nb cb] W0 fun e W' => e = .returned (.bool r) ∧ Below W0.heap.size W0 W' := by
  subst ea eb
  refine (rSame a b xa xb ca cb W0 ha.at hb.at).mono ?_
  rintro e W' ⟨he, z, rfl⟩
  exact ⟨by rw [he, hr], belowDrewN (Below.refl _ _) _⟩
theorem st_eq {a b : St} : a = b ↔ a.seen = b.seen ∧ a.sibs = b.sibs := by cases a; cases b; simp
set_option maxRecDepth 100000 in
set_option maxHeartbeats 4000000 in
theorem rSameT (a b : St) (v w : Sv) (u : World) (ha : SAt u a v) (hb : SAt u b w) : Calls Try.prog 72 #[v.v a.seen.length a.sibs.length, w.v b.seen.length b.sibs.length] u fun e u' => e = .returned (.bool (sameB a b)) ∧ Below u.heap.size u u' := by
  obtain ⟨N, hN⟩ : ∃ N, N = u.heap.size := ⟨_, rfl⟩
  have HN := hide hN
  obtain ⟨n1, hn1⟩ : ∃ n, n = a.seen.length := ⟨_, rfl⟩
  obtain ⟨m1, hm1⟩ : ∃ n, n = a.sibs.length := ⟨_, rfl⟩
  obtain ⟨n2, hn2⟩ : ∃ n, n = b.seen.length := ⟨_, rfl⟩
  obtain ⟨m2, hm2⟩ : ∃ n, n = b.sibs.length := ⟨_, rfl⟩
  have HSA : Hid (Sx u a v n1 m1) := ⟨ha, hn1, hm1⟩
  have HSB : Hid (Sx u b w n2 m2) := ⟨hb, hn2, hm2⟩
  have E2 := hide hm1
  have E4 := hide hm2
  rw [← hn1, ← hm1, ← hn2, ← hm2, ← hN]
  clear hN hn1 hm1 hn2 hm2 ha hb
  have HU : Hid (∀ W : World, Below N u W → Below u.heap.size u W) := fun W hW => by rw [← unhide HN]; exact hW
  by_cases hse : a.seen = b.seen
  · have HSM := hide (decide_eq_true hse)
    by_cases hl : m1 = m2
    · subst hl
      have HNE : Hid (∀ j (h1 : j < a.sibs.length) (h2 : j < b.sibs.length), a.sibs[j] ≠ b.sibs[j] → sameB a b = false) := fun j h1 h2 hne => by
        cases hq : sameB a b
        · rfl
        · have e := sameB_iff.1 hq
          subst e
          exact absurd rfl hne
      have HEQ : Hid ((∀ j (h1 : j < a.sibs.length) (h2 : j < b.sibs.length), a.sibs[j] = b.sibs[j]) → sameB a b = true) := fun h => sameB_iff.2 (st_eq.2 ⟨hse, List.ext_getElem (by rw [← unhide E2, ← unhide E4]) fun j h1 h2 => h j h1 h2⟩)
      have HML : Hid (m1 ≤ 3518437208780) := by show m1 ≤ 3518437208780; rw [unhide E2]; exact (unhide HSA).sat.sibs.len
      generalize sameB a b = r at *
      clear hse
      go_enter Try.func72, Try.ntmps72
      go_wp2_with (first
        | ((with_reducible refine wpList_box_state (by rfl) (.tmp 0) (by rfl) (some 2) (by rfl) N (unhide HN) v n1 m1 (by with_unfolding_all rfl) ?_); intro W1 HX1 HB1 HS1; simp only [Act.put, List.setIfInBounds_toArray, List.set_cons_zero, List.set_cons_succ])
        | ((with_reducible refine wpList_box_state (by rfl) (.tmp 1) (by rfl) (some 3) (by rfl) (N + 1) (unhide HS1).symm w n2 m1 (by with_unfolding_all rfl) ?_); intro W2 HX2 HB2 HS2; simp only [Act.put, List.setIfInBounds_toArray, List.set_cons_zero, List.set_cons_succ]; have HBU : Hid (Below N u W2) := (unhide HB1).trans ((unhide HB2).mono (Nat.le_succ _)); have HLA : Hid (Lv W2 N a v n1 m1) := ⟨(unhide HSA).below (unhide HU _ (unhide HBU)), ((unhide HB2).block N (Nat.lt_succ_self _)).trans (unhide HX1)⟩; have HLB : Hid (Lv W2 (N + 1) b w n2 m1) := ⟨(unhide HSB).below (unhide HU _ (unhide HBU)), unhide HX2⟩; have HNW : Hid (N ≤ W2.heap.size) := (by rw [unhide HS2]; show N ≤ N + 1 + 1; omega); clear HX1 HX2 HB1 HB2 HS1 HS2; obtain ⟨x0, x1⟩ := (unhide HLA).cells; obtain ⟨y0, y1⟩ := (unhide HLB).cells)
        | (go_at_call 111; refine (krSameD true (unhide HSM) (unhide HLA).en (unhide HLB).en (unhide HLA).sat.seen (unhide HLB).sat.seen).mono ?_; rintro e W3 ⟨rfl, hbx⟩; clear x0 x1 y0 y1; replace HLA := hide ((unhide HLA).below hbx); replace HLB := hide ((unhide HLB).below hbx); replace HBU : Hid (Below N u W3) := (unhide HBU).trans (hbx.mono (unhide HNW)); replace HNW : Hid (N ≤ W3.heap.size) := Nat.le_trans (unhide HNW) hbx.size; clear hbx; obtain ⟨x0, x1⟩ := (unhide HLA).cells; obtain ⟨y0, y1⟩ := (unhide HLB).cells)
        | fail)
      clear x0 x1 y0 y1
      go_loopw [5] (fun t5 wr => ∃ (i : Nat), i ≤ m1 ∧ t5 = .int .i64 (i : Int) ∧ Hid (∀ j (h1 : j < a.sibs.length) (h2 : j < b.sibs.length), j < i → a.sibs[j] = b.sibs[j]) ∧ Hid (Below W3.heap.size W3 wr)) (fun t5 _ => m1 - (intOf t5).toNat)
      case atStart => exact ⟨0, Nat.zero_le _, rfl, fun j _ _ h => absurd h (Nat.not_lt_zero _), Below.refl _ _⟩
      case round =>
        obtain ⟨i, hi, rfl, HJ, HB0⟩ := hrel
        have hmi : (m1 : Int) ≤ 3518437208780 := by have := unhide HML; omega
        by_cases hlt : i < m1
        · have hii : (i : Int) < (m1 : Int) := by omega
          have hil : i < a.sibs.length := by rw [← unhide E2]; exact hlt
          have hil2 : i < b.sibs.length := by rw [← unhide E4]; exact hlt
          obtain ⟨g, o, hao, e1, e2, e3, e4⟩ := (unhide HLA).sat.sibs.lies.sb hil
          obtain ⟨g2, o2, hao2, f1, f2, f3, f4⟩ := (unhide HLB).sat.sibs.lies.sb hil2
          have hix := ixS g o m1 v.bc i hlt
          have hix2 := ixS g2 o2 m1 w.bc i hlt
          have HNI := hide (unhide HNE i hil hil2)
          have HJ1 : Hid (a.sibs[i] = b.sibs[i] → ∀ j (h1 : j < a.sibs.length) (h2 : j < b.sibs.length), j < i + 1 → a.sibs[j] = b.sibs[j]) := fun he j h1 h2 hj => by
            by_cases hji : j = i
            · subst hji; exact he
            · exact unhide HJ j h1 h2 (by omega)
          generalize a.sibs[i] = p at *
          generalize b.sibs[i] = q at *
          generalize o + i * 4 = oo at *
          generalize o2 + i * 4 = oo2 at *
          have hAll : ∀ W : World, Below W3.heap.size W3 W → W.cell? ⟨N, 1, none⟩ = some (.slice (some ⟨g, o, none⟩) m1 v.bc) ∧ W.cell? ⟨N + 1, 1, none⟩ = some (.slice (some ⟨g2, o2, none⟩) m1 w.bc) ∧ W.cell? ⟨g, oo, none⟩ = some (.int .u32 (p.a : Int)) ∧ W.cell? ⟨g, oo + 1, none⟩ = some (.int .u64 (p.c : Int)) ∧ W.cell? ⟨g, oo + 2, none⟩ = some (.bool p.gone) ∧ W.cell? ⟨g, oo + 3, none⟩ = some (.string p.val) ∧
              W.cell? ⟨g2, oo2, none⟩ = some (.int .u32 (q.a : Int)) ∧ W.cell? ⟨g2, oo2 + 1, none⟩ = some (.int .u64 (q.c : Int)) ∧ W.cell? ⟨g2, oo2 + 2, none⟩ = some (.bool q.gone) ∧ W.cell? ⟨g2, oo2 + 3, none⟩ = some (.string q.val) := fun W hW => by
            have h := ((unhide HLA).below hW).cells.2
            have h' := ((unhide HLB).below hW).cells.2
            rw [hao] at h
            rw [hao2] at h'
            exact ⟨h, h', cell_keep rfl hW e1, cell_keep rfl hW e2, cell_keep rfl hW e3, cell_keep rfl hW e4, cell_keep rfl hW f1, cell_keep rfl hW f2, cell_keep rfl hW f3, cell_keep rfl hW f4⟩
          clear e1 e2 e3 e4 f1 f2 f3 f4 hao hao2
          obtain ⟨w1, w2, w3, w4, w5, w6, w7, w8, w9, w10⟩ := hAll wr (unhide HB0)
          by_cases hpq : p = q
          · have hne : ∀ W : World, (binOp .neq 69 (.agg #[.int .u32 (p.a : Int), .int .u64 (p.c : Int), .bool p.gone, .string p.val]) (.agg #[.int .u32 (q.a : Int), .int .u64 (q.c : Int), .bool q.gone, .string q.val])).run Try.prog W = .ok (.bool false) W := fun W => by
              have h := neqS p q W
              rw [eqB_true.2 hpq] at h
              exact h
            have HJ2 := hide (unhide HJ1 hpq)
            clear hpq HJ1 HNI
            go_wp2_with fail
            go_quiet (fail)
            have HBQ : Hid (Below W3.heap.size W3 (wr.drewN nq)) := belowDrewN (unhide HB0) _
            generalize wr.drewN nq = Q1 at HBQ ⊢
            go_wp2_with fail
            go_roundw
            case rel => exact ⟨i + 1, by omega, by go_num, HJ2, HBQ⟩
            case measure => simp [intOf]; omega
          · have hne : ∀ W : World, (binOp .neq 69 (.agg #[.int .u32 (p.a : Int), .int .u64 (p.c : Int), .bool p.gone, .string p.val]) (.agg #[.int .u32 (q.a : Int), .int .u64 (q.c : Int), .bool q.gone, .string q.val])).run Try.prog W = .ok (.bool true) W := fun W => by
              have h := neqS p q W
              rw [eqB_false.2 hpq] at h
              exact h
            have HR := hide (unhide HNI hpq)
            clear hpq HJ1 HNI
            go_wp2_with fail
            go_quiet (fail)
            have HBQ : Hid (Below W3.heap.size W3 (wr.drewN nq)) := belowDrewN (unhide HB0) _
            generalize wr.drewN nq = Q1 at HBQ ⊢
            go_wp2_with fail
            go_ret
            exact ⟨by rw [unhide HR]; exact rfl, (unhide HBU).trans ((unhide HBQ).mono (unhide HNW))⟩
        · obtain rfl : i = m1 := by omega
          have hki : ¬ (i : Int) < (i : Int) := by omega
          have HR := hide (unhide HEQ fun j h1 h2 => unhide HJ j h1 h2 (by rw [unhide E2]; exact h1))
          obtain ⟨x0, x1⟩ := ((unhide HLA).below (unhide HB0)).cells
          go_wp2_with fail
          go_ret
          exact ⟨by rw [unhide HR]; exact rfl, (unhide HBU).trans ((unhide HB0).mono (unhide HNW))⟩
    · have HR : Hid (sameB a b = false) := by
        show sameB a b = false
        cases hq : sameB a b
        · rfl
        · have e := sameB_iff.1 hq
          exact absurd ((unhide E2).trans ((congrArg (fun s => s.sibs.length) e).trans (unhide E4).symm)) hl
      rw [unhide HR]
      have hli : ((m1 : Int) == (m2 : Int)) = false := by rw [beq_nat]; exact decide_eq_false hl
      have hli2 : ¬ ((m1 : Int) = (m2 : Int)) := by omega
      have HLL := hide hl
      clear hse hl
      go_enter Try.func72, Try.ntmps72
      go_wp2_with (first
        | ((with_reducible refine wpList_box_state (by rfl) (.tmp 0) (by rfl) (some 2) (by rfl) N (unhide HN) v n1 m1 (by with_unfolding_all rfl) ?_); intro W1 HX1 HB1 HS1; simp only [Act.put, List.setIfInBounds_toArray, List.set_cons_zero, List.set_cons_succ])
        | ((with_reducible refine wpList_box_state (by rfl) (.tmp 1) (by rfl) (some 3) (by rfl) (N + 1) (unhide HS1).symm w n2 m2 (by with_unfolding_all rfl) ?_); intro W2 HX2 HB2 HS2; simp only [Act.put, List.setIfInBounds_toArray, List.set_cons_zero, List.set_cons_succ]; have HBU : Hid (Below N u W2) := (unhide HB1).trans ((unhide HB2).mono (Nat.le_succ _)); have HLA : Hid (Lv W2 N a v n1 m1) := ⟨(unhide HSA).below (unhide HU _ (unhide HBU)), ((unhide HB2).block N (Nat.lt_succ_self _)).trans (unhide HX1)⟩; have HLB : Hid (Lv W2 (N + 1) b w n2 m2) := ⟨(unhide HSB).below (unhide HU _ (unhide HBU)), unhide HX2⟩; have HNW : Hid (N ≤ W2.heap.size) := (by rw [unhide HS2]; show N ≤ N + 1 + 1; omega); clear HX1 HX2 HB1 HB2 HS1 HS2; obtain ⟨x0, x1⟩ := (unhide HLA).cells; obtain ⟨y0, y1⟩ := (unhide HLB).cells)
        | (go_at_call 111; refine (krSameD true (unhide HSM) (unhide HLA).en (unhide HLB).en (unhide HLA).sat.seen (unhide HLB).sat.seen).mono ?_; rintro e W3 ⟨rfl, hbx⟩; clear x0 x1 y0 y1; replace HLA := hide ((unhide HLA).below hbx); replace HLB := hide ((unhide HLB).below hbx); replace HBU : Hid (Below N u W3) := (unhide HBU).trans (hbx.mono (unhide HNW)); replace HNW : Hid (N ≤ W3.heap.size) := Nat.le_trans (unhide HNW) hbx.size; clear hbx; obtain ⟨x0, x1⟩ := (unhide HLA).cells; obtain ⟨y0, y1⟩ := (unhide HLB).cells)
        | fail)
      go_ret
      exact ⟨rfl, unhide HBU⟩
  · have HSM := hide (decide_eq_false hse)
    have HR : Hid (sameB a b = false) := by
      show sameB a b = false
      cases hq : sameB a b
      · rfl
      · exact absurd (congrArg (fun s => s.seen) (sameB_iff.1 hq)) hse
    rw [unhide HR]
    clear hse
    go_enter Try.func72, Try.ntmps72
    go_wp2_with (first
      | ((with_reducible refine wpList_box_state (by rfl) (.tmp 0) (by rfl) (some 2) (by rfl) N (unhide HN) v n1 m1 (by with_unfolding_all rfl) ?_); intro W1 HX1 HB1 HS1; simp only [Act.put, List.setIfInBounds_toArray, List.set_cons_zero, List.set_cons_succ])
      | ((with_reducible refine wpList_box_state (by rfl) (.tmp 1) (by rfl) (some 3) (by rfl) (N + 1) (unhide HS1).symm w n2 m2 (by with_unfolding_all rfl) ?_); intro W2 HX2 HB2 HS2; simp only [Act.put, List.setIfInBounds_toArray, List.set_cons_zero, List.set_cons_succ]; have HBU : Hid (Below N u W2) := (unhide HB1).trans ((unhide HB2).mono (Nat.le_succ _)); have HLA : Hid (Lv W2 N a v n1 m1) := ⟨(unhide HSA).below (unhide HU _ (unhide HBU)), ((unhide HB2).block N (Nat.lt_succ_self _)).trans (unhide HX1)⟩; have HLB : Hid (Lv W2 (N + 1) b w n2 m2) := ⟨(unhide HSB).below (unhide HU _ (unhide HBU)), unhide HX2⟩; have HNW : Hid (N ≤ W2.heap.size) := (by rw [unhide HS2]; show N ≤ N + 1 + 1; omega); clear HX1 HX2 HB1 HB2 HS1 HS2; obtain ⟨x0, x1⟩ := (unhide HLA).cells; obtain ⟨y0, y1⟩ := (unhide HLB).cells)
      | (go_at_call 111; refine (krSameD false (unhide HSM) (unhide HLA).en (unhide HLB).en (unhide HLA).sat.seen (unhide HLB).sat.seen).mono ?_; rintro e W3 ⟨rfl, hbx⟩; clear x0 x1 y0 y1; replace HLA := hide ((unhide HLA).below hbx); replace HLB := hide ((unhide HLB).below hbx); replace HBU : Hid (Below N u W3) := (unhide HBU).trans (hbx.mono (unhide HNW)); replace HNW : Hid (N ≤ W3.heap.size) := Nat.le_trans (unhide HNW) hbx.size; clear hbx; obtain ⟨x0, x1⟩ := (unhide HLA).cells; obtain ⟨y0, y1⟩ := (unhide HLB).cells)
      | fail)
    go_ret
    exact ⟨rfl, unhide HBU⟩
theorem kvRSame {W0 : World} {a b : St} {v w : Sv} {n m n' m' : Nat} (r : Bool) (hr : sameB a b = r) (h1 : Sx W0 a v n m) (h2 : Sx W0 b w n' m') (W : World) (hW : Below W0.heap.size W0 W) : Calls Try.prog 72 #[v.v n m, w.v n' m'] W fun e W' => e = .returned (.bool r) ∧ Below W0.heap.size W0 W' := by
  subst hr
  rw [h1.en, h1.em, h2.en, h2.em]
  exact (rSameT a b v w W (h1.sat.below hW) (h2.sat.below hW)).mono fun e W' h => ⟨h.1, hW.trans (h.2.mono hW.size)⟩
end Go.Proofs.Ytkcbljmjhlnjpaa
