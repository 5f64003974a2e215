/- Put together out of Ok, Ol, Om, HallB. -/
import Derived.Test.YtkcbljmjhlnjpaaQ23
import Derived.Test.YtkcbljmjhlnjpaaQ01
import Derived.Deep.Slices
import Derived.Deep.DeepHandedRow
import Derived.Lib.LaidTab
import Derived.ShutString
import Derived.ChangeOld
import Derived.Below
namespace Go.Proofs.Ytkcbljmjhlnjpaa
open Go.RowKit Go.Lib
set_option maxRecDepth 100000 in
set_option maxHeartbeats 2000000 in
theorem lSameD (l m : List (Nat × Nat)) (ao bo : Option Addr) (c d : Nat) (u : World) (h : DAt u l ao) (h2 : DAt u m bo) : Calls Try.prog 26 #[.slice ao l.length c, .slice bo m.length d] u fun e u' => e = .returned (.bool (decide (l = m))) ∧ ∃ z, u' = u.drewN z := by
  have hl0 := h.len
  have HQ := hide h.lies
  have HP := hide h2.lies
  clear h h2
  by_cases hlm : l.length = m.length
  · have HE : Hid (∀ j (h1 : j < l.length) (h2 : j < m.length), l[j] ≠ m[j] → decide (l = m) = false) := fun j h1 h2 hn => decide_eq_false fun e => hn (by subst e; rfl)
    have HT : Hid ((∀ j (h1 : j < l.length) (h2 : j < m.length), l[j] = m[j]) → decide (l = m) = true) := fun he => decide_eq_true (list_ext hlm he)
    generalize decide (l = m) = ok at *
    obtain ⟨n, hn⟩ : ∃ n, n = l.length := ⟨_, rfl⟩
    have HLN := hide hn
    have HMN : Hid (n = m.length) := hn.trans hlm
    rw [show m.length = n from (unhide HMN).symm]
    rw [← hn] at hl0 ⊢
    have hni : (n : Int) ≤ 140737488355328 := by omega
    clear hn hl0 hlm
    go_enter Try.func26, Try.ntmps26
    go_wp2
    go_loopw [5] (fun i wr => ∃ k : Nat, k ≤ n ∧ i = .int .i64 k ∧ Hid (∃ z, wr = u.drewN z) ∧ Hid (∀ j (h1 : j < l.length) (h2 : j < m.length), j < k → l[j] = m[j])) (fun i _ => n - (intOf i).toNat)
    case atStart => exact ⟨0, Nat.zero_le _, rfl, ⟨0, rfl⟩, fun j _ _ hj => absurd hj (Nat.not_lt_zero _)⟩
    case round =>
      obtain ⟨k, hk, rfl, HI, HJ⟩ := hrel
      obtain ⟨z, rfl⟩ := unhide HI
      clear HI
      by_cases hlt : k < n
      · have hki : (k : Int) < (n : Int) := by omega
        have hkl : k < l.length := by rw [← unhide HLN]; exact hlt
        have hkm : k < m.length := by rw [← unhide HMN]; exact hlt
        obtain ⟨g, o, hao, c1, c2⟩ := (unhide HQ).dt hkl
        obtain ⟨g2, o2, hao2, d1, d2⟩ := (unhide HP).dt hkm
        subst hao hao2
        have hix := ixD g o n c k hlt
        have hix2 := ixD g2 o2 n d k hlt
        have HE1 := hide (unhide HE k hkl hkm)
        have HR : Hid (l[k] = m[k] → ∀ j (h1 : j < l.length) (h2 : j < m.length), j < k + 1 → l[j] = m[j]) := fun hg j hj hj2 hjk => by
          rcases Nat.lt_succ_iff_lt_or_eq.1 hjk with h | rfl
          · exact unhide HJ j hj hj2 h
          · exact hg
        clear HE HJ
        generalize l[k] = q at *
        generalize m[k] = p at *
        obtain ⟨qa, qc⟩ := q
        obtain ⟨pa, pc⟩ := p
        have c1 : u.cell? ⟨g, o + k * 2, none⟩ = some (.int .u32 (qa : Int)) := c1
        have c2 : u.cell? ⟨g, o + k * 2 + 1, none⟩ = some (.int .u64 (qc : Int)) := c2
        have d1 : u.cell? ⟨g2, o2 + k * 2, none⟩ = some (.int .u32 (pa : Int)) := d1
        have d2 : u.cell? ⟨g2, o2 + k * 2 + 1, none⟩ = some (.int .u64 (pc : Int)) := d2
        generalize o + k * 2 = j1 at *
        generalize o2 + k * 2 = j2 at *
        by_cases hqp : (qa, qc) = (pa, pc)
        · have HG := hide (unhide HR hqp)
          cases hqp
          have heq : ∀ W : World, (binOp .neq 53 (.agg #[.int .u32 (qa : Int), .int .u64 (qc : Int)]) (.agg #[.int .u32 (qa : Int), .int .u64 (qc : Int)])).run Try.prog W = .ok (.bool false) W := fun W => by rw [neqD]; simp
          go_wp2_with fail
          go_quiet (fail)
          go_wp2
          go_roundw
          case rel => exact ⟨k + 1, by omega, by go_num, ⟨z + nq, rfl⟩, unhide HG⟩
          case measure => simp [intOf]; omega
        · have HB := hide (unhide HE1 hqp)
          have heq : ∀ W : World, (binOp .neq 53 (.agg #[.int .u32 (qa : Int), .int .u64 (qc : Int)]) (.agg #[.int .u32 (pa : Int), .int .u64 (pc : Int)])).run Try.prog W = .ok (.bool true) W := fun W => by
            rw [neqD, beq_nat, beq_nat, ← Bool.decide_and, decide_eq_false (fun ⟨h1, h2⟩ => hqp (by rw [h1, h2]))]
            rfl
          go_wp2_with fail
          go_quiet (fail)
          go_wp2
          go_ret
          exact ⟨by rw [unhide HB]; rfl, z + nq, by simp [World.drewN_drewN]⟩
      · obtain rfl : k = n := by omega
        have hki : ¬ (k : Int) < (k : Int) := by omega
        have HB := hide (unhide HT fun j h1 h2 => unhide HJ j h1 h2 (by rw [unhide HLN]; exact h1))
        go_wp2
        go_ret
        exact ⟨by rw [unhide HB]; rfl, z, rfl⟩
  · rw [decide_eq_false (fun e : l = m => hlm (by rw [e]))]
    have hi : ¬ (l.length : Int) = (m.length : Int) := by omega
    go_enter Try.func26, Try.ntmps26
    go_wp2
    go_ret
    exact ⟨rfl, 0, rfl⟩
theorem klSameD {W0 : World} {a b : List (Nat × Nat)} {xa xb : Option Addr} {ca cb na nb : Nat} (r : Bool) (hr : decide (a = b) = r) (ea : na = a.length) (eb : nb = b.length) (ha : Da W0 a xa ca) (hb : Da W0 b xb cb) : Calls Try.prog 26 #[.slice xa na ca, .slice xb nb cb] W0 fun e W' => e = .returned (.bool r) ∧ Below W0.heap.size W0 W' := by
  subst ea eb
  refine (lSameD a b xa xb ca cb W0 ha.at hb.at).mono ?_
  rintro e W' ⟨he, z, rfl⟩
  exact ⟨by rw [he, hr], belowDrewN (Below.refl _ _) _⟩
open Classical in
noncomputable def sameO (a b : Ot) : Bool := decide (a = b)
open Classical in
theorem sameO_iff {a b : Ot} : sameO a b = true ↔ a = b := by unfold sameO; rw [decide_eq_true_iff]
theorem ot_eq {a b : Ot} : a = b ↔ a.key = b.key ∧ a.st.seen = b.st.seen ∧ a.st.sibs = b.st.sibs := by
  obtain ⟨k, s1, s2⟩ := a
  obtain ⟨k', t1, t2⟩ := b
  simp
set_option maxRecDepth 100000 in
set_option maxHeartbeats 4000000 in
theorem lSameK (a b : Ot) (hk : a.key = b.key) (v w : Sv) (u : World) (ha : SAt u a.st v) (hb : SAt u b.st w) : Calls Try.prog 17 #[obV a.key v a.st.seen.length a.st.sibs.length, obV b.key w b.st.seen.length b.st.sibs.length] u fun e u' => e = .returned (.bool (sameO a b)) ∧ Below u.heap.size u u' := by
  obtain ⟨N, hN⟩ : ∃ N, N = u.heap.size := ⟨_, rfl⟩
  have HN := hide hN
  obtain ⟨n1, hn1⟩ : ∃ n, n = a.st.seen.length := ⟨_, rfl⟩
  obtain ⟨m1, hm1⟩ : ∃ n, n = a.st.sibs.length := ⟨_, rfl⟩
  obtain ⟨n2, hn2⟩ : ∃ n, n = b.st.seen.length := ⟨_, rfl⟩
  obtain ⟨m2, hm2⟩ : ∃ n, n = b.st.sibs.length := ⟨_, rfl⟩
  have HSA : Hid (Sx u a.st v n1 m1) := ⟨ha, hn1, hm1⟩
  have HSB : Hid (Sx u b.st w n2 m2) := ⟨hb, hn2, hm2⟩
  have E2 := hide hm1
  have E4 := hide hm2
  rw [← hn1, ← hm1, ← hn2, ← hm2, ← hN]
  clear hN hn1 hm1 hn2 hm2 ha hb
  have HU : Hid (∀ W : World, Below N u W → Below u.heap.size u W) := fun W hW => by rw [← unhide HN]; exact hW
  have hq : (a.key.toList == b.key.toList) = true := by rw [hk]; simp
  by_cases hse : a.st.seen = b.st.seen
  · have HSM := hide (decide_eq_true hse)
    by_cases hl : m1 = m2
    · subst hl
      have HNE : Hid (∀ j (h1 : j < a.st.sibs.length) (h2 : j < b.st.sibs.length), a.st.sibs[j] ≠ b.st.sibs[j] → sameO a b = false) := fun j h1 h2 hne => by
        cases hq : sameO a b
        · rfl
        · have e := sameO_iff.1 hq
          subst e
          exact absurd rfl hne
      have HEQ : Hid ((∀ j (h1 : j < a.st.sibs.length) (h2 : j < b.st.sibs.length), a.st.sibs[j] = b.st.sibs[j]) → sameO a b = true) := fun h => sameO_iff.2 (ot_eq.2 ⟨hk, hse, List.ext_getElem (by rw [← unhide E2, ← unhide E4]) fun j h1 h2 => h j h1 h2⟩)
      have HML : Hid (m1 ≤ 3518437208780) := by show m1 ≤ 3518437208780; rw [unhide E2]; exact (unhide HSA).sat.sibs.len
      generalize sameO a b = r at *
      clear hse hk
      go_enter Try.func17, Try.ntmps17
      go_wp2_with (first
        | ((with_reducible refine wpList_box_ob (by rfl) (.tmp 0) (by rfl) (some 2) (by rfl) N (unhide HN) a.key v n1 m1 (by with_unfolding_all rfl) ?_); intro W1 HX1 HB1 HS1; simp only [Act.put, List.setIfInBounds_toArray, List.set_cons_zero, List.set_cons_succ])
        | ((with_reducible refine wpList_box_ob (by rfl) (.tmp 1) (by rfl) (some 3) (by rfl) (N + 1) (unhide HS1).symm b.key w n2 m1 (by with_unfolding_all rfl) ?_); intro W2 HX2 HB2 HS2; simp only [Act.put, List.setIfInBounds_toArray, List.set_cons_zero, List.set_cons_succ]; have HBU : Hid (Below N u W2) := (unhide HB1).trans ((unhide HB2).mono (Nat.le_succ _)); have HLA : Hid (Lo W2 N a v n1 m1) := ⟨(unhide HSA).below (unhide HU _ (unhide HBU)), ((unhide HB2).block N (Nat.lt_succ_self _)).trans (unhide HX1)⟩; have HLB : Hid (Lo W2 (N + 1) b w n2 m1) := ⟨(unhide HSB).below (unhide HU _ (unhide HBU)), unhide HX2⟩; have HNW : Hid (N ≤ W2.heap.size) := (by rw [unhide HS2]; show N ≤ N + 1 + 1; omega); clear HX1 HX2 HB1 HB2 HS1 HS2; obtain ⟨x0, x1, x2⟩ := (unhide HLA).cells; obtain ⟨y0, y1, y2⟩ := (unhide HLB).cells)
        | (go_at_call 26; refine (klSameD true (unhide HSM) (unhide HLA).en (unhide HLB).en (unhide HLA).sat.seen (unhide HLB).sat.seen).mono ?_; rintro e W3 ⟨rfl, hbx⟩; clear x0 x1 x2 y0 y1 y2; replace HLA := hide ((unhide HLA).below hbx); replace HLB := hide ((unhide HLB).below hbx); replace HBU : Hid (Below N u W3) := (unhide HBU).trans (hbx.mono (unhide HNW)); replace HNW : Hid (N ≤ W3.heap.size) := Nat.le_trans (unhide HNW) hbx.size; clear hbx; obtain ⟨x0, x1, x2⟩ := (unhide HLA).cells; obtain ⟨y0, y1, y2⟩ := (unhide HLB).cells)
        | fail)
      clear x0 x1 x2 y0 y1 y2
      go_loopw [5] (fun t5 wr => ∃ (i : Nat), i ≤ m1 ∧ t5 = .int .i64 (i : Int) ∧ Hid (∀ j (h1 : j < a.st.sibs.length) (h2 : j < b.st.sibs.length), j < i → a.st.sibs[j] = b.st.sibs[j]) ∧ Hid (Below W3.heap.size W3 wr)) (fun t5 _ => m1 - (intOf t5).toNat)
      case atStart => exact ⟨0, Nat.zero_le _, rfl, fun j _ _ h => absurd h (Nat.not_lt_zero _), Below.refl _ _⟩
      case round =>
        obtain ⟨i, hi, rfl, HJ, HB0⟩ := hrel
        have hmi : (m1 : Int) ≤ 3518437208780 := by have := unhide HML; omega
        by_cases hlt : i < m1
        · have hii : (i : Int) < (m1 : Int) := by omega
          have hil : i < a.st.sibs.length := by rw [← unhide E2]; exact hlt
          have hil2 : i < b.st.sibs.length := by rw [← unhide E4]; exact hlt
          obtain ⟨g, o, hao, e1, e2, e3, e4⟩ := (unhide HLA).sat.sibs.lies.sb hil
          obtain ⟨g2, o2, hao2, f1, f2, f3, f4⟩ := (unhide HLB).sat.sibs.lies.sb hil2
          have hix := ixS g o m1 v.bc i hlt
          have hix2 := ixS g2 o2 m1 w.bc i hlt
          have HNI := hide (unhide HNE i hil hil2)
          have HJ1 : Hid (a.st.sibs[i] = b.st.sibs[i] → ∀ j (h1 : j < a.st.sibs.length) (h2 : j < b.st.sibs.length), j < i + 1 → a.st.sibs[j] = b.st.sibs[j]) := fun he j h1 h2 hj => by
            by_cases hji : j = i
            · subst hji; exact he
            · exact unhide HJ j h1 h2 (by omega)
          generalize a.st.sibs[i] = p at *
          generalize b.st.sibs[i] = q at *
          generalize o + i * 4 = oo at *
          generalize o2 + i * 4 = oo2 at *
          have hAll : ∀ W : World, Below W3.heap.size W3 W → W.cell? ⟨N, 2, none⟩ = some (.slice (some ⟨g, o, none⟩) m1 v.bc) ∧ W.cell? ⟨N + 1, 2, none⟩ = some (.slice (some ⟨g2, o2, none⟩) m1 w.bc) ∧ W.cell? ⟨g, oo, none⟩ = some (.int .u32 (p.a : Int)) ∧ W.cell? ⟨g, oo + 1, none⟩ = some (.int .u64 (p.c : Int)) ∧ W.cell? ⟨g, oo + 2, none⟩ = some (.bool p.gone) ∧ W.cell? ⟨g, oo + 3, none⟩ = some (.string p.val) ∧
              W.cell? ⟨g2, oo2, none⟩ = some (.int .u32 (q.a : Int)) ∧ W.cell? ⟨g2, oo2 + 1, none⟩ = some (.int .u64 (q.c : Int)) ∧ W.cell? ⟨g2, oo2 + 2, none⟩ = some (.bool q.gone) ∧ W.cell? ⟨g2, oo2 + 3, none⟩ = some (.string q.val) := fun W hW => by
            have h := ((unhide HLA).below hW).cells.2.2
            have h' := ((unhide HLB).below hW).cells.2.2
            rw [hao] at h
            rw [hao2] at h'
            exact ⟨h, h', cell_keep rfl hW e1, cell_keep rfl hW e2, cell_keep rfl hW e3, cell_keep rfl hW e4, cell_keep rfl hW f1, cell_keep rfl hW f2, cell_keep rfl hW f3, cell_keep rfl hW f4⟩
          clear e1 e2 e3 e4 f1 f2 f3 f4 hao hao2
          obtain ⟨w1, w2, w3, w4, w5, w6, w7, w8, w9, w10⟩ := hAll wr (unhide HB0)
          by_cases hpq : p = q
          · have hne : ∀ W : World, (binOp .neq 69 (.agg #[.int .u32 (p.a : Int), .int .u64 (p.c : Int), .bool p.gone, .string p.val]) (.agg #[.int .u32 (q.a : Int), .int .u64 (q.c : Int), .bool q.gone, .string q.val])).run Try.prog W = .ok (.bool false) W := fun W => by
              have h := neqS p q W
              rw [eqB_true.2 hpq] at h
              exact h
            have HJ2 := hide (unhide HJ1 hpq)
            clear hpq HJ1 HNI
            go_wp2_with fail
            go_quiet (fail)
            have HBQ : Hid (Below W3.heap.size W3 (wr.drewN nq)) := belowDrewN (unhide HB0) _
            generalize wr.drewN nq = Q1 at HBQ ⊢
            go_wp2_with fail
            go_roundw
            case rel => exact ⟨i + 1, by omega, by go_num, HJ2, HBQ⟩
            case measure => simp [intOf]; omega
          · have hne : ∀ W : World, (binOp .neq 69 (.agg #[.int .u32 (p.a : Int), .int .u64 (p.c : Int), .bool p.gone, .string p.val]) (.agg #[.int .u32 (q.a : Int), .int .u64 (q.c : Int), .bool q.gone, .string q.val])).run Try.prog W = .ok (.bool true) W := fun W => by
              have h := neqS p q W
              rw [eqB_false.2 hpq] at h
              exact h
            have HR := hide (unhide HNI hpq)
            clear hpq HJ1 HNI
            go_wp2_with fail
            go_quiet (fail)
            have HBQ : Hid (Below W3.heap.size W3 (wr.drewN nq)) := belowDrewN (unhide HB0) _
            generalize wr.drewN nq = Q1 at HBQ ⊢
            go_wp2_with fail
            go_ret
            exact ⟨by rw [unhide HR]; exact rfl, (unhide HBU).trans ((unhide HBQ).mono (unhide HNW))⟩
        · obtain rfl : i = m1 := by omega
          have hki : ¬ (i : Int) < (i : Int) := by omega
          have HR := hide (unhide HEQ fun j h1 h2 => unhide HJ j h1 h2 (by rw [unhide E2]; exact h1))
          obtain ⟨x0, x1, x2⟩ := ((unhide HLA).below (unhide HB0)).cells
          go_wp2_with fail
          go_ret
          exact ⟨by rw [unhide HR]; exact rfl, (unhide HBU).trans ((unhide HB0).mono (unhide HNW))⟩
    · have HR : Hid (sameO a b = false) := by
        show sameO a b = false
        cases hq : sameO a b
        · rfl
        · have e := sameO_iff.1 hq
          exact absurd ((unhide E2).trans ((congrArg (fun s => s.st.sibs.length) e).trans (unhide E4).symm)) hl
      rw [unhide HR]
      have hli : ((m1 : Int) == (m2 : Int)) = false := by rw [beq_nat]; exact decide_eq_false hl
      have hli2 : ¬ ((m1 : Int) = (m2 : Int)) := by omega
      have HLL := hide hl
      clear hse hl hk
      go_enter Try.func17, Try.ntmps17
      go_wp2_with (first
        | ((with_reducible refine wpList_box_ob (by rfl) (.tmp 0) (by rfl) (some 2) (by rfl) N (unhide HN) a.key v n1 m1 (by with_unfolding_all rfl) ?_); intro W1 HX1 HB1 HS1; simp only [Act.put, List.setIfInBounds_toArray, List.set_cons_zero, List.set_cons_succ])
        | ((with_reducible refine wpList_box_ob (by rfl) (.tmp 1) (by rfl) (some 3) (by rfl) (N + 1) (unhide HS1).symm b.key w n2 m2 (by with_unfolding_all rfl) ?_); intro W2 HX2 HB2 HS2; simp only [Act.put, List.setIfInBounds_toArray, List.set_cons_zero, List.set_cons_succ]; have HBU : Hid (Below N u W2) := (unhide HB1).trans ((unhide HB2).mono (Nat.le_succ _)); have HLA : Hid (Lo W2 N a v n1 m1) := ⟨(unhide HSA).below (unhide HU _ (unhide HBU)), ((unhide HB2).block N (Nat.lt_succ_self _)).trans (unhide HX1)⟩; have HLB : Hid (Lo W2 (N + 1) b w n2 m2) := ⟨(unhide HSB).below (unhide HU _ (unhide HBU)), unhide HX2⟩; have HNW : Hid (N ≤ W2.heap.size) := (by rw [unhide HS2]; show N ≤ N + 1 + 1; omega); clear HX1 HX2 HB1 HB2 HS1 HS2; obtain ⟨x0, x1, x2⟩ := (unhide HLA).cells; obtain ⟨y0, y1, y2⟩ := (unhide HLB).cells)
        | (go_at_call 26; refine (klSameD true (unhide HSM) (unhide HLA).en (unhide HLB).en (unhide HLA).sat.seen (unhide HLB).sat.seen).mono ?_; rintro e W3 ⟨rfl, hbx⟩; clear x0 x1 x2 y0 y1 y2; replace HLA := hide ((unhide HLA).below hbx); replace HLB := hide ((unhide HLB).below hbx); replace HBU : Hid (Below N u W3) := (unhide HBU).trans (hbx.mono (unhide HNW)); replace HNW : Hid (N ≤ W3.heap.size) := Nat.le_trans (unhide HNW) hbx.size; clear hbx; obtain ⟨x0, x1, x2⟩ := (unhide HLA).cells; obtain ⟨y0, y1, y2⟩ := (unhide HLB).cells)
        | fail)
      go_ret
      exact ⟨rfl, unhide HBU⟩
  · have HSM := hide (decide_eq_false hse)
    have HR : Hid (sameO a b = false) := by
      show sameO a b = false
      cases hq : sameO a b
      · rfl
      · exact absurd (congrArg (fun s => s.st.seen) (sameO_iff.1 hq)) hse
    rw [unhide HR]
    clear hse hk
    go_enter Try.func17, Try.ntmps17
    go_wp2_with (first
      | ((with_reducible refine wpList_box_ob (by rfl) (.tmp 0) (by rfl) (some 2) (by rfl) N (unhide HN) a.key v n1 m1 (by with_unfolding_all rfl) ?_); intro W1 HX1 HB1 HS1; simp only [Act.put, List.setIfInBounds_toArray, List.set_cons_zero, List.set_cons_succ])
      | ((with_reducible refine wpList_box_ob (by rfl) (.tmp 1) (by rfl) (some 3) (by rfl) (N + 1) (unhide HS1).symm b.key w n2 m2 (by with_unfolding_all rfl) ?_); intro W2 HX2 HB2 HS2; simp only [Act.put, List.setIfInBounds_toArray, List.set_cons_zero, List.set_cons_succ]; have HBU : Hid (Below N u W2) := (unhide HB1).trans ((unhide HB2).mono (Nat.le_succ _)); have HLA : Hid (Lo W2 N a v n1 m1) := ⟨(unhide HSA).below (unhide HU _ (unhide HBU)), ((unhide HB2).block N (Nat.lt_succ_self _)).trans (unhide HX1)⟩; have HLB : Hid (Lo W2 (N + 1) b w n2 m2) := ⟨(unhide HSB).below (unhide HU _ (unhide HBU)), unhide HX2⟩; have HNW : Hid (N ≤ W2.heap.size) := (by rw [unhide HS2]; show N ≤ N + 1 + 1; omega); clear HX1 HX2 HB1 HB2 HS1 HS2; obtain ⟨x0, x1, x2⟩ := (unhide HLA).cells; obtain ⟨y0, y1, y2⟩ := (unhide HLB).cells)
      | (go_at_call 26; refine (klSameD false (unhide HSM) (unhide HLA).en (unhide HLB).en (unhide HLA).sat.seen (unhide HLB).sat.seen).mono ?_; rintro e W3 ⟨rfl, hbx⟩; clear x0 x1 x2 y0 y1 y2; replace HLA := hide ((unhide HLA).below hbx); replace HLB := hide ((unhide HLB).below hbx); replace HBU : Hid (Below N u W3) := (unhide HBU).trans (hbx.mono (unhide HNW)); replace HNW : Hid (N ≤ W3.heap.size) := Nat.le_trans (unhide HNW) hbx.size; clear hbx; obtain ⟨x0, x1, x2⟩ := (unhide HLA).cells; obtain ⟨y0, y1, y2⟩ := (unhide HLB).cells)
      | fail)
    go_ret
    exact ⟨rfl, unhide HBU⟩
set_option maxRecDepth 100000 in
set_option maxHeartbeats 2000000 in
theorem klSame {u : World} {a b : Ot} {v w : Sv} {n m n' m' : Nat} (ha : Sx u a.st v n m) (hb : Sx u b.st w n' m') (r : Bool) (hr : sameO a b = r) : Calls Try.prog 17 #[obV a.key v n m, obV b.key w n' m'] u fun e u' => e = .returned (.bool r) ∧ Below u.heap.size u u' := by
  by_cases hk : a.key = b.key
  · rw [ha.en, ha.em, hb.en, hb.em, ← hr]
    exact lSameK a b hk v w u ha.sat hb.sat
  · have e : sameO a b = false := by
      rw [← Bool.not_eq_true, sameO_iff]
      intro h
      exact hk (by rw [h])
    rw [e] at hr
    subst hr
    obtain ⟨N, hN⟩ : ∃ N, N = u.heap.size := ⟨_, rfl⟩
    have HN := hide hN
    have hq : (a.key.toList == b.key.toList) = false := by
      rw [← Bool.not_eq_true]
      intro h
      exact hk (toList_inj h)
    rw [← hN]
    clear hN ha hb hk e
    go_enter Try.func17, Try.ntmps17
    go_wp2_with (first
      | ((with_reducible refine wpList_box_ob (by rfl) (.tmp 0) (by rfl) (some 2) (by rfl) N (unhide HN) a.key v n m (by with_unfolding_all rfl) ?_); intro W1 HX1 HB1 HS1; simp only [Act.put, List.setIfInBounds_toArray, List.set_cons_zero, List.set_cons_succ])
      | ((with_reducible refine wpList_box_ob (by rfl) (.tmp 1) (by rfl) (some 3) (by rfl) (N + 1) (unhide HS1).symm b.key w n' m' (by with_unfolding_all rfl) ?_); intro W2 HX2 HB2 HS2; simp only [Act.put, List.setIfInBounds_toArray, List.set_cons_zero, List.set_cons_succ]; replace HX1 := hide (((unhide HB2).block N (Nat.lt_succ_self _)).trans (unhide HX1)); replace HB1 : Hid (Below N u W2) := (unhide HB1).trans ((unhide HB2).mono (Nat.le_succ _)); obtain ⟨c0, c1, c2⟩ := ob_cells (unhide HX1); obtain ⟨d0, d1, d2⟩ := ob_cells (unhide HX2))
      | fail)
    go_ret
    exact ⟨rfl, unhide HB1⟩
end Go.Proofs.Ytkcbljmjhlnjpaa
namespace Go.Proofs.Ytkcbljmjhlnjpaa
open Go.RowKit Go.Lib
def mkD : Nat × Nat := (9, 1125899906842624)
def mkS : Sb := ⟨0, 0, false, ⟨#[109, 97, 114, 107]⟩⟩
theorem own_pos {w : World} {B size n : Nat} {e : TypeId} {ao : Option Addr} {c : Nat} {xs : List Value} (h : w.ownsRow B e size (.slice ao n c) n xs) (h0 : 0 < n) : ∃ g, ao = some ⟨g, 0, none⟩ := by
  rcases h.2 with ⟨hv, hx⟩ | ⟨g, cap, cur, hv, _⟩
  · simp only [Value.slice.injEq] at hv
    omega
  · simp only [Value.slice.injEq] at hv
    exact ⟨g, hv.1⟩
theorem cutDD (g n c i : Nat) (hi : i ≤ c) (h0 : 0 < c) (W : World) : (Instr.slice 28 (.slice (some ⟨g, 0, none⟩) n c) none (some (.int .i64 (i : Int))) none).run Try.prog W = .ok (.slice (some ⟨g, 0, none⟩) i c) W := by
  have he : Try.prog.elem 28 = 53 := by kernel_rfl
  rw [run_slice_h W 28 _ _ _ (by rw [he]; exact undD) .i64 i (by omega) (by omega), he, sizeN (n := 2) (by kernel_rfl)]
  simp only [Result.andThen_ok, sliced, Int.toNat_natCast, Nat.sub_zero]
  rw [if_neg (by omega), Option.map_some, Addr.add_mid]
theorem cutSS (g n c i : Nat) (hi : i ≤ c) (h0 : 0 < c) (W : World) : (Instr.slice 29 (.slice (some ⟨g, 0, none⟩) n c) none (some (.int .i64 (i : Int))) none).run Try.prog W = .ok (.slice (some ⟨g, 0, none⟩) i c) W := by
  have he : Try.prog.elem 29 = 69 := by kernel_rfl
  rw [run_slice_h W 29 _ _ _ (by rw [he]; exact undS) .i64 i (by omega) (by omega), he, sizeN (n := 4) (by kernel_rfl)]
  simp only [Result.andThen_ok, sliced, Int.toNat_natCast, Nat.sub_zero]
  rw [if_neg (by omega), Option.map_some, Addr.add_mid]
set_option maxRecDepth 100000 in
set_option maxHeartbeats 4000000 in
theorem lDots (l : List (Nat × Nat)) (ao : Option Addr) (c n : Nat) (en : n = l.length) (u : World) (h : Da u l ao c) : Calls Try.prog 23 #[.slice ao n c] u fun e u' => ∃ x cc, e = .returned (.slice x n cc) ∧ OwnD u' u.heap.size (l ++ [mkD]) x cc ∧ Below u.heap.size u u' := by
  have HD := hide h
  have hl := h.len
  have HLM : Hid (∀ w : World, Dv (w.alloc (.cells #[.int .u32 9, .int .u64 1125899906842624] 53)) [mkD] (some ⟨w.heap.size, 0, none⟩) 1) := fun w => Dv.one w mkD 53
  obtain ⟨i0, hi, hz, hs, hby⟩ := dot_parts
  obtain ⟨N, hN⟩ : ∃ N, N = u.heap.size := ⟨_, rfl⟩
  have HN := hide hN
  rw [← hN]
  have HUP : Hid (∀ W W' : World, Below N u W → Below W.heap.size W W' → Below N u W') := fun W W' h1 h2 => h1.trans (h2.mono (by rw [hN]; exact h1.size))
  have HSZ : Hid (∀ W : World, Below N u W → N ≤ W.heap.size) := fun W hW => by rw [hN]; exact hW.size
  have HNL := hide en
  rw [← en] at hl
  have hli : (n : Int) ≤ 8796093021952 := by omega
  clear hN en h
  obtain ⟨n3, hn3⟩ : ∃ m, m = n + 1 := ⟨_, rfl⟩
  have hn3i : (n : Int) + 1 = (n3 : Int) := by omega
  have HLEN : Hid (([] : List (Nat × Nat)).length + l.length ≤ 8796093022208) := by have := unhide HNL; show 0 + l.length ≤ _; omega
  have HLEN2 : Hid (([] ++ l : List (Nat × Nat)).length + [mkD].length ≤ 8796093022208) := by have := unhide HNL; show (([] ++ l : List (Nat × Nat)).length + 1 ≤ _); rw [List.nil_append]; omega
  have hbb : i0.bytes * n3 ≤ 281474976710656 := by rw [hby]; omega
  have hml : n3 ≤ maxLen := by unfold maxLen; omega
  have HN3 := hide hn3
  clear hn3
  go_enter Try.func23, Try.ntmps23
  go_upto_region 2 with (first
    | (at_make; refine wpList_make_own _ (by rfl) (.const (.int .i64 0)) (.tmp 6) 28 (by rfl) N 53 i0 _ 2 undD hi hz hs .i64 .i64 (n3 : Int) n3 (by rfl) (by rfl) rfl hbb hml (by rw [unhide HN]; exact Nat.le_refl _) ?_; intro W1 HO1 HG1; simp only [Act.put, List.setIfInBounds_toArray, List.set_cons_zero, List.set_cons_succ]; have HB1 : Hid (Below N u W1) := (Below.refl N u).grown HG1 (by rw [unhide HN]; exact Nat.le_refl _) (fun k hk => by cases hk); have HO1' : Hid (OwnD W1 N [] (some ⟨u.heap.size, 0, none⟩) n3) := HO1; clear HO1 HG1)
    | fail)
  go_upto_region 3 with (first
    | (at_builtin; refine wpList_putD (by rfl) (.tmp 8) (.tmp 9) (by rfl) (some 10) (by rfl) N [] l 0 n rfl (unhide HNL) (some ⟨u.heap.size, 0, none⟩) ao n3 c (by rfl) (by rfl) (unhide HO1') ((unhide HD).below (by rw [← unhide HN]; exact unhide HB1)).toDv (unhide HLEN) (unhide HSZ _ (unhide HB1)) ?_; intro x2 m2 c2 W2 EN2 HO2 _ HBE2 _; simp only [Act.put, List.setIfInBounds_toArray, List.set_cons_zero, List.set_cons_succ]; have HB2 : Hid (Below N u W2) := (unhide HB1).trans (unhide HBE2))
    | fail)
  clear HO1' HB1 HBE2
  have HAL : Hid (Below W2.heap.size W2 (W2.alloc (.cells #[.int .u32 9, .int .u64 1125899906842624] 53))) := (Below.refl _ _).alloc (Nat.le_refl _) _
  have HB6 := hide (unhide HUP _ _ (unhide HB2) (unhide HAL))
  have HO6 := hide (OwnD.below (unhide HO2) (unhide HAL))
  go_upto_region 4 with (first
    | (at_builtin; refine wpList_putD (by rfl) (.tmp 11) (.tmp 13) (by rfl) (some 14) (by rfl) N ([] ++ l) [mkD] m2 1 (unhide EN2) rfl x2 (some ⟨W2.heap.size, 0, none⟩) c2 1 (by rfl) (by rfl) (unhide HO6) (unhide HLM W2) (unhide HLEN2) (unhide HSZ _ (unhide HB6)) ?_; intro x7 m7 c7 W7 EN7 HO7 _ HBE7 _; simp only [Act.put, List.setIfInBounds_toArray, List.set_cons_zero, List.set_cons_succ]; have HB7 : Hid (Below N u W7) := (unhide HB6).trans (unhide HBE7))
    | fail)
  have HO8 : Hid (OwnD W7 N (l ++ [mkD]) x7 c7) := unhide HO7
  obtain ⟨g, hg⟩ := own_pos (unhide HO8) (by rw [List.length_append]; exact Nat.lt_of_lt_of_le (by decide : 0 < 1) (Nat.le_add_left _ _))
  subst hg
  have hcap := (unhide HO8).dv.cap
  rw [List.length_append, ← unhide HNL] at hcap
  have hcut := cutDD g m7 c7 n (by simp only [List.length_cons, List.length_nil] at hcap; omega) (by simp only [List.length_cons, List.length_nil] at hcap; omega)
  clear hcap
  go_wp2
  go_ret
  exact ⟨_, c7, rfl, unhide HO8, unhide HB7⟩
/-- an object in memory of its own, marks behind its lists -/
structure TwO (w : World) (B : Nat) (o : Ot) (x : Sv) : Prop where
  sd : OwnD w B (o.st.seen ++ [mkD]) x.sa x.sc
  sb : OwnS w B (o.st.sibs ++ [mkS]) x.ba x.bc
theorem TwO.below {w w' : World} {B : Nat} {o : Ot} {x : Sv} (h : TwO w B o x) (hb : Below w.heap.size w w') : TwO w' B o x := ⟨own_below h.sd hb, own_below h.sb hb⟩
theorem TwO.sat {w : World} {B : Nat} {o : Ot} {x : Sv} (h : TwO w B o x) (hf : FitT o.st) (h1 : o.st.seen.length ≤ 8796093021952) (h2 : o.st.sibs.length ≤ 3518437208780) : SAt w o.st x := by
  have d := h.sd.dv
  have s := h.sb.dw
  have dl := d.lies
  have sl := s.lies
  rw [flatD_app] at dl
  rw [flatS_app] at sl
  have dc := d.cap
  have sc := s.cap
  rw [List.length_append] at dc sc
  exact ⟨⟨⟨dl.pre, by omega, d.nil⟩, hf.seen, h1⟩, ⟨sl.pre, by omega, s.nil, hf.sibs, h2⟩⟩
theorem entDt : ∀ args (w : World), (callFunc 23 args).run Try.prog w = .ok (.enter 23 args) w := by
  intro args w
  go_simp
set_option maxRecDepth 100000 in
set_option maxHeartbeats 4000000 in
theorem lTwin (o : Ot) (v : Sv) (n m : Nat) (u : World) (h : Sx u o.st v n m) : Calls Try.prog 13 #[obV o.key v n m] u fun e u' => ∃ x, e = .returned (obV o.key x n m) ∧ TwO u' u.heap.size o x ∧ Below u.heap.size u u' := by
  have hmix : Try.prog.follows .mixedOrders = true := by kernel_rfl
  have HD := hide h.sat.sibs
  have HDT : Hid (∀ W' : World, Below u.heap.size u W' → ∀ V : World, Below W'.heap.size W' V → Calls Try.prog 23 #[.slice v.sa n v.sc] V fun e V' => ∃ y, e = .returned y ∧ ∃ x cc, y = .slice x n cc ∧ OwnD V' V.heap.size (o.st.seen ++ [mkD]) x cc ∧ Below V.heap.size V V') := fun W' hW V hV => by
    refine (lDots o.st.seen v.sa v.sc n h.en V ((h.sat.seen.below hW).below hV)).mono ?_
    rintro e V' ⟨x, cc, h1, h2, h3⟩
    exact ⟨_, h1, x, cc, rfl, h2, h3⟩
  have hl := h.sat.sibs.len
  have HLM : Hid (∀ w : World, Dw (w.alloc (.cells #[.int .u32 0, .int .u64 0, .bool false, .string ⟨#[109, 97, 114, 107]⟩] 69)) [mkS] (some ⟨w.heap.size, 0, none⟩) 1) := fun w => ⟨fun _ => ⟨_, 0, rfl, fun j v hv => by
    have h1 := heap_alloc_new w (.cells #[.int .u32 0, .int .u64 0, .bool false, .string ⟨#[109, 97, 114, 107]⟩] 69)
    simp only [World.cell?, h1, Nat.zero_add]
    simpa [flatS, Sb.cs, mkS] using hv⟩, Nat.le_refl _, fun e => by cases e⟩
  obtain ⟨i0, hi, hz, hs, hby⟩ := sib_parts
  obtain ⟨N, hN⟩ : ∃ N, N = u.heap.size := ⟨_, rfl⟩
  have HN := hide hN
  rw [← hN] at HDT ⊢
  have HUP : Hid (∀ W W' : World, Below N u W → Below W.heap.size W W' → Below N u W') := fun W W' h1 h2 => h1.trans (h2.mono (by rw [hN]; exact h1.size))
  have HSZ : Hid (∀ W : World, Below N u W → N ≤ W.heap.size) := fun W hW => by rw [hN]; exact hW.size
  have HU : Hid (∀ W : World, Below N u W → Below u.heap.size u W) := fun W hW => by rw [← unhide HN]; exact hW
  have HNL := hide h.em
  rw [← h.em] at hl
  have hli : (m : Int) ≤ 3518437208780 := by omega
  clear hN h
  obtain ⟨n3, hn3⟩ : ∃ k, k = m + 1 := ⟨_, rfl⟩
  have hn3i : (m : Int) + 1 = (n3 : Int) := by omega
  have HLEN : Hid (([] : List Sb).length + o.st.sibs.length ≤ 3518437208880) := by have := unhide HNL; show 0 + o.st.sibs.length ≤ _; omega
  have HLEN2 : Hid (([] ++ o.st.sibs : List Sb).length + [mkS].length ≤ 3518437208880) := by have := unhide HNL; show (([] ++ o.st.sibs : List Sb).length + 1 ≤ _); rw [List.nil_append]; omega
  have hbb : i0.bytes * n3 ≤ 281474976710656 := by rw [hby]; omega
  have hml : n3 ≤ maxLen := by unfold maxLen; omega
  have HN3 := hide hn3
  clear hn3
  go_enter Try.func13, Try.ntmps13
  go_upto_region 2 with (first
    | ((with_reducible refine wpList_box_ob (by rfl) (.tmp 0) (by rfl) (some 1) (by rfl) N (unhide HN) o.key v n m (by with_unfolding_all rfl) ?_); intro V1 HX1 HB1 HS1; simp only [Act.put, List.setIfInBounds_toArray, List.set_cons_zero, List.set_cons_succ])
    | ((with_reducible refine wpList_alloc_ob (by rfl) (by rfl) (some 2) (by rfl) (N + 1) (unhide HS1).symm ?_); intro V2 HX2 HB2 HS2; simp only [Act.put, List.setIfInBounds_toArray, List.set_cons_zero, List.set_cons_succ]; replace HX1 := hide (((unhide HB2).block N (Nat.lt_succ_self _)).trans (unhide HX1)); replace HB1 : Hid (Below N u V2) := (unhide HB1).trans ((unhide HB2).mono (Nat.le_succ _)); clear HB2 HS1; obtain ⟨c0, c1, c2⟩ := ob_cells (unhide HX1))
    | (at_make; refine wpList_make_own _ (by rfl) (.const (.int .i64 0)) (.tmp 8) 29 (by rfl) (N + 1 + 1) 69 i0 _ 4 undS hi hz hs .i64 .i64 (n3 : Int) n3 (by rfl) (by rfl) rfl hbb hml (by rw [unhide HS2]; exact Nat.le_refl _) ?_; intro W1 HO1 HG1; simp only [Act.put, List.setIfInBounds_toArray, List.set_cons_zero, List.set_cons_succ]; have hb : Below V2.heap.size V2 W1 := (Below.refl _ _).grown HG1 (Nat.le_refl _) (fun k hk => by cases hk); replace HX1 := hide (box_below (unhide HX1) hb); replace HX2 := hide (box_below (unhide HX2) hb); replace HB1 : Hid (Below N u W1) := unhide HUP _ _ (unhide HB1) hb; have HSW : Hid (N + 1 + 1 ≤ W1.heap.size) := (by have := hb.size; rw [unhide HS2] at this; exact this); have HO1' : Hid (OwnS W1 (N + 1 + 1) [] (some ⟨V2.heap.size, 0, none⟩) n3) := HO1; clear HO1 HG1 hb c0 c1 c2; obtain ⟨c0, c1, c2⟩ := ob_cells (unhide HX1))
    | fail)
  go_upto_region 3 with (first
    | (at_builtin; refine wpList_putS (by rfl) (.tmp 10) (.tmp 13) (by rfl) (some 14) (by rfl) (N + 1 + 1) [] o.st.sibs 0 m rfl (unhide HNL) (some ⟨V2.heap.size, 0, none⟩) v.ba n3 v.bc (by rfl) (by rfl) (unhide HO1') ((unhide HD).below (unhide HU _ (unhide HB1))).dw (unhide HLEN) (unhide HSW) ?_; intro x2 m2 c3 W2 EN2 HO2 _ HBE2 _; simp only [Act.put, List.setIfInBounds_toArray, List.set_cons_zero, List.set_cons_succ]; replace HX1 := hide (((unhide HBE2).block N (by omega)).trans (unhide HX1)); replace HX2 := hide (((unhide HBE2).block (N + 1) (by omega)).trans (unhide HX2)); have HB2 : Hid (Below N u W2) := (unhide HB1).trans ((unhide HBE2).mono (by omega)); replace HSW : Hid (N + 1 + 1 ≤ W2.heap.size) := Nat.le_trans (unhide HSW) (unhide HBE2).size)
    | fail)
  clear HO1' HB1 HBE2 c0 c1 c2
  have HAL : Hid (Below W2.heap.size W2 (W2.alloc (.cells #[.int .u32 0, .int .u64 0, .bool false, .string ⟨#[109, 97, 114, 107]⟩] 69))) := (Below.refl _ _).alloc (Nat.le_refl _) _
  have HB6 := hide (unhide HUP _ _ (unhide HB2) (unhide HAL))
  have HO6 := hide (OwnS.below (unhide HO2) (unhide HAL))
  have HS6 : Hid (N + 1 + 1 ≤ (W2.alloc (.cells #[.int .u32 0, .int .u64 0, .bool false, .string ⟨#[109, 97, 114, 107]⟩] 69)).heap.size) := Nat.le_trans (unhide HSW) (unhide HAL).size
  replace HX1 := hide (box_below (unhide HX1) (unhide HAL))
  replace HX2 := hide (box_below (unhide HX2) (unhide HAL))
  go_upto_region 4 with (first
    | (at_builtin; refine wpList_putS (by rfl) (.tmp 15) (.tmp 17) (by rfl) (some 18) (by rfl) (N + 1 + 1) ([] ++ o.st.sibs) [mkS] m2 1 (unhide EN2) rfl x2 (some ⟨W2.heap.size, 0, none⟩) c3 1 (by rfl) (by rfl) (unhide HO6) (unhide HLM W2) (unhide HLEN2) (unhide HS6) ?_; intro x7 m7 c7 W7 EN7 HO7 _ HBE7 _; simp only [Act.put, List.setIfInBounds_toArray, List.set_cons_zero, List.set_cons_succ]; replace HX1 := hide (((unhide HBE7).block N (by omega)).trans (unhide HX1)); replace HX2 := hide (((unhide HBE7).block (N + 1) (by omega)).trans (unhide HX2)); have HB7 : Hid (Below N u W7) := (unhide HB6).trans ((unhide HBE7).mono (by omega)); have HS7 : Hid (N + 1 + 1 ≤ W7.heap.size) := Nat.le_trans (unhide HS6) (unhide HBE7).size)
    | fail)
  have HO8 : Hid (OwnS W7 (N + 1 + 1) (o.st.sibs ++ [mkS]) x7 c7) := unhide HO7
  obtain ⟨g, hg⟩ := own_pos (unhide HO8) (by rw [List.length_append]; exact Nat.lt_of_lt_of_le (by decide : 0 < 1) (Nat.le_add_left _ _))
  subst hg
  have hcap := (unhide HO8).dw.cap
  rw [List.length_append, ← unhide HNL] at hcap
  have hcut := cutSS g m7 c7 m (by simp only [List.length_cons, List.length_nil] at hcap; omega) (by simp only [List.length_cons, List.length_nil] at hcap; omega)
  replace HDT := hide (unhide HDT W7 (unhide HB7))
  clear hcap HO7 HO6 HO2 HAL HB6 HB2 HS6 HSW HBE7
  go_wp2_with fail
  refine wp_region_last (fun V => Below W7.heap.size W7 V) 14 hmix (belowDrew (Below.refl _ _)) fun hS => ?_
  generalize W7.drew = Z0 at hS ⊢
  refine wpAnyL_take 0 19 (.pointer (some ⟨N, 0, none⟩)) [] rfl rfl (by kernel_rfl) (by kernel_rfl) (by kernel_rfl) (by kernel_rfl) (by kernel_rfl) (fun _ _ _ h => h) (by rfl) (fun _ _ => by go_simp) hS ?_
  simp only [Act.put, List.setIfInBounds_toArray, List.set_cons_zero, List.set_cons_succ]
  refine wpAnyL_take 1 20 (.string o.key) [] rfl rfl (by kernel_rfl) (by kernel_rfl) (by kernel_rfl) (by kernel_rfl) (by kernel_rfl) (fun _ _ _ h => h) (by rfl) (fun V hV => by obtain ⟨c0, c1, c2⟩ := ob_cells (box_below (unhide HX1) hV); go_simp) hS ?_
  simp only [Act.put, List.setIfInBounds_toArray, List.set_cons_zero, List.set_cons_succ]
  refine wpAnyL_take 2 21 (.pointer (some ⟨N, 1, none⟩)) [] rfl rfl (by kernel_rfl) (by kernel_rfl) (by kernel_rfl) (by kernel_rfl) (by kernel_rfl) (fun _ _ _ h => h) (by rfl) (fun _ _ => by go_simp) hS ?_
  simp only [Act.put, List.setIfInBounds_toArray, List.set_cons_zero, List.set_cons_succ]
  refine wpAnyL_take 3 22 (.pointer (some ⟨N, 1, none⟩)) [] rfl rfl (by kernel_rfl) (by kernel_rfl) (by kernel_rfl) (by kernel_rfl) (by kernel_rfl) (fun _ _ _ h => h) (by rfl) (fun _ _ => by go_simp) hS ?_
  simp only [Act.put, List.setIfInBounds_toArray, List.set_cons_zero, List.set_cons_succ]
  refine wpAnyL_take 4 23 (.slice v.sa n v.sc) [] rfl rfl (by kernel_rfl) (by kernel_rfl) (by kernel_rfl) (by kernel_rfl) (by kernel_rfl) (fun _ _ _ h => h) (by rfl) (fun V hV => by obtain ⟨c0, c1, c2⟩ := ob_cells (box_below (unhide HX1) hV); go_simp) hS ?_
  simp only [Act.put, List.setIfInBounds_toArray, List.set_cons_zero, List.set_cons_succ]
  refine wpAnyL_take 6 25 (.slice (some ⟨g, 0, none⟩) m7 c7) [] rfl rfl (by kernel_rfl) (by kernel_rfl) (by kernel_rfl) (by kernel_rfl) (by kernel_rfl) (fun _ _ _ h => h) (by rfl) (fun _ _ => by go_simp) hS ?_
  simp only [Act.put, List.setIfInBounds_toArray, List.set_cons_zero, List.set_cons_succ]
  refine wpAnyL_take 7 26 (.pointer (some ⟨N, 1, none⟩)) [] rfl rfl (by kernel_rfl) (by kernel_rfl) (by kernel_rfl) (by kernel_rfl) (by kernel_rfl) (fun _ _ _ h => h) (by rfl) (fun _ _ => by go_simp) hS ?_
  simp only [Act.put, List.setIfInBounds_toArray, List.set_cons_zero, List.set_cons_succ]
  refine wpAnyL_take 8 27 (.pointer (some ⟨N, 2, none⟩)) [] rfl rfl (by kernel_rfl) (by kernel_rfl) (by kernel_rfl) (by kernel_rfl) (by kernel_rfl) (fun _ _ _ h => h) (by rfl) (fun _ _ => by go_simp) hS ?_
  simp only [Act.put, List.setIfInBounds_toArray, List.set_cons_zero, List.set_cons_succ]
  refine wpAnyL_take 9 28 (.slice v.ba m v.bc) [] rfl rfl (by kernel_rfl) (by kernel_rfl) (by kernel_rfl) (by kernel_rfl) (by kernel_rfl) (fun _ _ _ h => h) (by rfl) (fun V hV => by obtain ⟨c0, c1, c2⟩ := ob_cells (box_below (unhide HX1) hV); go_simp) hS ?_
  simp only [Act.put, List.setIfInBounds_toArray, List.set_cons_zero, List.set_cons_succ]
  refine wpAnyL_take 10 29 (.int .i64 (m : Int)) [] rfl rfl (by kernel_rfl) (by kernel_rfl) (by kernel_rfl) (by kernel_rfl) (by kernel_rfl) (fun _ _ _ h => h) (by rfl) (fun _ _ => by go_simp) hS ?_
  simp only [Act.put, List.setIfInBounds_toArray, List.set_cons_zero, List.set_cons_succ]
  refine wpAnyL_take 11 30 (.slice (some ⟨g, 0, none⟩) m c7) [] rfl rfl (by kernel_rfl) (by kernel_rfl) (by kernel_rfl) (by kernel_rfl) (by kernel_rfl) (fun _ _ _ h => h) (by rfl) (fun _ _ => by go_simp) hS ?_
  simp only [Act.put, List.setIfInBounds_toArray, List.set_cons_zero, List.set_cons_succ]
  refine wpAnyL_one (i := 5) (by kernel_rfl) rfl (by rfl) fun K hK => ?_
  refine wp_call_fn 23 _ _ (by rfl) #[.slice v.sa n v.sc] (by with_unfolding_all rfl) entDt (some 24) (by rfl) _ (unhide HDT Z0 hS) ?_
  rintro _ Z1 ⟨xd, cd, rfl, hod, hbx⟩
  have HB1 : Hid (Below W7.heap.size W7 Z1) := hS.trans (hbx.mono hS.size)
  have HOD := hide (own_down hod hS.size)
  clear hbx hod
  refine hK _ _ (fun _ => unhide HB1) ?_
  clear hK K
  simp only [Act.put, List.setIfInBounds_toArray, List.set_cons_zero, List.set_cons_succ]
  refine wpAnyL_take 12 31 (.agg #[.slice xd n cd, .slice (some ⟨g, 0, none⟩) m c7]) [] rfl rfl (by kernel_rfl) (by kernel_rfl) (by kernel_rfl) (by kernel_rfl) (by kernel_rfl) (fun _ _ _ h => h) (by rfl) (fun _ _ => by go_simp) (unhide HB1) ?_
  simp only [Act.put, List.setIfInBounds_toArray, List.set_cons_zero, List.set_cons_succ]
  refine wpAnyL_take 13 32 (obV o.key ⟨xd, cd, some ⟨g, 0, none⟩, c7⟩ n m) [] rfl rfl (by kernel_rfl) (by kernel_rfl) (by kernel_rfl) (by kernel_rfl) (by kernel_rfl) (fun _ _ _ h => h) (by rfl) (fun _ _ => by simp only [obV]; go_simp) (unhide HB1) ?_
  simp only [Act.put, List.setIfInBounds_toArray, List.set_cons_zero, List.set_cons_succ]
  refine wpAnyL_one (i := 14) (by kernel_rfl) rfl (by rfl) fun K hK => ?_
  refine wp_store_ob (.tmp 2) (.tmp 32) (by rfl) (by rfl) (N + 1) o.key ⟨xd, cd, some ⟨g, 0, none⟩, c7⟩ n m (by with_unfolding_all rfl) (by with_unfolding_all rfl) _ _ _ _ (box_below (unhide HX2) (unhide HB1)) ?_
  obtain ⟨Z2, hZ2⟩ : ∃ Z, Z = Z1.setRow (N + 1) #[.string o.key, .slice xd n cd, .slice (some ⟨g, 0, none⟩) m c7] := ⟨_, rfl⟩
  have HR2 : Hid (Z2.heap[N + 1]? = some (.cells #[.string o.key, .slice xd n cd, .slice (some ⟨g, 0, none⟩) m c7] 33 (0, 0))) := by rw [hZ2]; exact heapRow_same (box_below (unhide HX2) (unhide HB1)) _
  have HOS : Hid (OwnS Z2 N (o.st.sibs ++ [mkS]) (some ⟨g, 0, none⟩) c7) := by
    rw [hZ2]
    refine own_keep (own_down (own_below (unhide HO8) (unhide HB1)) (by omega)) fun q hq => heapRow_other _ _ _ _ ?_
    have := (World.ownsRow.lt (unhide HO8) q hq).1
    omega
  have HOD2 : Hid (OwnD Z2 N (o.st.seen ++ [mkD]) xd cd) := by
    rw [hZ2]
    refine own_keep (own_down (unhide HOD) (unhide HSZ _ (unhide HB7))) fun q hq => heapRow_other _ _ _ _ ?_
    have h1 := (World.ownsRow.lt (unhide HOD) q hq).1
    have h2 := unhide HS7
    omega
  have HBZ : Hid (Below N u Z2) := by rw [hZ2]; exact belowRow ((unhide HB7).trans ((unhide HB1).mono (unhide HSZ _ (unhide HB7)))) (by omega) _
  rw [← hZ2]
  clear hZ2
  refine hK _ _ (fun h => absurd rfl h) ?_
  clear hK K
  refine wpAnyL_done (by kernel_rfl) ?_ _
  go_wp2_with fail
  refine bodyPost_ret (results_cell rfl _ _ (N + 1) 33 #[.string o.key, .slice xd n cd, .slice (some ⟨g, 0, none⟩) m c7] (0, 0) _ rfl (unhide HR2) obUnd rfl obInfo) rfl ?_
  exact ⟨⟨xd, cd, some ⟨g, 0, none⟩, c7⟩, rfl, ⟨unhide HOD2, unhide HOS⟩, unhide HBZ⟩
end Go.Proofs.Ytkcbljmjhlnjpaa
namespace Go.Proofs.Ytkcbljmjhlnjpaa
open Go.RowKit Go.Lib
namespace D.Sha
def ka : List UInt8 := [75, 97, 128, 0, 0, 0, 0, 0, 0, 0, 0, 0, 0, 0, 0, 0, 0, 0, 0, 0, 0, 0, 0, 0, 0, 0, 0, 0, 0, 0, 0, 0, 0, 0, 0, 0, 0, 0, 0, 0, 0, 0, 0, 0, 0, 0, 0, 0, 0, 0, 0, 0, 0, 0, 0, 0, 0, 0, 0, 0, 0, 0, 0, 16]
def kaB (i : Nat) : Nat := (ka.getD i 0).toNat
theorem of_ka : (of [75, 97]).take 2 = [125, 87] := by
  have h : ([75, 97] : List UInt8) ++ fill ([75, 97] : List UInt8).length = ka := by decide +kernel
  unfold of absorb
  rw [h]
  show (told (blocks 1 start ka)).take 2 = _
  show (told (add start (rnd (fun i => ((ka.take 64).getD i 0).toNat) start 64))).take 2 = _
  rw [show ka.take 64 = ka from by decide +kernel]
  show (told (add start (rnd kaB start 64))).take 2 = _
  decide +kernel
end D.Sha
def kA : ByteArray := ⟨#[97]⟩
def oA : Ot := ⟨kA, aA⟩
theorem pl_a : plN kA = 2005 := by
  have h := D.Sha.of_ka
  have h0 : (D.Sha.of [75, 97]).getD 0 0 = 125 := by
    have := congrArg (fun l => l.getD 0 (0 : UInt8)) h
    simpa [List.getD_eq_getElem?_getD, List.getElem?_take] using this
  have h1 : (D.Sha.of [75, 97]).getD 1 0 = 87 := by
    have := congrArg (fun l => l.getD 1 (0 : UInt8)) h
    simpa [List.getD_eq_getElem?_getD, List.getElem?_take] using this
  show ((D.Sha.of [75, 97]).getD 0 0).toNat * 16 + ((D.Sha.of [75, 97]).getD 1 0).toNat / 16 = 2005
  rw [h0, h1]
  rfl
theorem st_a : stB aA = [1, 1, 1, 1, 1, 1, 0, 1, 120] := by decide +kernel
theorem ck_a : ckE oA = 0 := ck_zero.2 ⟨⟨by decide, by decide⟩, aA_ok, by show (stB aA).length ≤ 280; rw [st_a]; decide⟩
theorem ck_a0 : ckE ⟨kA, St.none⟩ = 0 := ck_zero.2 ⟨⟨by decide, by decide⟩, none_ok, by show (stB St.none).length ≤ 280; decide⟩
theorem put_a : putOV ⟨kA, St.none⟩ [] 1 ⟨#[120]⟩ false = (oA, (1, 1), 0) := by
  rw [putOV_ok (S := aA) (d := (1, 1)) (re := 0) (J := oA) (r := 0) ck_a0 putA (made_zero ck_a)]
  rfl
theorem cell_a : cellK kA = ⟨#[7, 213, 97]⟩ := by
  unfold cellK
  rw [pl_a]
  rfl
theorem pack_a : packV oA = (⟨#[7, 213, 97]⟩, ⟨#[1, 1, 1, 1, 1, 1, 0, 1, 120]⟩, 0) := by
  unfold packV
  rw [if_pos ck_a, if_neg (by decide)]
  show (cellK kA, (⟨(stB aA).toArray⟩ : ByteArray), (0 : Int)) = _
  rw [cell_a, st_a]
theorem fit_a : FitT aA := fit_small (by decide) (by decide)
theorem dec_a : decT ⟨#[1, 1, 1, 1, 1, 1, 0, 1, 120]⟩ = (aA, 0) := by
  have h := decT_enc aA_ok fit_a
  rw [st_a] at h
  exact h
theorem unp_a : unpV ⟨#[7, 213, 97]⟩ ⟨#[1, 1, 1, 1, 1, 1, 0, 1, 120]⟩ = (oA, 0) := by
  have hu : unpO ⟨#[7, 213, 97]⟩ ⟨#[1, 1, 1, 1, 1, 1, 0, 1, 120]⟩ = oA := by
    unfold unpO
    rw [dec_a]
    rfl
  unfold unpV
  rw [hu, if_pos ⟨by decide, by rw [dec_a], pack_a⟩]
theorem form_a : formV oA = (⟨#[79, 1, 97, 1, 1, 1, 1, 1, 1, 0, 1, 120]⟩, 0) := by
  unfold formV formB
  rw [if_pos ck_a, if_neg (by decide)]
  show ((⟨(79 :: (textB kA ++ stB aA)).toArray⟩ : ByteArray), (0 : Int)) = _
  rw [st_a]
  rfl
set_option maxRecDepth 100000 in
set_option maxHeartbeats 4000000 in
theorem lWorks (u : World) : Calls Try.prog 27 #[] u fun e u' => e = .returned (.bool true) ∧ Below u.heap.size u u' := by
  obtain ⟨N, hN⟩ : ∃ N, N = u.heap.size := ⟨_, rfl⟩
  have HNW : Hid (N ≤ u.heap.size) := Nat.le_of_eq hN
  rw [← hN]
  clear hN
  have HPT : Hid (∀ W : World, Calls Try.prog 25 #[.agg #[.string ⟨#[97]⟩, .slice none 0 0, .slice none 0 0], .slice none 0 0, .int .u32 1, .string ⟨#[120]⟩, .bool false] W fun y u' => ∃ x, y = .returned (.tuple #[obV ⟨#[97]⟩ x 1 1, .agg #[.int .u32 1, .int .u64 1], .int .i64 0]) ∧ Sx u' oA.st x 1 1 ∧ Below W.heap.size W u') := fun W => by
    refine (oPut (o := ⟨kA, St.none⟩) (v := Sv.none) (n := 0) (m := 0) (ctx := []) (ao := none) (nc := 0) (c := 0) (x := 1) (val := ⟨#[120]⟩) (gone := false) (Sx.none W) (da_none W) rfl (by decide) (by decide) oA (1, 1) 0 put_a).mono ?_
    rintro e u' ⟨x, k, l, h1, h2, h3, h4, h5⟩
    obtain rfl : k = 1 := h2
    obtain rfl : l = 1 := h3
    exact ⟨x, h1, ⟨h4.at fit_a aA_ok, rfl, rfl⟩, h5⟩
  have HPK : Hid (∀ (W : World) (x : Sv), Sx W oA.st x 1 1 → Calls Try.prog 28 #[obV ⟨#[97]⟩ x 1 1] W fun e u' => e = .returned (.tuple #[.agg #[.string ⟨#[7, 213, 97]⟩, .string ⟨#[1, 1, 1, 1, 1, 1, 0, 1, 120]⟩], .int .i64 0]) ∧ Below W.heap.size W u') := fun W x h => oPack (o := oA) h _ _ _ pack_a
  have HUN : Hid (∀ W : World, Calls Try.prog 19 #[.agg #[.string ⟨#[7, 213, 97]⟩, .string ⟨#[1, 1, 1, 1, 1, 1, 0, 1, 120]⟩]] W fun e u' => ∃ x, e = .returned (.tuple #[obV ⟨#[97]⟩ x 1 1, .int .i64 0]) ∧ Sx u' oA.st x 1 1 ∧ Below W.heap.size W u') := fun W => by
    refine (oUnpack _ _ (by decide) W oA 0 unp_a).mono ?_
    rintro e u' ⟨x, k, l, h1, h2, h3, h4, h5⟩
    obtain rfl : k = 1 := h2
    obtain rfl : l = 1 := h3
    exact ⟨x, h1, ⟨h4.at fit_a aA_ok, rfl, rfl⟩, h5⟩
  have HFM : Hid (∀ (W : World) (x : Sv), Sx W oA.st x 1 1 → Calls Try.prog 31 #[obV ⟨#[97]⟩ x 1 1] W fun e u' => e = .returned (.tuple #[.string ⟨#[79, 1, 97, 1, 1, 1, 1, 1, 1, 0, 1, 120]⟩, .int .i64 0]) ∧ Below W.heap.size W u') := fun W x h => oForm (o := oA) h _ _ form_a
  have HSM : Hid (∀ (W : World) (x y : Sv), Sx W oA.st x 1 1 → Sx W oA.st y 1 1 → Calls Try.prog 17 #[obV ⟨#[97]⟩ x 1 1, obV ⟨#[97]⟩ y 1 1] W fun e u' => e = .returned (.bool true) ∧ Below W.heap.size W u') := fun W x y h h' => klSame (a := oA) (b := oA) h h' true (sameO_iff.2 rfl)
  have hdt : ∀ W : World, (binOp .eql 53 (.agg #[.int .u32 1, .int .u64 1]) (.agg #[.int .u32 1, .int .u64 1])).run Try.prog W = .ok (.bool true) W := fun W => by rw [eqlD]; rfl
  have hce : ∀ W : World, (binOp .eql 40 (.agg #[.string ⟨#[7, 213, 97]⟩, .string ⟨#[1, 1, 1, 1, 1, 1, 0, 1, 120]⟩]) (.agg #[.string ⟨#[7, 213, 97]⟩, .string ⟨#[1, 1, 1, 1, 1, 1, 0, 1, 120]⟩])).run Try.prog W = .ok (.bool true) W := fun W => by rw [eqlCl]; simp
  go_enter Try.func27, Try.ntmps27
  go_wp2_with (first
    | (go_at_call 25; refine (unhide HPT u).mono ?_; rintro e W1 ⟨x1, rfl, hs, hb⟩; have HS1 := hide hs; have HBU : Hid (Below N u W1) := hb.mono (unhide HNW); replace HNW : Hid (N ≤ W1.heap.size) := Nat.le_trans (unhide HNW) hb.size; clear hs hb; simp only [obV]; obtain ⟨K1, hK1⟩ : ∃ K1, K1 = W1.heap.size := ⟨_, rfl⟩; have HK1 := hide hK1; clear hK1)
    | ((with_reducible refine wpList_alloc_ob (by rfl) (by rfl) (some 1) (by rfl) K1 (unhide HK1) ?_); intro W2 HX2 HB2 HZ2; simp only [Act.put, List.setIfInBounds_toArray, List.set_cons_zero, List.set_cons_succ])
    | ((with_reducible refine wpList_alloc_dot (by rfl) (by rfl) (some 2) (by rfl) (K1 + 1) (unhide HZ2).symm ?_); intro W3 HX3 HB3 HZ3; simp only [Act.put, List.setIfInBounds_toArray, List.set_cons_zero, List.set_cons_succ]; replace HX2 := hide (((unhide HB3).block K1 (Nat.lt_succ_self _)).trans (unhide HX2)); replace HB2 : Hid (Below K1 W1 W3) := (unhide HB2).trans ((unhide HB3).mono (Nat.le_succ _)); clear HB3)
    | ((with_reducible refine wpList_store_ob (by rfl) (.tmp 1) (.tmp 13) (by rfl) K1 ⟨#[97]⟩ x1 1 1 (by with_unfolding_all rfl) (by with_unfolding_all rfl) _ _ _ _ (unhide HX2) ?_); intro W4 HX4 HE4; simp only [Act.put]; replace HX3 : Hid (W4.heap[K1 + 1]? = _) := (by rw [unhide HE4]; exact (heapRow_other _ _ _ _ (by omega)).trans (unhide HX3)); replace HB2 : Hid (Below K1 W1 W4) := (by rw [unhide HE4]; exact belowRow (unhide HB2) (Nat.le_refl _) _); clear HE4 HX2)
    | ((with_reducible refine wpList_store_dot (by rfl) (.tmp 2) (.tmp 14) (by rfl) (K1 + 1) 1 1 (by with_unfolding_all rfl) (by with_unfolding_all rfl) (unhide HX3) ?_); intro W5 HX5 HE5; simp only [Act.put]; replace HX4 : Hid (W5.heap[K1]? = some (obRow ⟨#[97]⟩ x1 1 1)) := (by rw [unhide HE5]; exact (heapRow_other _ _ _ _ (by omega)).trans (unhide HX4)); replace HB2 : Hid (Below K1 W1 W5) := (by rw [unhide HE5]; exact belowRow (unhide HB2) (by omega) _); have hb : Below W1.heap.size W1 W5 := (by rw [← unhide HK1]; exact unhide HB2); have HLO : Hid (Lo W5 K1 oA x1 1 1) := ⟨(unhide HS1).below hb, unhide HX4⟩; replace HBU : Hid (Below N u W5) := (unhide HBU).trans (hb.mono (unhide HNW)); replace HNW : Hid (N ≤ W5.heap.size) := Nat.le_trans (unhide HNW) hb.size; clear hb HX3 HE5 HB2 HZ2 HZ3 HX4 HS1 HK1; obtain ⟨c0, c1, c2⟩ := (unhide HLO).cells; replace c0 : W5.cell? ⟨K1, 0, none⟩ = some (.string ⟨#[97]⟩) := c0)
    | (go_at_call 28; refine (unhide HPK W5 x1 (unhide HLO).toSx).mono ?_; rintro e W6 ⟨rfl, hb⟩; clear c0 c1 c2; replace HLO := hide ((unhide HLO).below hb); replace HX5 := hide (box_below (unhide HX5) hb); replace HBU : Hid (Below N u W6) := (unhide HBU).trans (hb.mono (unhide HNW)); replace HNW : Hid (N ≤ W6.heap.size) := Nat.le_trans (unhide HNW) hb.size; clear hb; obtain ⟨K2, hK2⟩ : ∃ K2, K2 = W6.heap.size := ⟨_, rfl⟩; have HK2 := hide hK2; clear hK2)
    | ((with_reducible refine wpList_alloc_ce (by rfl) (by rfl) (some 4) (by rfl) K2 (unhide HK2) ?_); intro W7 HX7 HB7 HZ7; simp only [Act.put, List.setIfInBounds_toArray, List.set_cons_zero, List.set_cons_succ])
    | ((with_reducible refine wpList_store_ce (by rfl) (.tmp 4) (.tmp 19) (by rfl) K2 ⟨#[7, 213, 97]⟩ ⟨#[1, 1, 1, 1, 1, 1, 0, 1, 120]⟩ (by with_unfolding_all rfl) (by with_unfolding_all rfl) _ _ (unhide HX7) ?_); intro W8 HX8 HE8; simp only [Act.put]; have hb : Below W6.heap.size W6 W8 := (by rw [unhide HE8, ← unhide HK2]; exact belowRow (unhide HB7) (Nat.le_refl _) _); replace HLO := hide ((unhide HLO).below hb); replace HX5 := hide (box_below (unhide HX5) hb); replace HBU : Hid (Below N u W8) := (unhide HBU).trans (hb.mono (unhide HNW)); replace HNW : Hid (N ≤ W8.heap.size) := Nat.le_trans (unhide HNW) hb.size; clear hb HX7 HB7 HZ7 HE8 HK2; obtain ⟨d0, d1⟩ := ce_cells (unhide HX8))
    | (go_at_call 19; refine (unhide HUN W8).mono ?_; rintro e W9 ⟨x2, rfl, hs, hb⟩; clear d0 d1; have HS2 := hide hs; replace HLO := hide ((unhide HLO).below hb); replace HX5 := hide (box_below (unhide HX5) hb); replace HX8 := hide (box_below (unhide HX8) hb); replace HBU : Hid (Below N u W9) := (unhide HBU).trans (hb.mono (unhide HNW)); replace HNW : Hid (N ≤ W9.heap.size) := Nat.le_trans (unhide HNW) hb.size; clear hs hb; simp only [obV]; obtain ⟨K3, hK3⟩ : ∃ K3, K3 = W9.heap.size := ⟨_, rfl⟩; have HK3 := hide hK3; clear hK3)
    | ((with_reducible refine wpList_alloc_ob (by rfl) (by rfl) (some 6) (by rfl) K3 (unhide HK3) ?_); intro Y1 HY1 HA1 HZ1; simp only [Act.put, List.setIfInBounds_toArray, List.set_cons_zero, List.set_cons_succ])
    | ((with_reducible refine wpList_store_ob (by rfl) (.tmp 6) (.tmp 24) (by rfl) K3 ⟨#[97]⟩ x2 1 1 (by with_unfolding_all rfl) (by with_unfolding_all rfl) _ _ _ _ (unhide HY1) ?_); intro Y2 HY2 HE2; simp only [Act.put]; have hb : Below W9.heap.size W9 Y2 := (by rw [unhide HE2, ← unhide HK3]; exact belowRow (unhide HA1) (Nat.le_refl _) _); replace HLO := hide ((unhide HLO).below hb); have HLP : Hid (Lo Y2 K3 oA x2 1 1) := ⟨(unhide HS2).below hb, unhide HY2⟩; replace HX5 := hide (box_below (unhide HX5) hb); replace HX8 := hide (box_below (unhide HX8) hb); replace HBU : Hid (Below N u Y2) := (unhide HBU).trans (hb.mono (unhide HNW)); replace HNW : Hid (N ≤ Y2.heap.size) := Nat.le_trans (unhide HNW) hb.size; clear hb HY1 HA1 HZ1 HY2 HE2 HK3 HS2; obtain ⟨c0, c1, c2⟩ := (unhide HLO).cells; replace c0 : Y2.cell? ⟨K1, 0, none⟩ = some (.string ⟨#[97]⟩) := c0)
    | (go_at_call 31; refine (unhide HFM Y2 x1 (unhide HLO).toSx).mono ?_; rintro e Y3 ⟨rfl, hb⟩; clear c0 c1 c2; replace HLO := hide ((unhide HLO).below hb); replace HLP := hide ((unhide HLP).below hb); replace HX5 := hide (box_below (unhide HX5) hb); replace HX8 := hide (box_below (unhide HX8) hb); replace HBU : Hid (Below N u Y3) := (unhide HBU).trans (hb.mono (unhide HNW)); replace HNW : Hid (N ≤ Y3.heap.size) := Nat.le_trans (unhide HNW) hb.size; clear hb; obtain ⟨c0, c1, c2⟩ := (unhide HLO).cells; replace c0 : Y3.cell? ⟨K1, 0, none⟩ = some (.string ⟨#[97]⟩) := c0; obtain ⟨p0, p1, p2⟩ := (unhide HLP).cells; replace p0 : Y3.cell? ⟨K3, 0, none⟩ = some (.string ⟨#[97]⟩) := p0; obtain ⟨e0, e1⟩ := box2 (unhide HX5); obtain ⟨d0, d1⟩ := ce_cells (unhide HX8))
    | (go_at_call 17; refine (unhide HSM Y3 x1 x2 (unhide HLO).toSx (unhide HLP).toSx).mono ?_; rintro e Y4 ⟨rfl, hb⟩; clear c0 c1 c2 p0 p1 p2 e0 e1 d0 d1; obtain ⟨d0, d1⟩ := ce_cells (box_below (unhide HX8) hb); replace HBU : Hid (Below N u Y4) := (unhide HBU).trans (hb.mono (unhide HNW)); clear hb)
    | fail)
  rw [show (([79, 1, 97, 1, 1, 1, 1, 1, 1, 0, 1, 120] : List UInt8) == ((⟨#[79, 1, 97]⟩ : ByteArray) ++ ⟨#[1, 1, 1, 1, 1, 1, 0, 1, 120]⟩).toList) = true from by decide +kernel]
  go_ret
  exact ⟨rfl, unhide HBU⟩
end Go.Proofs.Ytkcbljmjhlnjpaa
namespace Go.Proofs.Ytkcbljmjhlnjpaa
open Go.RowKit

theorem own : ownKnob Try.prog.godebug = none := by kernel_rfl
theorem laidOut : laidOutB Try.prog = true := by kernel_rfl
/-- a world for a witness -/
noncomputable def laidWorld (os : Os) : World := World.holding Try.prog os ⟨#[], #[], []⟩
theorem bulk_str {H : Type} {l : List UInt8} {rest : List (DataW H)} (hk : Rows.uptoSmall H (.lit (.string l) :: rest) = true) : l.length ≤ 1048576 := by
  have h : Rows.uptoBulkAll (DataW.lit (.string l) :: rest) ≤ 1048576 := of_decide_eq_true hk
  simp only [Rows.uptoBulkAll, Rows.uptoBulk] at h
  omega
end Go.Proofs.Ytkcbljmjhlnjpaa
