/- States: the walk of DvvLattice. -/
import Derived.Test.YtbahfpcfjhifbaaYr
import Derived.Deep.DeepCutAuto
namespace Go.Proofs.Ytbahfpcfjhifbaa
open Go.RowKit Go.Lib
theorem entBl : ∀ args (w : World), (callFunc 19 args).run Try.prog w = .ok (.enter 19 args) w := by
  intro args w
  go_simp
theorem entSm : ∀ args (w : World), (callFunc 17 args).run Try.prog w = .ok (.enter 17 args) w := by
  intro args w
  go_simp
theorem entVl : ∀ args (w : World), (callFunc 15 args).run Try.prog w = .ok (.enter 15 args) w := by
  intro args w
  go_simp

/-- a state that lies there, with its lengths -/
structure Sx (W : World) (s : St) (v : Sv) (n m : Nat) : Prop where
  sat : SAt W s v
  en : n = s.seen.length
  em : m = s.sibs.length
theorem Sx.below {W W' : World} {s : St} {v : Sv} {n m : Nat} (h : Sx W s v n m) (hb : Below W.heap.size W W') : Sx W' s v n m := ⟨h.sat.below hb, h.en, h.em⟩
theorem Sx.none (W : World) : Sx W St.none Sv.none 0 0 := ⟨SAt.none W, rfl, rfl⟩
/-- .. in a variable -/
structure Lv (W : World) (b : Nat) (s : St) (v : Sv) (n m : Nat) : Prop extends Sx W s v n m where
  box : W.heap[b]? = some (stRow v n m)
theorem Lv.below {W W' : World} {b : Nat} {s : St} {v : Sv} {n m : Nat} (h : Lv W b s v n m) (hb : Below W.heap.size W W') : Lv W' b s v n m := ⟨h.toSx.below hb, box_below h.box hb⟩
theorem Lv.cells {W : World} {b : Nat} {s : St} {v : Sv} {n m : Nat} (h : Lv W b s v n m) : W.cell? ⟨b, 0, none⟩ = some (.slice v.sa n v.sc) ∧ W.cell? ⟨b, 1, none⟩ = some (.slice v.ba m v.bc) := st_cells h.box
section
variable {W0 : World} {a b : St} {v w : Sv} {n m n' m' : Nat}
theorem kvBelow (r : Bool) (hr : sbelB a b = r) (h1 : Sx W0 a v n m) (h2 : Sx W0 b w n' m') (W : World) (hW : Below W0.heap.size W0 W) : Calls Try.prog 19 #[v.v n m, w.v n' m'] W fun e W' => e = .returned (.bool r) ∧ Below W0.heap.size W0 W' := by
  subst hr
  rw [h1.en, h1.em, h2.en, h2.em]
  exact (dBelow a b v w W (h1.sat.below hW) (h2.sat.below hW)).mono fun e W' h => ⟨h.1, hW.trans (h.2.mono hW.size)⟩
theorem kvSame (r : Bool) (hr : sameB a b = r) (h1 : Sx W0 a v n m) (h2 : Sx W0 b w n' m') (W : World) (hW : Below W0.heap.size W0 W) : Calls Try.prog 17 #[v.v n m, w.v n' m'] W fun e W' => e = .returned (.bool r) ∧ Below W0.heap.size W0 W' := by
  subst hr
  rw [h1.en, h1.em, h2.en, h2.em]
  exact (dSame a b v w W (h1.sat.below hW) (h2.sat.below hW)).mono fun e W' h => ⟨h.1, hW.trans (h.2.mono hW.size)⟩
theorem kvValid (r : Bool) (hr : sokB a = r) (h1 : Sx W0 a v n m) (W : World) (hW : Below W0.heap.size W0 W) : Calls Try.prog 15 #[v.v n m] W fun e W' => e = .returned (.bool r) ∧ Below W0.heap.size W0 W' := by
  subst hr
  rw [h1.en, h1.em]
  exact (dValid' a v W (h1.sat.below hW)).mono fun e W' h => ⟨h.1, hW.trans (h.2.mono hW.size)⟩
theorem kvRValid (r : Bool) (hr : sokB a = r) (h1 : Sx W0 a v n m) (W : World) (hW : Below W0.heap.size W0 W) : Calls Try.prog 16 #[v.v n m] W fun e W' => e = .returned (.bool r) ∧ Below W0.heap.size W0 W' := by
  subst hr
  rw [h1.en, h1.em]
  exact (rValidT a v W (h1.sat.below hW)).mono fun e W' h => ⟨h.1, hW.trans (h.2.mono hW.size)⟩
theorem kvJoin (J : St) (r : Int) (hJ : joinV a b = (J, r)) (h1 : Sx W0 a v n m) (h2 : Sx W0 b w n' m') : Calls Try.prog 26 #[v.v n m, w.v n' m'] W0 fun e W' => ∃ x k l, e = .returned (.tuple #[Sv.v x k l, .int .i64 r]) ∧ Sx W' J x k l ∧ Below W0.heap.size W0 W' := by
  rw [h1.en, h1.em, h2.en, h2.em]
  refine (dJoin a b v w W0 h1.sat h2.sat J r hJ).mono ?_
  rintro e W' ⟨x, k, l, h3, h4, h5, h6, h7⟩
  refine ⟨x, k, l, h3, ⟨h6.at ?_ ?_, h4, h5⟩, h7⟩
  · have hJ1 : J = (joinV a b).1 := by rw [hJ]
    rw [hJ1]
    by_cases hab : SOk a ∧ SOk b
    · by_cases hl : (V.mrg a.seen b.seen).length ≤ 64 ∧ (jnS a b).sibs.length ≤ 64
      · rw [join_ok hab.1 hab.2 hl.1 hl.2]; exact fit_jn h1.sat.fit h2.sat.fit
      · rw [join_big hab.1 hab.2 hl]; exact fit_none
    · rw [join_not hab]; exact fit_none
  · have hJ1 : J = (joinV a b).1 := by rw [hJ]
    rw [hJ1]
    by_cases hab : SOk a ∧ SOk b
    · by_cases hl : (V.mrg a.seen b.seen).length ≤ 64 ∧ (jnS a b).sibs.length ≤ 64
      · rw [join_ok hab.1 hab.2 hl.1 hl.2]; exact jnS_ok hab.1 hab.2 hl.1 hl.2
      · rw [join_big hab.1 hab.2 hl]; exact none_ok
    · rw [join_not hab]; exact none_ok
end
theorem join_cases {a b : St} (ha : SOk a) (hb : SOk b) : (joinV a b = (jnS a b, 0) ∧ SOk (jnS a b)) ∨ joinV a b = (St.none, 82) := by
  by_cases hl : (V.mrg a.seen b.seen).length ≤ 64 ∧ (jnS a b).sibs.length ≤ 64
  · exact .inl ⟨join_ok ha hb hl.1 hl.2, jnS_ok ha hb hl.1 hl.2⟩
  · exact .inr (join_big ha hb hl)
theorem join_self {a : St} (ha : SOk a) : joinV a a = (a, 0) := by
  have e := jnS_self ha.toSV
  rw [join_ok ha ha (by have := ha.slen; rw [← e] at this; exact this) (by rw [e]; exact ha.len), e]
theorem join_none {a : St} (ha : SOk a) : joinV a St.none = (a, 0) := by
  have e := jnS_none ha.toSV
  rw [join_ok ha none_ok (by have := ha.slen; rw [← e] at this; exact this) (by rw [e]; exact ha.len), e]
theorem join_comm {a b : St} (ha : SOk a) (hb : SOk b) : joinV b a = joinV a b := by
  by_cases hl : (V.mrg a.seen b.seen).length ≤ 64 ∧ (jnS a b).sibs.length ≤ 64
  · rw [join_ok ha hb hl.1 hl.2, join_ok hb ha (by rw [V.mrg_comm hb.vec ha.vec]; exact hl.1) (by rw [jnS_comm hb.toSV ha.toSV]; exact hl.2), jnS_comm hb.toSV ha.toSV]
  · rw [join_big ha hb hl, join_big hb ha (by rw [V.mrg_comm hb.vec ha.vec, jnS_comm hb.toSV ha.toSV]; exact hl)]
set_option maxRecDepth 100000 in
set_option maxHeartbeats 32000000 in
theorem lattice11_walk (a b c : St) (va vb vc : Sv) (u : World) (ha : SAt u a va) (hb : SAt u b vb) (hc : SAt u c vc) : Calls Try.prog 8 #[va.v a.seen.length a.sibs.length, vb.v b.seen.length b.sibs.length, vc.v c.seen.length c.sibs.length] u fun e u' => e = .returned (.bool true) ∧ Below u.heap.size u u' := by
  have hmix : Try.prog.follows .mixedOrders = true := by kernel_rfl
  obtain ⟨N, hN⟩ : ∃ N, N = u.heap.size := ⟨_, rfl⟩
  have HN := hide hN
  obtain ⟨na, hna⟩ : ∃ n, n = a.seen.length := ⟨_, rfl⟩
  obtain ⟨ma, hma⟩ : ∃ n, n = a.sibs.length := ⟨_, rfl⟩
  obtain ⟨nb, hnb⟩ : ∃ n, n = b.seen.length := ⟨_, rfl⟩
  obtain ⟨mb, hmb⟩ : ∃ n, n = b.sibs.length := ⟨_, rfl⟩
  obtain ⟨nc, hnc⟩ : ∃ n, n = c.seen.length := ⟨_, rfl⟩
  obtain ⟨mc, hmc⟩ : ∃ n, n = c.sibs.length := ⟨_, rfl⟩
  have HSA : Hid (Sx u a va na ma) := ⟨ha, hna, hma⟩
  have HSB : Hid (Sx u b vb nb mb) := ⟨hb, hnb, hmb⟩
  have HSC : Hid (Sx u c vc nc mc) := ⟨hc, hnc, hmc⟩
  rw [← hna, ← hma, ← hnb, ← hmb, ← hnc, ← hmc, ← hN]
  clear hN hna hma hnb hmb hnc hmc ha hb hc
  have HU : Hid (∀ W : World, Below N u W → Below u.heap.size u W) := fun W hW => by rw [← unhide HN]; exact hW
  by_cases oa : SOk a
  · by_cases ob : SOk b
    · by_cases oc : SOk c
      · have HOA := hide oa
        have HOB := hide ob
        have HOC := hide oc
        clear oa ob oc
        have HVA := hide (sokB_true.2 (unhide HOA))
        have HVB := hide (sokB_true.2 (unhide HOB))
        have HVC := hide (sokB_true.2 (unhide HOC))
        have HJ1 := hide (join_self (unhide HOA))
        have HJ2 := hide (join_none (unhide HOA))
        have HBA : Hid (sbelB a a = true) := sbelB_iff.2 ⟨unhide HOA, unhide HOA, fun _ => Say.le_refl _⟩
        have HBN : Hid (sbelB St.none a = true) := sbelB_iff.2 ⟨none_ok, unhide HOA, fun d => by rw [says_none]; trivial⟩
        have HSS : Hid (sameB a a = true) := sameB_iff.2 rfl
        go_enter Try.func8, Try.ntmps8
        go_upto_region 8 with (first
          | ((with_reducible refine wpList_box_state (by rfl) (.tmp 0) (by rfl) (some 3) (by rfl) N (unhide HN) va na ma (by with_unfolding_all rfl) ?_); intro W1 HX1 HB1 HS1; simp only [Act.put, List.setIfInBounds_toArray, List.set_cons_zero, List.set_cons_succ])
          | ((with_reducible refine wpList_box_state (by rfl) (.tmp 1) (by rfl) (some 4) (by rfl) (N + 1) (unhide HS1).symm vb nb mb (by with_unfolding_all rfl) ?_); intro W2 HX2 HB2 HS2; simp only [Act.put, List.setIfInBounds_toArray, List.set_cons_zero, List.set_cons_succ])
          | ((with_reducible refine wpList_box_state (by rfl) (.tmp 2) (by rfl) (some 5) (by rfl) (N + 1 + 1) (unhide HS2).symm vc nc mc (by with_unfolding_all rfl) ?_); intro W3 HX3 HB3 HS3; simp only [Act.put, List.setIfInBounds_toArray, List.set_cons_zero, List.set_cons_succ]; have HBU : Hid (Below N u W3) := (unhide HB1).trans (((unhide HB2).mono (Nat.le_succ _)).trans ((unhide HB3).mono (by omega))); have HLA : Hid (Lv W3 N a va na ma) := ⟨(unhide HSA).below (unhide HU _ (unhide HBU)), ((unhide HB3).block N (by omega)).trans (((unhide HB2).block N (Nat.lt_succ_self _)).trans (unhide HX1))⟩; have HLB : Hid (Lv W3 (N + 1) b vb nb mb) := ⟨(unhide HSB).below (unhide HU _ (unhide HBU)), ((unhide HB3).block (N + 1) (Nat.lt_succ_self _)).trans (unhide HX2)⟩; have HLC : Hid (Lv W3 (N + 1 + 1) c vc nc mc) := ⟨(unhide HSC).below (unhide HU _ (unhide HBU)), unhide HX3⟩; have HNW : Hid (N ≤ W3.heap.size) := (by rw [unhide HS3]; show N ≤ N + 1 + 1 + 1; omega); clear HX1 HX2 HX3 HB1 HB2 HB3 HS1 HS2 HS3)
          | (go_at_call 34; refine (lAwake W3).mono ?_; rintro e W4 ⟨rfl, hbx⟩; replace HLA := hide ((unhide HLA).below hbx); replace HLB := hide ((unhide HLB).below hbx); replace HLC := hide ((unhide HLC).below hbx); replace HBU : Hid (Below N u W4) := (unhide HBU).trans (hbx.mono (unhide HNW)); replace HNW : Hid (N ≤ W4.heap.size) := Nat.le_trans (unhide HNW) hbx.size; clear hbx; obtain ⟨c0A, c1A⟩ := (unhide HLA).cells; obtain ⟨c0B, c1B⟩ := (unhide HLB).cells; obtain ⟨c0C, c1C⟩ := (unhide HLC).cells; )
          | (go_at_call 16; refine (kvRValid true (unhide HVA) (unhide HLA).toSx W4 (Below.refl _ _)).mono ?_; rintro e W5 ⟨rfl, hbx⟩; clear c0A c1A c0B c1B c0C c1C; replace HLA := hide ((unhide HLA).below hbx); replace HLB := hide ((unhide HLB).below hbx); replace HLC := hide ((unhide HLC).below hbx); replace HBU : Hid (Below N u W5) := (unhide HBU).trans (hbx.mono (unhide HNW)); replace HNW : Hid (N ≤ W5.heap.size) := Nat.le_trans (unhide HNW) hbx.size; clear hbx HVA; obtain ⟨c0A, c1A⟩ := (unhide HLA).cells; obtain ⟨c0B, c1B⟩ := (unhide HLB).cells; obtain ⟨c0C, c1C⟩ := (unhide HLC).cells; )
          | (go_at_call 16; refine (kvRValid true (unhide HVB) (unhide HLB).toSx W5 (Below.refl _ _)).mono ?_; rintro e W6 ⟨rfl, hbx⟩; clear c0A c1A c0B c1B c0C c1C; replace HLA := hide ((unhide HLA).below hbx); replace HLB := hide ((unhide HLB).below hbx); replace HLC := hide ((unhide HLC).below hbx); replace HBU : Hid (Below N u W6) := (unhide HBU).trans (hbx.mono (unhide HNW)); replace HNW : Hid (N ≤ W6.heap.size) := Nat.le_trans (unhide HNW) hbx.size; clear hbx HVB; obtain ⟨c0A, c1A⟩ := (unhide HLA).cells; obtain ⟨c0B, c1B⟩ := (unhide HLB).cells; obtain ⟨c0C, c1C⟩ := (unhide HLC).cells; )
          | (go_at_call 16; refine (kvRValid true (unhide HVC) (unhide HLC).toSx W6 (Below.refl _ _)).mono ?_; rintro e W7 ⟨rfl, hbx⟩; clear c0A c1A c0B c1B c0C c1C; replace HLA := hide ((unhide HLA).below hbx); replace HLB := hide ((unhide HLB).below hbx); replace HLC := hide ((unhide HLC).below hbx); replace HBU : Hid (Below N u W7) := (unhide HBU).trans (hbx.mono (unhide HNW)); replace HNW : Hid (N ≤ W7.heap.size) := Nat.le_trans (unhide HNW) hbx.size; clear hbx; obtain ⟨c0A, c1A⟩ := (unhide HLA).cells; obtain ⟨c0B, c1B⟩ := (unhide HLB).cells; obtain ⟨c0C, c1C⟩ := (unhide HLC).cells; )
          | fail)
        go_upto_region 9 with (first
          | (go_at_call 26; refine (kvJoin _ _ (unhide HJ1) (unhide HLA).toSx (unhide HLA).toSx).mono ?_; rintro e X1 ⟨vX, nX, mX, rfl, hsx, hbx⟩; clear c0A c1A c0B c1B c0C c1C; replace HLA := hide ((unhide HLA).below hbx); replace HLB := hide ((unhide HLB).below hbx); replace HLC := hide ((unhide HLC).below hbx); replace HBU : Hid (Below N u X1) := (unhide HBU).trans (hbx.mono (unhide HNW)); replace HNW : Hid (N ≤ X1.heap.size) := Nat.le_trans (unhide HNW) hbx.size; have HSJ := hide hsx; clear hsx hbx; obtain ⟨KX, hK⟩ : ∃ k, k = X1.heap.size := ⟨_, rfl⟩; have HK := hide hK; clear hK)
          | ((with_reducible refine wpList_alloc_state (by rfl) (by rfl) (some 9) (by rfl) KX (unhide HK) ?_); intro X2 HX2 HB2 HS2; simp only [Act.put, List.setIfInBounds_toArray, List.set_cons_zero, List.set_cons_succ])
          | ((with_reducible refine wpList_store_state (by rfl) (.tmp 9) (.tmp 47) (by rfl) KX vX nX mX (by with_unfolding_all rfl) (by with_unfolding_all rfl) Sv.none 0 0 (unhide HX2) ?_); intro X3 HX3 HE3; simp only [Act.put]; have hbx : Below X1.heap.size X1 X3 := (by rw [unhide HE3, ← unhide HK]; exact belowRow (unhide HB2) (Nat.le_refl _) _); replace HLA := hide ((unhide HLA).below hbx); replace HLB := hide ((unhide HLB).below hbx); replace HLC := hide ((unhide HLC).below hbx); replace HBU : Hid (Below N u X3) := (unhide HBU).trans (hbx.mono (unhide HNW)); replace HNW : Hid (N ≤ X3.heap.size) := Nat.le_trans (unhide HNW) hbx.size; have HLX : Hid (Lv X3 KX a vX nX mX) := ⟨(unhide HSJ).below hbx, unhide HX3⟩; clear hbx HSJ HX2 HB2 HS2 HX3 HE3 HK; obtain ⟨c0A, c1A⟩ := (unhide HLA).cells; obtain ⟨c0B, c1B⟩ := (unhide HLB).cells; obtain ⟨c0C, c1C⟩ := (unhide HLC).cells; obtain ⟨c0X, c1X⟩ := (unhide HLX).cells; )
          | fail)
        go_upto_region 10 with (first
          | (go_at_call 26; refine (kvJoin _ _ (unhide HJ2) (unhide HLA).toSx (Sx.none _)).mono ?_; rintro e Y1 ⟨vY, nY, mY, rfl, hsx, hbx⟩; clear c0A c1A c0B c1B c0C c1C c0X c1X; replace HLA := hide ((unhide HLA).below hbx); replace HLB := hide ((unhide HLB).below hbx); replace HLC := hide ((unhide HLC).below hbx); replace HLX := hide ((unhide HLX).below hbx); replace HBU : Hid (Below N u Y1) := (unhide HBU).trans (hbx.mono (unhide HNW)); replace HNW : Hid (N ≤ Y1.heap.size) := Nat.le_trans (unhide HNW) hbx.size; have HSJ := hide hsx; clear hsx hbx; obtain ⟨KY, hK⟩ : ∃ k, k = Y1.heap.size := ⟨_, rfl⟩; have HK := hide hK; clear hK)
          | ((with_reducible refine wpList_alloc_state (by rfl) (by rfl) (some 11) (by rfl) KY (unhide HK) ?_); intro Y2 HX2 HB2 HS2; simp only [Act.put, List.setIfInBounds_toArray, List.set_cons_zero, List.set_cons_succ])
          | ((with_reducible refine wpList_store_state (by rfl) (.tmp 11) (.tmp 53) (by rfl) KY vY nY mY (by with_unfolding_all rfl) (by with_unfolding_all rfl) Sv.none 0 0 (unhide HX2) ?_); intro Y3 HX3 HE3; simp only [Act.put]; have hbx : Below Y1.heap.size Y1 Y3 := (by rw [unhide HE3, ← unhide HK]; exact belowRow (unhide HB2) (Nat.le_refl _) _); replace HLA := hide ((unhide HLA).below hbx); replace HLB := hide ((unhide HLB).below hbx); replace HLC := hide ((unhide HLC).below hbx); replace HLX := hide ((unhide HLX).below hbx); replace HBU : Hid (Below N u Y3) := (unhide HBU).trans (hbx.mono (unhide HNW)); replace HNW : Hid (N ≤ Y3.heap.size) := Nat.le_trans (unhide HNW) hbx.size; have HLY : Hid (Lv Y3 KY a vY nY mY) := ⟨(unhide HSJ).below hbx, unhide HX3⟩; clear hbx HSJ HX2 HB2 HS2 HX3 HE3 HK; obtain ⟨c0A, c1A⟩ := (unhide HLA).cells; obtain ⟨c0B, c1B⟩ := (unhide HLB).cells; obtain ⟨c0C, c1C⟩ := (unhide HLC).cells; obtain ⟨c0X, c1X⟩ := (unhide HLX).cells; obtain ⟨c0Y, c1Y⟩ := (unhide HLY).cells; )
          | fail)
        have HSX1 : Hid True := trivial
        go_upto_region 12 with (first
          | (go_at_call 17; have _t := HSX1; refine (kvSame true (unhide HSS) (unhide HLX).toSx (unhide HLA).toSx Y3 (Below.refl _ _)).mono ?_; rintro e Z1 ⟨rfl, hbx⟩; clear HSX1 _t; clear c0A c1A c0B c1B c0C c1C c0X c1X c0Y c1Y; replace HLA := hide ((unhide HLA).below hbx); replace HLB := hide ((unhide HLB).below hbx); replace HLC := hide ((unhide HLC).below hbx); replace HLX := hide ((unhide HLX).below hbx); replace HLY := hide ((unhide HLY).below hbx); replace HBU : Hid (Below N u Z1) := (unhide HBU).trans (hbx.mono (unhide HNW)); replace HNW : Hid (N ≤ Z1.heap.size) := Nat.le_trans (unhide HNW) hbx.size; clear hbx; obtain ⟨c0A, c1A⟩ := (unhide HLA).cells; obtain ⟨c0B, c1B⟩ := (unhide HLB).cells; obtain ⟨c0C, c1C⟩ := (unhide HLC).cells; obtain ⟨c0X, c1X⟩ := (unhide HLX).cells; obtain ⟨c0Y, c1Y⟩ := (unhide HLY).cells; )
          | (go_at_call 17; refine (kvSame true (unhide HSS) (unhide HLY).toSx (unhide HLA).toSx Z1 (Below.refl _ _)).mono ?_; rintro e Z2 ⟨rfl, hbx⟩; clear c0A c1A c0B c1B c0C c1C c0X c1X c0Y c1Y; replace HLA := hide ((unhide HLA).below hbx); replace HLB := hide ((unhide HLB).below hbx); replace HLC := hide ((unhide HLC).below hbx); replace HLX := hide ((unhide HLX).below hbx); replace HLY := hide ((unhide HLY).below hbx); replace HBU : Hid (Below N u Z2) := (unhide HBU).trans (hbx.mono (unhide HNW)); replace HNW : Hid (N ≤ Z2.heap.size) := Nat.le_trans (unhide HNW) hbx.size; clear hbx; obtain ⟨c0A, c1A⟩ := (unhide HLA).cells; obtain ⟨c0B, c1B⟩ := (unhide HLB).cells; obtain ⟨c0C, c1C⟩ := (unhide HLC).cells; obtain ⟨c0X, c1X⟩ := (unhide HLX).cells; obtain ⟨c0Y, c1Y⟩ := (unhide HLY).cells; )
          | (go_at_call 19; refine (kvBelow true (unhide HBA) (unhide HLA).toSx (unhide HLA).toSx Z2 (Below.refl _ _)).mono ?_; rintro e Z3 ⟨rfl, hbx⟩; clear c0A c1A c0B c1B c0C c1C c0X c1X c0Y c1Y; replace HLA := hide ((unhide HLA).below hbx); replace HLB := hide ((unhide HLB).below hbx); replace HLC := hide ((unhide HLC).below hbx); replace HLX := hide ((unhide HLX).below hbx); replace HLY := hide ((unhide HLY).below hbx); replace HBU : Hid (Below N u Z3) := (unhide HBU).trans (hbx.mono (unhide HNW)); replace HNW : Hid (N ≤ Z3.heap.size) := Nat.le_trans (unhide HNW) hbx.size; clear hbx HBA; obtain ⟨c0A, c1A⟩ := (unhide HLA).cells; obtain ⟨c0B, c1B⟩ := (unhide HLB).cells; obtain ⟨c0C, c1C⟩ := (unhide HLC).cells; obtain ⟨c0X, c1X⟩ := (unhide HLX).cells; obtain ⟨c0Y, c1Y⟩ := (unhide HLY).cells; )
          | (go_at_call 19; refine (kvBelow true (unhide HBN) (Sx.none _) (unhide HLA).toSx Z3 (Below.refl _ _)).mono ?_; rintro e Z4 ⟨rfl, hbx⟩; clear c0A c1A c0B c1B c0C c1C c0X c1X c0Y c1Y; replace HLA := hide ((unhide HLA).below hbx); replace HLB := hide ((unhide HLB).below hbx); replace HLC := hide ((unhide HLC).below hbx); replace HLX := hide ((unhide HLX).below hbx); replace HLY := hide ((unhide HLY).below hbx); replace HBU : Hid (Below N u Z4) := (unhide HBU).trans (hbx.mono (unhide HNW)); replace HNW : Hid (N ≤ Z4.heap.size) := Nat.le_trans (unhide HNW) hbx.size; clear hbx; obtain ⟨c0A, c1A⟩ := (unhide HLA).cells; obtain ⟨c0B, c1B⟩ := (unhide HLB).cells; obtain ⟨c0C, c1C⟩ := (unhide HLC).cells; obtain ⟨c0X, c1X⟩ := (unhide HLX).cells; obtain ⟨c0Y, c1Y⟩ := (unhide HLY).cells; )
          | fail)
        clear HLX HLY c0X c1X c0Y c1Y HJ1 HJ2 HBN HSS HVC
        obtain ⟨J, r, hJ⟩ : ∃ J r, joinV a b = (J, r) := ⟨_, _, rfl⟩
        have HJ1 := hide hJ
        have HJ2 : Hid (joinV b a = (J, r)) := by rw [join_comm (unhide HOA) (unhide HOB)]; exact hJ
        have HJC : Hid ((J = jnS a b ∧ r = 0 ∧ SOk J) ∨ (J = St.none ∧ r = 82)) := by
          rcases join_cases (unhide HOA) (unhide HOB) with ⟨h1, h2⟩ | h1
          · rw [hJ] at h1; cases h1; exact .inl ⟨rfl, rfl, h2⟩
          · rw [hJ] at h1; cases h1; exact .inr ⟨rfl, rfl⟩
        have HSJ0 : Hid (sameB J J = true) := sameB_iff.2 rfl
        clear hJ
        go_upto_region 13 with (first
          | (go_at_call 26; refine (kvJoin _ _ (unhide HJ1) (unhide HLA).toSx (unhide HLB).toSx).mono ?_; rintro e D1 ⟨vD, nD, mD, rfl, hsx, hbx⟩; clear c0A c1A c0B c1B c0C c1C; replace HLA := hide ((unhide HLA).below hbx); replace HLB := hide ((unhide HLB).below hbx); replace HLC := hide ((unhide HLC).below hbx); replace HBU : Hid (Below N u D1) := (unhide HBU).trans (hbx.mono (unhide HNW)); replace HNW : Hid (N ≤ D1.heap.size) := Nat.le_trans (unhide HNW) hbx.size; have HSJ := hide hsx; clear hsx hbx; obtain ⟨KD, hK⟩ : ∃ k, k = D1.heap.size := ⟨_, rfl⟩; have HK := hide hK; clear hK)
          | ((with_reducible refine wpList_alloc_state (by rfl) (by rfl) (some 13) (by rfl) KD (unhide HK) ?_); intro D2 HX2 HB2 HS2; simp only [Act.put, List.setIfInBounds_toArray, List.set_cons_zero, List.set_cons_succ])
          | ((with_reducible refine wpList_store_state (by rfl) (.tmp 13) (.tmp 89) (by rfl) KD vD nD mD (by with_unfolding_all rfl) (by with_unfolding_all rfl) Sv.none 0 0 (unhide HX2) ?_); intro D3 HX3 HE3; simp only [Act.put]; have hbx : Below D1.heap.size D1 D3 := (by rw [unhide HE3, ← unhide HK]; exact belowRow (unhide HB2) (Nat.le_refl _) _); replace HLA := hide ((unhide HLA).below hbx); replace HLB := hide ((unhide HLB).below hbx); replace HLC := hide ((unhide HLC).below hbx); replace HBU : Hid (Below N u D3) := (unhide HBU).trans (hbx.mono (unhide HNW)); replace HNW : Hid (N ≤ D3.heap.size) := Nat.le_trans (unhide HNW) hbx.size; have HLD : Hid (Lv D3 KD J vD nD mD) := ⟨(unhide HSJ).below hbx, unhide HX3⟩; clear hbx HSJ HX2 HB2 HS2 HX3 HE3 HK; obtain ⟨c0A, c1A⟩ := (unhide HLA).cells; obtain ⟨c0B, c1B⟩ := (unhide HLB).cells; obtain ⟨c0C, c1C⟩ := (unhide HLC).cells; obtain ⟨c0D, c1D⟩ := (unhide HLD).cells; )
          | fail)
        go_upto_region 14 with (first
          | (go_at_call 26; refine (kvJoin _ _ (unhide HJ2) (unhide HLB).toSx (unhide HLA).toSx).mono ?_; rintro e E1 ⟨vE, nE, mE, rfl, hsx, hbx⟩; clear c0A c1A c0B c1B c0C c1C c0D c1D; replace HLA := hide ((unhide HLA).below hbx); replace HLB := hide ((unhide HLB).below hbx); replace HLC := hide ((unhide HLC).below hbx); replace HLD := hide ((unhide HLD).below hbx); replace HBU : Hid (Below N u E1) := (unhide HBU).trans (hbx.mono (unhide HNW)); replace HNW : Hid (N ≤ E1.heap.size) := Nat.le_trans (unhide HNW) hbx.size; have HSJ := hide hsx; clear hsx hbx; obtain ⟨KE, hK⟩ : ∃ k, k = E1.heap.size := ⟨_, rfl⟩; have HK := hide hK; clear hK)
          | ((with_reducible refine wpList_alloc_state (by rfl) (by rfl) (some 14) (by rfl) KE (unhide HK) ?_); intro E2 HX2 HB2 HS2; simp only [Act.put, List.setIfInBounds_toArray, List.set_cons_zero, List.set_cons_succ])
          | ((with_reducible refine wpList_store_state (by rfl) (.tmp 14) (.tmp 95) (by rfl) KE vE nE mE (by with_unfolding_all rfl) (by with_unfolding_all rfl) Sv.none 0 0 (unhide HX2) ?_); intro E3 HX3 HE3; simp only [Act.put]; have hbx : Below E1.heap.size E1 E3 := (by rw [unhide HE3, ← unhide HK]; exact belowRow (unhide HB2) (Nat.le_refl _) _); replace HLA := hide ((unhide HLA).below hbx); replace HLB := hide ((unhide HLB).below hbx); replace HLC := hide ((unhide HLC).below hbx); replace HLD := hide ((unhide HLD).below hbx); replace HBU : Hid (Below N u E3) := (unhide HBU).trans (hbx.mono (unhide HNW)); replace HNW : Hid (N ≤ E3.heap.size) := Nat.le_trans (unhide HNW) hbx.size; have HLE : Hid (Lv E3 KE J vE nE mE) := ⟨(unhide HSJ).below hbx, unhide HX3⟩; clear hbx HSJ HX2 HB2 HS2 HX3 HE3 HK; obtain ⟨c0A, c1A⟩ := (unhide HLA).cells; obtain ⟨c0B, c1B⟩ := (unhide HLB).cells; obtain ⟨c0C, c1C⟩ := (unhide HLC).cells; obtain ⟨c0D, c1D⟩ := (unhide HLD).cells; obtain ⟨c0E, c1E⟩ := (unhide HLE).cells; )
          | fail)
        go_upto_region 16 with (first
          | (go_at_call 17; refine (kvSame true (unhide HSJ0) (unhide HLD).toSx (unhide HLE).toSx E3 (Below.refl _ _)).mono ?_; rintro e F ⟨rfl, hbx⟩; clear c0A c1A c0B c1B c0C c1C c0D c1D c0E c1E; replace HLA := hide ((unhide HLA).below hbx); replace HLB := hide ((unhide HLB).below hbx); replace HLC := hide ((unhide HLC).below hbx); replace HLD := hide ((unhide HLD).below hbx); replace HLE := hide ((unhide HLE).below hbx); replace HBU : Hid (Below N u F) := (unhide HBU).trans (hbx.mono (unhide HNW)); replace HNW : Hid (N ≤ F.heap.size) := Nat.le_trans (unhide HNW) hbx.size; clear hbx; obtain ⟨c0A, c1A⟩ := (unhide HLA).cells; obtain ⟨c0B, c1B⟩ := (unhide HLB).cells; obtain ⟨c0C, c1C⟩ := (unhide HLC).cells; obtain ⟨c0D, c1D⟩ := (unhide HLD).cells; obtain ⟨c0E, c1E⟩ := (unhide HLE).cells; )
          | fail)
        clear HLE c0E c1E HJ1 HJ2 HSJ0
        have HPAB : Hid (sbelB a b = true → sbelB b a = sameB a b) := fun h => by
          rw [Bool.eq_iff_iff, sameB_iff, sbelB_iff]
          obtain ⟨h1, h2, h3⟩ := sbelB_iff.1 h
          exact ⟨fun h4 => sbel_antisymm h1.toSV h2.toSV h3 h4.2.2, fun e => by subst e; exact ⟨h1, h1, fun _ => Say.le_refl _⟩⟩
        have HTRA : Hid (sbelB a b = true → sbelB b c = true → sbelB a c = true) := fun h h' => by
          obtain ⟨h1, h2, h3⟩ := sbelB_iff.1 h
          obtain ⟨_, h5, h6⟩ := sbelB_iff.1 h'
          exact sbelB_iff.2 ⟨h1, h5, sbel_trans h3 h6⟩
        go_cut [133] (fun s133 wx => s133 = .bool false ∧ Hid (Below F.heap.size F wx))
        case first =>
          have HQab := hide (kvBelow _ rfl (unhide HLA).toSx (unhide HLB).toSx)
          have HQba := hide (kvBelow _ rfl (unhide HLB).toSx (unhide HLA).toSx)
          have HQsm := hide (kvSame _ rfl (unhide HLA).toSx (unhide HLB).toSx)
          have HQbc := hide (kvBelow _ rfl (unhide HLB).toSx (unhide HLC).toSx)
          have HQac := hide (kvBelow _ rfl (unhide HLA).toSx (unhide HLC).toSx)
          clear c0A c1A c0B c1B c0C c1C c0D c1D
          cases hab : sbelB a b with
          | false =>
            rw [hab] at HQab
            clear hab HPAB HTRA
            refine wp_region_last (fun W => Below F.heap.size F W) 27 hmix (belowDrew (Below.refl _ _)) fun hS => ?_
            generalize F.drew = X0 at hS ⊢
            refine wpAnyL_take 0 106 (va.v na ma) [2, 3, 9, 12] rfl rfl (by kernel_rfl) (by kernel_rfl) (by kernel_rfl) (by kernel_rfl) (by kernel_rfl) (fun _ _ _ h => h) (by rfl) (fun W hW => by obtain ⟨e1, e2⟩ := ((unhide HLA).below hW).cells; unfold Sv.v; go_simp) hS ?_
            simp only [Act.put, List.setIfInBounds_toArray, List.set_cons_zero, List.set_cons_succ]
            refine wpAnyL_take 1 107 (vb.v nb mb) [2, 3, 9, 12] rfl rfl (by kernel_rfl) (by kernel_rfl) (by kernel_rfl) (by kernel_rfl) (by kernel_rfl) (fun _ _ _ h => h) (by rfl) (fun W hW => by obtain ⟨e1, e2⟩ := ((unhide HLB).below hW).cells; unfold Sv.v; go_simp) hS ?_
            simp only [Act.put, List.setIfInBounds_toArray, List.set_cons_zero, List.set_cons_succ]
            refine wpAnyL_one (i := 2) (by kernel_rfl) rfl (by rfl) fun K hK => ?_
            refine wp_call_fn 19 _ _ (by rfl) #[va.v na ma, vb.v nb mb] (by with_unfolding_all rfl) entBl (some 108) (by rfl) _ (asV (unhide HQab _ hS)) ?_
            rintro _ Q1 ⟨rfl, hbe⟩
            have HQ1 := hide hbe
            clear hbe
            refine hK _ _ (fun _ => unhide HQ1) ?_
            clear hK K
            simp only [Act.put, List.setIfInBounds_toArray, List.set_cons_zero, List.set_cons_succ]
            refine wpAnyL_take 3 109 (.bool false) [9, 12] rfl rfl (by kernel_rfl) (by kernel_rfl) (by kernel_rfl) (by kernel_rfl) (by kernel_rfl) (fun _ _ _ h => h) (by rfl) (fun _ _ => by go_simp) (unhide HQ1) ?_
            simp only [Act.put, List.setIfInBounds_toArray, List.set_cons_zero, List.set_cons_succ]
            refine wpAnyL_skip 4 110 [6, 9, 12] rfl rfl (by kernel_rfl) (by kernel_rfl) (by kernel_rfl) (by kernel_rfl) (by kernel_rfl) (fun _ _ _ h => h) (by rfl) (unhide HQ1) ?_
            simp only [Act.put, List.setIfInBounds_toArray, List.set_cons_zero, List.set_cons_succ]
            refine wpAnyL_skip 5 111 [6, 9, 12] rfl rfl (by kernel_rfl) (by kernel_rfl) (by kernel_rfl) (by kernel_rfl) (by kernel_rfl) (fun _ _ _ h => h) (by rfl) (unhide HQ1) ?_
            simp only [Act.put, List.setIfInBounds_toArray, List.set_cons_zero, List.set_cons_succ]
            refine wpAnyL_skip 6 112 [9, 12] rfl rfl (by kernel_rfl) (by kernel_rfl) (by kernel_rfl) (by kernel_rfl) (by kernel_rfl) (fun _ _ _ h => h) (by rfl) (unhide HQ1) ?_
            simp only [Act.put, List.setIfInBounds_toArray, List.set_cons_zero, List.set_cons_succ]
            refine wpAnyL_skip 7 113 [9, 12] rfl rfl (by kernel_rfl) (by kernel_rfl) (by kernel_rfl) (by kernel_rfl) (by kernel_rfl) (fun _ _ _ h => h) (by rfl) (unhide HQ1) ?_
            simp only [Act.put, List.setIfInBounds_toArray, List.set_cons_zero, List.set_cons_succ]
            refine wpAnyL_skip 8 114 [9, 12] rfl rfl (by kernel_rfl) (by kernel_rfl) (by kernel_rfl) (by kernel_rfl) (by kernel_rfl) (fun _ _ _ h => h) (by rfl) (unhide HQ1) ?_
            simp only [Act.put, List.setIfInBounds_toArray, List.set_cons_zero, List.set_cons_succ]
            refine wpAnyL_skip 9 115 [12] rfl rfl (by kernel_rfl) (by kernel_rfl) (by kernel_rfl) (by kernel_rfl) (by kernel_rfl) (fun _ _ _ h => h) (by rfl) (unhide HQ1) ?_
            simp only [Act.put, List.setIfInBounds_toArray, List.set_cons_zero, List.set_cons_succ]
            refine wpAnyL_skip 10 116 [11, 12] rfl rfl (by kernel_rfl) (by kernel_rfl) (by kernel_rfl) (by kernel_rfl) (by kernel_rfl) (fun _ _ _ h => h) (by rfl) (unhide HQ1) ?_
            simp only [Act.put, List.setIfInBounds_toArray, List.set_cons_zero, List.set_cons_succ]
            refine wpAnyL_take 11 117 (.bool false) [12] rfl rfl (by kernel_rfl) (by kernel_rfl) (by kernel_rfl) (by kernel_rfl) (by kernel_rfl) (fun _ _ _ h => h) (by rfl) (fun _ _ => by go_simp) (unhide HQ1) ?_
            simp only [Act.put, List.setIfInBounds_toArray, List.set_cons_zero, List.set_cons_succ]
            refine wpAnyL_take 12 118 (.bool false) [] rfl rfl (by kernel_rfl) (by kernel_rfl) (by kernel_rfl) (by kernel_rfl) (by kernel_rfl) (fun _ _ _ h => h) (by rfl) (fun _ _ => by go_simp) (unhide HQ1) ?_
            simp only [Act.put, List.setIfInBounds_toArray, List.set_cons_zero, List.set_cons_succ]
            refine wpAnyL_take 13 119 (va.v na ma) [15, 16, 19, 21, 26] rfl rfl (by kernel_rfl) (by kernel_rfl) (by kernel_rfl) (by kernel_rfl) (by kernel_rfl) (fun _ _ _ h => h) (by rfl) (fun W hW => by obtain ⟨e1, e2⟩ := ((unhide HLA).below hW).cells; unfold Sv.v; go_simp) (unhide HQ1) ?_
            simp only [Act.put, List.setIfInBounds_toArray, List.set_cons_zero, List.set_cons_succ]
            refine wpAnyL_take 14 120 (vb.v nb mb) [15, 16, 19, 21, 26] rfl rfl (by kernel_rfl) (by kernel_rfl) (by kernel_rfl) (by kernel_rfl) (by kernel_rfl) (fun _ _ _ h => h) (by rfl) (fun W hW => by obtain ⟨e1, e2⟩ := ((unhide HLB).below hW).cells; unfold Sv.v; go_simp) (unhide HQ1) ?_
            simp only [Act.put, List.setIfInBounds_toArray, List.set_cons_zero, List.set_cons_succ]
            refine wpAnyL_one (i := 15) (by kernel_rfl) rfl (by rfl) fun K hK => ?_
            refine wp_call_fn 19 _ _ (by rfl) #[va.v na ma, vb.v nb mb] (by with_unfolding_all rfl) entBl (some 121) (by rfl) _ (asV (unhide HQab _ (unhide HQ1))) ?_
            rintro _ Q2 ⟨rfl, hbe⟩
            have HQ2 := hide hbe
            clear hbe
            refine hK _ _ (fun _ => unhide HQ2) ?_
            clear hK K
            simp only [Act.put, List.setIfInBounds_toArray, List.set_cons_zero, List.set_cons_succ]
            refine wpAnyL_take 16 122 (.bool false) [19, 21, 26] rfl rfl (by kernel_rfl) (by kernel_rfl) (by kernel_rfl) (by kernel_rfl) (by kernel_rfl) (fun _ _ _ h => h) (by rfl) (fun _ _ => by go_simp) (unhide HQ2) ?_
            simp only [Act.put, List.setIfInBounds_toArray, List.set_cons_zero, List.set_cons_succ]
            refine wpAnyL_skip 17 123 [19, 21, 26] rfl rfl (by kernel_rfl) (by kernel_rfl) (by kernel_rfl) (by kernel_rfl) (by kernel_rfl) (fun _ _ _ h => h) (by rfl) (unhide HQ2) ?_
            simp only [Act.put, List.setIfInBounds_toArray, List.set_cons_zero, List.set_cons_succ]
            refine wpAnyL_skip 18 124 [19, 21, 26] rfl rfl (by kernel_rfl) (by kernel_rfl) (by kernel_rfl) (by kernel_rfl) (by kernel_rfl) (fun _ _ _ h => h) (by rfl) (unhide HQ2) ?_
            simp only [Act.put, List.setIfInBounds_toArray, List.set_cons_zero, List.set_cons_succ]
            refine wpAnyL_skip 19 125 [21, 26] rfl rfl (by kernel_rfl) (by kernel_rfl) (by kernel_rfl) (by kernel_rfl) (by kernel_rfl) (fun _ _ _ h => h) (by rfl) (unhide HQ2) ?_
            simp only [Act.put, List.setIfInBounds_toArray, List.set_cons_zero, List.set_cons_succ]
            refine wpAnyL_take 20 126 (.bool false) [21, 26] rfl rfl (by kernel_rfl) (by kernel_rfl) (by kernel_rfl) (by kernel_rfl) (by kernel_rfl) (fun _ _ _ h => h) (by rfl) (fun _ _ => by go_simp) (unhide HQ2) ?_
            simp only [Act.put, List.setIfInBounds_toArray, List.set_cons_zero, List.set_cons_succ]
            refine wpAnyL_take 21 127 (.bool false) [26] rfl rfl (by kernel_rfl) (by kernel_rfl) (by kernel_rfl) (by kernel_rfl) (by kernel_rfl) (fun _ _ _ h => h) (by rfl) (fun _ _ => by go_simp) (unhide HQ2) ?_
            simp only [Act.put, List.setIfInBounds_toArray, List.set_cons_zero, List.set_cons_succ]
            refine wpAnyL_skip 22 128 [24, 25, 26] rfl rfl (by kernel_rfl) (by kernel_rfl) (by kernel_rfl) (by kernel_rfl) (by kernel_rfl) (fun _ _ _ h => h) (by rfl) (unhide HQ2) ?_
            simp only [Act.put, List.setIfInBounds_toArray, List.set_cons_zero, List.set_cons_succ]
            refine wpAnyL_skip 23 129 [24, 25, 26] rfl rfl (by kernel_rfl) (by kernel_rfl) (by kernel_rfl) (by kernel_rfl) (by kernel_rfl) (fun _ _ _ h => h) (by rfl) (unhide HQ2) ?_
            simp only [Act.put, List.setIfInBounds_toArray, List.set_cons_zero, List.set_cons_succ]
            refine wpAnyL_skip 24 130 [25, 26] rfl rfl (by kernel_rfl) (by kernel_rfl) (by kernel_rfl) (by kernel_rfl) (by kernel_rfl) (fun _ _ _ h => h) (by rfl) (unhide HQ2) ?_
            simp only [Act.put, List.setIfInBounds_toArray, List.set_cons_zero, List.set_cons_succ]
            refine wpAnyL_skip 25 131 [26] rfl rfl (by kernel_rfl) (by kernel_rfl) (by kernel_rfl) (by kernel_rfl) (by kernel_rfl) (fun _ _ _ h => h) (by rfl) (unhide HQ2) ?_
            simp only [Act.put, List.setIfInBounds_toArray, List.set_cons_zero, List.set_cons_succ]
            refine wpAnyL_take 26 132 (.bool false) [] rfl rfl (by kernel_rfl) (by kernel_rfl) (by kernel_rfl) (by kernel_rfl) (by kernel_rfl) (fun _ _ _ h => h) (by rfl) (fun _ _ => by go_simp) (unhide HQ2) ?_
            simp only [Act.put, List.setIfInBounds_toArray, List.set_cons_zero, List.set_cons_succ]
            refine wpAnyL_one (i := 27) (by kernel_rfl) rfl (by rfl) fun K hK => ?_
            refine wp_val (.bool false) (by go_simp) (some 133) (by rfl) ?_
            refine hK _ _ (fun _ => unhide HQ2) ?_
            clear hK K
            simp only [Act.put, List.setIfInBounds_toArray, List.set_cons_zero, List.set_cons_succ]
            refine wpAnyL_done (by kernel_rfl) ?_ _
            go_wp2_with fail
            go_meet
            exact ⟨rfl, unhide HQ2⟩
          | true =>
            rw [hab] at HQab
            rw [unhide HPAB hab] at HQba
            generalize sameB a b = q at *
            cases hbc : sbelB b c with
            | false =>
              rw [hbc] at HQbc
              clear hab HPAB HTRA hbc
              refine wp_region_last (fun W => Below F.heap.size F W) 27 hmix (belowDrew (Below.refl _ _)) fun hS => ?_
              generalize F.drew = X0 at hS ⊢
              refine wpAnyL_take 0 106 (va.v na ma) [2, 3, 9, 12] rfl rfl (by kernel_rfl) (by kernel_rfl) (by kernel_rfl) (by kernel_rfl) (by kernel_rfl) (fun _ _ _ h => h) (by rfl) (fun W hW => by obtain ⟨e1, e2⟩ := ((unhide HLA).below hW).cells; unfold Sv.v; go_simp) hS ?_
              simp only [Act.put, List.setIfInBounds_toArray, List.set_cons_zero, List.set_cons_succ]
              refine wpAnyL_take 1 107 (vb.v nb mb) [2, 3, 9, 12] rfl rfl (by kernel_rfl) (by kernel_rfl) (by kernel_rfl) (by kernel_rfl) (by kernel_rfl) (fun _ _ _ h => h) (by rfl) (fun W hW => by obtain ⟨e1, e2⟩ := ((unhide HLB).below hW).cells; unfold Sv.v; go_simp) hS ?_
              simp only [Act.put, List.setIfInBounds_toArray, List.set_cons_zero, List.set_cons_succ]
              refine wpAnyL_one (i := 2) (by kernel_rfl) rfl (by rfl) fun K hK => ?_
              refine wp_call_fn 19 _ _ (by rfl) #[va.v na ma, vb.v nb mb] (by with_unfolding_all rfl) entBl (some 108) (by rfl) _ (asV (unhide HQab _ hS)) ?_
              rintro _ Q1 ⟨rfl, hbe⟩
              have HQ1 := hide hbe
              clear hbe
              refine hK _ _ (fun _ => unhide HQ1) ?_
              clear hK K
              simp only [Act.put, List.setIfInBounds_toArray, List.set_cons_zero, List.set_cons_succ]
              refine wpAnyL_take 3 109 (.bool true) [9, 12] rfl rfl (by kernel_rfl) (by kernel_rfl) (by kernel_rfl) (by kernel_rfl) (by kernel_rfl) (fun _ _ _ h => h) (by rfl) (fun _ _ => by go_simp) (unhide HQ1) ?_
              simp only [Act.put, List.setIfInBounds_toArray, List.set_cons_zero, List.set_cons_succ]
              refine wpAnyL_take 4 110 (vb.v nb mb) [6, 9, 12] rfl rfl (by kernel_rfl) (by kernel_rfl) (by kernel_rfl) (by kernel_rfl) (by kernel_rfl) (fun _ _ _ h => h) (by rfl) (fun W hW => by obtain ⟨e1, e2⟩ := ((unhide HLB).below hW).cells; unfold Sv.v; go_simp) (unhide HQ1) ?_
              simp only [Act.put, List.setIfInBounds_toArray, List.set_cons_zero, List.set_cons_succ]
              refine wpAnyL_take 5 111 (va.v na ma) [6, 9, 12] rfl rfl (by kernel_rfl) (by kernel_rfl) (by kernel_rfl) (by kernel_rfl) (by kernel_rfl) (fun _ _ _ h => h) (by rfl) (fun W hW => by obtain ⟨e1, e2⟩ := ((unhide HLA).below hW).cells; unfold Sv.v; go_simp) (unhide HQ1) ?_
              simp only [Act.put, List.setIfInBounds_toArray, List.set_cons_zero, List.set_cons_succ]
              refine wpAnyL_take 7 113 (va.v na ma) [9, 12] rfl rfl (by kernel_rfl) (by kernel_rfl) (by kernel_rfl) (by kernel_rfl) (by kernel_rfl) (fun _ _ _ h => h) (by rfl) (fun W hW => by obtain ⟨e1, e2⟩ := ((unhide HLA).below hW).cells; unfold Sv.v; go_simp) (unhide HQ1) ?_
              simp only [Act.put, List.setIfInBounds_toArray, List.set_cons_zero, List.set_cons_succ]
              refine wpAnyL_take 8 114 (vb.v nb mb) [9, 12] rfl rfl (by kernel_rfl) (by kernel_rfl) (by kernel_rfl) (by kernel_rfl) (by kernel_rfl) (fun _ _ _ h => h) (by rfl) (fun W hW => by obtain ⟨e1, e2⟩ := ((unhide HLB).below hW).cells; unfold Sv.v; go_simp) (unhide HQ1) ?_
              simp only [Act.put, List.setIfInBounds_toArray, List.set_cons_zero, List.set_cons_succ]
              refine wpAnyL_one (i := 6) (by kernel_rfl) rfl (by rfl) fun K hK => ?_
              refine wp_call_fn 19 _ _ (by rfl) #[vb.v nb mb, va.v na ma] (by with_unfolding_all rfl) entBl (some 112) (by rfl) _ (asV (unhide HQba _ (unhide HQ1))) ?_
              rintro _ Q2 ⟨rfl, hbe⟩
              have HQ2 := hide hbe
              clear hbe
              refine hK _ _ (fun _ => unhide HQ2) ?_
              clear hK K
              simp only [Act.put, List.setIfInBounds_toArray, List.set_cons_zero, List.set_cons_succ]
              refine wpAnyL_one (i := 9) (by kernel_rfl) rfl (by rfl) fun K hK => ?_
              refine wp_call_fn 17 _ _ (by rfl) #[va.v na ma, vb.v nb mb] (by with_unfolding_all rfl) entSm (some 115) (by rfl) _ (asV (unhide HQsm _ (unhide HQ2))) ?_
              rintro _ Q3 ⟨rfl, hbe⟩
              have HQ3 := hide hbe
              clear hbe
              refine hK _ _ (fun _ => unhide HQ3) ?_
              clear hK K
              simp only [Act.put, List.setIfInBounds_toArray, List.set_cons_zero, List.set_cons_succ]
              refine wpAnyL_take 10 116 (.bool false) [11, 12] rfl rfl (by kernel_rfl) (by kernel_rfl) (by kernel_rfl) (by kernel_rfl) (by kernel_rfl) (fun _ _ _ h => h) (by rfl) (fun _ _ => by go_simp) (unhide HQ3) ?_
              simp only [Act.put, List.setIfInBounds_toArray, List.set_cons_zero, List.set_cons_succ]
              refine wpAnyL_take 11 117 (.bool false) [12] rfl rfl (by kernel_rfl) (by kernel_rfl) (by kernel_rfl) (by kernel_rfl) (by kernel_rfl) (fun _ _ _ h => h) (by rfl) (fun _ _ => by go_simp) (unhide HQ3) ?_
              simp only [Act.put, List.setIfInBounds_toArray, List.set_cons_zero, List.set_cons_succ]
              refine wpAnyL_take 12 118 (.bool false) [] rfl rfl (by kernel_rfl) (by kernel_rfl) (by kernel_rfl) (by kernel_rfl) (by kernel_rfl) (fun _ _ _ h => h) (by rfl) (fun _ _ => by go_simp) (unhide HQ3) ?_
              simp only [Act.put, List.setIfInBounds_toArray, List.set_cons_zero, List.set_cons_succ]
              refine wpAnyL_take 13 119 (va.v na ma) [15, 16, 19, 21, 26] rfl rfl (by kernel_rfl) (by kernel_rfl) (by kernel_rfl) (by kernel_rfl) (by kernel_rfl) (fun _ _ _ h => h) (by rfl) (fun W hW => by obtain ⟨e1, e2⟩ := ((unhide HLA).below hW).cells; unfold Sv.v; go_simp) (unhide HQ3) ?_
              simp only [Act.put, List.setIfInBounds_toArray, List.set_cons_zero, List.set_cons_succ]
              refine wpAnyL_take 14 120 (vb.v nb mb) [15, 16, 19, 21, 26] rfl rfl (by kernel_rfl) (by kernel_rfl) (by kernel_rfl) (by kernel_rfl) (by kernel_rfl) (fun _ _ _ h => h) (by rfl) (fun W hW => by obtain ⟨e1, e2⟩ := ((unhide HLB).below hW).cells; unfold Sv.v; go_simp) (unhide HQ3) ?_
              simp only [Act.put, List.setIfInBounds_toArray, List.set_cons_zero, List.set_cons_succ]
              refine wpAnyL_one (i := 15) (by kernel_rfl) rfl (by rfl) fun K hK => ?_
              refine wp_call_fn 19 _ _ (by rfl) #[va.v na ma, vb.v nb mb] (by with_unfolding_all rfl) entBl (some 121) (by rfl) _ (asV (unhide HQab _ (unhide HQ3))) ?_
              rintro _ Q4 ⟨rfl, hbe⟩
              have HQ4 := hide hbe
              clear hbe
              refine hK _ _ (fun _ => unhide HQ4) ?_
              clear hK K
              simp only [Act.put, List.setIfInBounds_toArray, List.set_cons_zero, List.set_cons_succ]
              refine wpAnyL_take 16 122 (.bool true) [19, 21, 26] rfl rfl (by kernel_rfl) (by kernel_rfl) (by kernel_rfl) (by kernel_rfl) (by kernel_rfl) (fun _ _ _ h => h) (by rfl) (fun _ _ => by go_simp) (unhide HQ4) ?_
              simp only [Act.put, List.setIfInBounds_toArray, List.set_cons_zero, List.set_cons_succ]
              refine wpAnyL_take 17 123 (vb.v nb mb) [19, 21, 26] rfl rfl (by kernel_rfl) (by kernel_rfl) (by kernel_rfl) (by kernel_rfl) (by kernel_rfl) (fun _ _ _ h => h) (by rfl) (fun W hW => by obtain ⟨e1, e2⟩ := ((unhide HLB).below hW).cells; unfold Sv.v; go_simp) (unhide HQ4) ?_
              simp only [Act.put, List.setIfInBounds_toArray, List.set_cons_zero, List.set_cons_succ]
              refine wpAnyL_take 18 124 (vc.v nc mc) [19, 21, 26] rfl rfl (by kernel_rfl) (by kernel_rfl) (by kernel_rfl) (by kernel_rfl) (by kernel_rfl) (fun _ _ _ h => h) (by rfl) (fun W hW => by obtain ⟨e1, e2⟩ := ((unhide HLC).below hW).cells; unfold Sv.v; go_simp) (unhide HQ4) ?_
              simp only [Act.put, List.setIfInBounds_toArray, List.set_cons_zero, List.set_cons_succ]
              refine wpAnyL_one (i := 19) (by kernel_rfl) rfl (by rfl) fun K hK => ?_
              refine wp_call_fn 19 _ _ (by rfl) #[vb.v nb mb, vc.v nc mc] (by with_unfolding_all rfl) entBl (some 125) (by rfl) _ (asV (unhide HQbc _ (unhide HQ4))) ?_
              rintro _ Q5 ⟨rfl, hbe⟩
              have HQ5 := hide hbe
              clear hbe
              refine hK _ _ (fun _ => unhide HQ5) ?_
              clear hK K
              simp only [Act.put, List.setIfInBounds_toArray, List.set_cons_zero, List.set_cons_succ]
              refine wpAnyL_take 20 126 (.bool false) [21, 26] rfl rfl (by kernel_rfl) (by kernel_rfl) (by kernel_rfl) (by kernel_rfl) (by kernel_rfl) (fun _ _ _ h => h) (by rfl) (fun _ _ => by go_simp) (unhide HQ5) ?_
              simp only [Act.put, List.setIfInBounds_toArray, List.set_cons_zero, List.set_cons_succ]
              refine wpAnyL_take 21 127 (.bool false) [26] rfl rfl (by kernel_rfl) (by kernel_rfl) (by kernel_rfl) (by kernel_rfl) (by kernel_rfl) (fun _ _ _ h => h) (by rfl) (fun _ _ => by go_simp) (unhide HQ5) ?_
              simp only [Act.put, List.setIfInBounds_toArray, List.set_cons_zero, List.set_cons_succ]
              refine wpAnyL_skip 22 128 [24, 25, 26] rfl rfl (by kernel_rfl) (by kernel_rfl) (by kernel_rfl) (by kernel_rfl) (by kernel_rfl) (fun _ _ _ h => h) (by rfl) (unhide HQ5) ?_
              simp only [Act.put, List.setIfInBounds_toArray, List.set_cons_zero, List.set_cons_succ]
              refine wpAnyL_skip 23 129 [24, 25, 26] rfl rfl (by kernel_rfl) (by kernel_rfl) (by kernel_rfl) (by kernel_rfl) (by kernel_rfl) (fun _ _ _ h => h) (by rfl) (unhide HQ5) ?_
              simp only [Act.put, List.setIfInBounds_toArray, List.set_cons_zero, List.set_cons_succ]
              refine wpAnyL_skip 24 130 [25, 26] rfl rfl (by kernel_rfl) (by kernel_rfl) (by kernel_rfl) (by kernel_rfl) (by kernel_rfl) (fun _ _ _ h => h) (by rfl) (unhide HQ5) ?_
              simp only [Act.put, List.setIfInBounds_toArray, List.set_cons_zero, List.set_cons_succ]
              refine wpAnyL_skip 25 131 [26] rfl rfl (by kernel_rfl) (by kernel_rfl) (by kernel_rfl) (by kernel_rfl) (by kernel_rfl) (fun _ _ _ h => h) (by rfl) (unhide HQ5) ?_
              simp only [Act.put, List.setIfInBounds_toArray, List.set_cons_zero, List.set_cons_succ]
              refine wpAnyL_take 26 132 (.bool false) [] rfl rfl (by kernel_rfl) (by kernel_rfl) (by kernel_rfl) (by kernel_rfl) (by kernel_rfl) (fun _ _ _ h => h) (by rfl) (fun _ _ => by go_simp) (unhide HQ5) ?_
              simp only [Act.put, List.setIfInBounds_toArray, List.set_cons_zero, List.set_cons_succ]
              refine wpAnyL_one (i := 27) (by kernel_rfl) rfl (by rfl) fun K hK => ?_
              refine wp_val (.bool false) (by go_simp) (some 133) (by rfl) ?_
              refine hK _ _ (fun _ => unhide HQ5) ?_
              clear hK K
              simp only [Act.put, List.setIfInBounds_toArray, List.set_cons_zero, List.set_cons_succ]
              refine wpAnyL_done (by kernel_rfl) ?_ _
              go_wp2_with fail
              go_meet
              exact ⟨rfl, unhide HQ5⟩
            | true =>
              rw [hbc] at HQbc
              rw [unhide HTRA hab hbc] at HQac
              clear hab HPAB HTRA hbc
              refine wp_region_last (fun W => Below F.heap.size F W) 27 hmix (belowDrew (Below.refl _ _)) fun hS => ?_
              generalize F.drew = X0 at hS ⊢
              refine wpAnyL_take 0 106 (va.v na ma) [2, 3, 9, 12] rfl rfl (by kernel_rfl) (by kernel_rfl) (by kernel_rfl) (by kernel_rfl) (by kernel_rfl) (fun _ _ _ h => h) (by rfl) (fun W hW => by obtain ⟨e1, e2⟩ := ((unhide HLA).below hW).cells; unfold Sv.v; go_simp) hS ?_
              simp only [Act.put, List.setIfInBounds_toArray, List.set_cons_zero, List.set_cons_succ]
              refine wpAnyL_take 1 107 (vb.v nb mb) [2, 3, 9, 12] rfl rfl (by kernel_rfl) (by kernel_rfl) (by kernel_rfl) (by kernel_rfl) (by kernel_rfl) (fun _ _ _ h => h) (by rfl) (fun W hW => by obtain ⟨e1, e2⟩ := ((unhide HLB).below hW).cells; unfold Sv.v; go_simp) hS ?_
              simp only [Act.put, List.setIfInBounds_toArray, List.set_cons_zero, List.set_cons_succ]
              refine wpAnyL_one (i := 2) (by kernel_rfl) rfl (by rfl) fun K hK => ?_
              refine wp_call_fn 19 _ _ (by rfl) #[va.v na ma, vb.v nb mb] (by with_unfolding_all rfl) entBl (some 108) (by rfl) _ (asV (unhide HQab _ hS)) ?_
              rintro _ Q1 ⟨rfl, hbe⟩
              have HQ1 := hide hbe
              clear hbe
              refine hK _ _ (fun _ => unhide HQ1) ?_
              clear hK K
              simp only [Act.put, List.setIfInBounds_toArray, List.set_cons_zero, List.set_cons_succ]
              refine wpAnyL_take 3 109 (.bool true) [9, 12] rfl rfl (by kernel_rfl) (by kernel_rfl) (by kernel_rfl) (by kernel_rfl) (by kernel_rfl) (fun _ _ _ h => h) (by rfl) (fun _ _ => by go_simp) (unhide HQ1) ?_
              simp only [Act.put, List.setIfInBounds_toArray, List.set_cons_zero, List.set_cons_succ]
              refine wpAnyL_take 4 110 (vb.v nb mb) [6, 9, 12] rfl rfl (by kernel_rfl) (by kernel_rfl) (by kernel_rfl) (by kernel_rfl) (by kernel_rfl) (fun _ _ _ h => h) (by rfl) (fun W hW => by obtain ⟨e1, e2⟩ := ((unhide HLB).below hW).cells; unfold Sv.v; go_simp) (unhide HQ1) ?_
              simp only [Act.put, List.setIfInBounds_toArray, List.set_cons_zero, List.set_cons_succ]
              refine wpAnyL_take 5 111 (va.v na ma) [6, 9, 12] rfl rfl (by kernel_rfl) (by kernel_rfl) (by kernel_rfl) (by kernel_rfl) (by kernel_rfl) (fun _ _ _ h => h) (by rfl) (fun W hW => by obtain ⟨e1, e2⟩ := ((unhide HLA).below hW).cells; unfold Sv.v; go_simp) (unhide HQ1) ?_
              simp only [Act.put, List.setIfInBounds_toArray, List.set_cons_zero, List.set_cons_succ]
              refine wpAnyL_take 7 113 (va.v na ma) [9, 12] rfl rfl (by kernel_rfl) (by kernel_rfl) (by kernel_rfl) (by kernel_rfl) (by kernel_rfl) (fun _ _ _ h => h) (by rfl) (fun W hW => by obtain ⟨e1, e2⟩ := ((unhide HLA).below hW).cells; unfold Sv.v; go_simp) (unhide HQ1) ?_
              simp only [Act.put, List.setIfInBounds_toArray, List.set_cons_zero, List.set_cons_succ]
              refine wpAnyL_take 8 114 (vb.v nb mb) [9, 12] rfl rfl (by kernel_rfl) (by kernel_rfl) (by kernel_rfl) (by kernel_rfl) (by kernel_rfl) (fun _ _ _ h => h) (by rfl) (fun W hW => by obtain ⟨e1, e2⟩ := ((unhide HLB).below hW).cells; unfold Sv.v; go_simp) (unhide HQ1) ?_
              simp only [Act.put, List.setIfInBounds_toArray, List.set_cons_zero, List.set_cons_succ]
              refine wpAnyL_one (i := 6) (by kernel_rfl) rfl (by rfl) fun K hK => ?_
              refine wp_call_fn 19 _ _ (by rfl) #[vb.v nb mb, va.v na ma] (by with_unfolding_all rfl) entBl (some 112) (by rfl) _ (asV (unhide HQba _ (unhide HQ1))) ?_
              rintro _ Q2 ⟨rfl, hbe⟩
              have HQ2 := hide hbe
              clear hbe
              refine hK _ _ (fun _ => unhide HQ2) ?_
              clear hK K
              simp only [Act.put, List.setIfInBounds_toArray, List.set_cons_zero, List.set_cons_succ]
              refine wpAnyL_one (i := 9) (by kernel_rfl) rfl (by rfl) fun K hK => ?_
              refine wp_call_fn 17 _ _ (by rfl) #[va.v na ma, vb.v nb mb] (by with_unfolding_all rfl) entSm (some 115) (by rfl) _ (asV (unhide HQsm _ (unhide HQ2))) ?_
              rintro _ Q3 ⟨rfl, hbe⟩
              have HQ3 := hide hbe
              clear hbe
              refine hK _ _ (fun _ => unhide HQ3) ?_
              clear hK K
              simp only [Act.put, List.setIfInBounds_toArray, List.set_cons_zero, List.set_cons_succ]
              refine wpAnyL_take 10 116 (.bool false) [11, 12] rfl rfl (by kernel_rfl) (by kernel_rfl) (by kernel_rfl) (by kernel_rfl) (by kernel_rfl) (fun _ _ _ h => h) (by rfl) (fun _ _ => by go_simp) (unhide HQ3) ?_
              simp only [Act.put, List.setIfInBounds_toArray, List.set_cons_zero, List.set_cons_succ]
              refine wpAnyL_take 11 117 (.bool false) [12] rfl rfl (by kernel_rfl) (by kernel_rfl) (by kernel_rfl) (by kernel_rfl) (by kernel_rfl) (fun _ _ _ h => h) (by rfl) (fun _ _ => by go_simp) (unhide HQ3) ?_
              simp only [Act.put, List.setIfInBounds_toArray, List.set_cons_zero, List.set_cons_succ]
              refine wpAnyL_take 12 118 (.bool false) [] rfl rfl (by kernel_rfl) (by kernel_rfl) (by kernel_rfl) (by kernel_rfl) (by kernel_rfl) (fun _ _ _ h => h) (by rfl) (fun _ _ => by go_simp) (unhide HQ3) ?_
              simp only [Act.put, List.setIfInBounds_toArray, List.set_cons_zero, List.set_cons_succ]
              refine wpAnyL_take 13 119 (va.v na ma) [15, 16, 19, 21, 26] rfl rfl (by kernel_rfl) (by kernel_rfl) (by kernel_rfl) (by kernel_rfl) (by kernel_rfl) (fun _ _ _ h => h) (by rfl) (fun W hW => by obtain ⟨e1, e2⟩ := ((unhide HLA).below hW).cells; unfold Sv.v; go_simp) (unhide HQ3) ?_
              simp only [Act.put, List.setIfInBounds_toArray, List.set_cons_zero, List.set_cons_succ]
              refine wpAnyL_take 14 120 (vb.v nb mb) [15, 16, 19, 21, 26] rfl rfl (by kernel_rfl) (by kernel_rfl) (by kernel_rfl) (by kernel_rfl) (by kernel_rfl) (fun _ _ _ h => h) (by rfl) (fun W hW => by obtain ⟨e1, e2⟩ := ((unhide HLB).below hW).cells; unfold Sv.v; go_simp) (unhide HQ3) ?_
              simp only [Act.put, List.setIfInBounds_toArray, List.set_cons_zero, List.set_cons_succ]
              refine wpAnyL_one (i := 15) (by kernel_rfl) rfl (by rfl) fun K hK => ?_
              refine wp_call_fn 19 _ _ (by rfl) #[va.v na ma, vb.v nb mb] (by with_unfolding_all rfl) entBl (some 121) (by rfl) _ (asV (unhide HQab _ (unhide HQ3))) ?_
              rintro _ Q4 ⟨rfl, hbe⟩
              have HQ4 := hide hbe
              clear hbe
              refine hK _ _ (fun _ => unhide HQ4) ?_
              clear hK K
              simp only [Act.put, List.setIfInBounds_toArray, List.set_cons_zero, List.set_cons_succ]
              refine wpAnyL_take 16 122 (.bool true) [19, 21, 26] rfl rfl (by kernel_rfl) (by kernel_rfl) (by kernel_rfl) (by kernel_rfl) (by kernel_rfl) (fun _ _ _ h => h) (by rfl) (fun _ _ => by go_simp) (unhide HQ4) ?_
              simp only [Act.put, List.setIfInBounds_toArray, List.set_cons_zero, List.set_cons_succ]
              refine wpAnyL_take 17 123 (vb.v nb mb) [19, 21, 26] rfl rfl (by kernel_rfl) (by kernel_rfl) (by kernel_rfl) (by kernel_rfl) (by kernel_rfl) (fun _ _ _ h => h) (by rfl) (fun W hW => by obtain ⟨e1, e2⟩ := ((unhide HLB).below hW).cells; unfold Sv.v; go_simp) (unhide HQ4) ?_
              simp only [Act.put, List.setIfInBounds_toArray, List.set_cons_zero, List.set_cons_succ]
              refine wpAnyL_take 18 124 (vc.v nc mc) [19, 21, 26] rfl rfl (by kernel_rfl) (by kernel_rfl) (by kernel_rfl) (by kernel_rfl) (by kernel_rfl) (fun _ _ _ h => h) (by rfl) (fun W hW => by obtain ⟨e1, e2⟩ := ((unhide HLC).below hW).cells; unfold Sv.v; go_simp) (unhide HQ4) ?_
              simp only [Act.put, List.setIfInBounds_toArray, List.set_cons_zero, List.set_cons_succ]
              refine wpAnyL_one (i := 19) (by kernel_rfl) rfl (by rfl) fun K hK => ?_
              refine wp_call_fn 19 _ _ (by rfl) #[vb.v nb mb, vc.v nc mc] (by with_unfolding_all rfl) entBl (some 125) (by rfl) _ (asV (unhide HQbc _ (unhide HQ4))) ?_
              rintro _ Q5 ⟨rfl, hbe⟩
              have HQ5 := hide hbe
              clear hbe
              refine hK _ _ (fun _ => unhide HQ5) ?_
              clear hK K
              simp only [Act.put, List.setIfInBounds_toArray, List.set_cons_zero, List.set_cons_succ]
              refine wpAnyL_take 20 126 (.bool true) [21, 26] rfl rfl (by kernel_rfl) (by kernel_rfl) (by kernel_rfl) (by kernel_rfl) (by kernel_rfl) (fun _ _ _ h => h) (by rfl) (fun _ _ => by go_simp) (unhide HQ5) ?_
              simp only [Act.put, List.setIfInBounds_toArray, List.set_cons_zero, List.set_cons_succ]
              refine wpAnyL_take 21 127 (.bool true) [26] rfl rfl (by kernel_rfl) (by kernel_rfl) (by kernel_rfl) (by kernel_rfl) (by kernel_rfl) (fun _ _ _ h => h) (by rfl) (fun _ _ => by go_simp) (unhide HQ5) ?_
              simp only [Act.put, List.setIfInBounds_toArray, List.set_cons_zero, List.set_cons_succ]
              refine wpAnyL_take 22 128 (va.v na ma) [24, 25, 26] rfl rfl (by kernel_rfl) (by kernel_rfl) (by kernel_rfl) (by kernel_rfl) (by kernel_rfl) (fun _ _ _ h => h) (by rfl) (fun W hW => by obtain ⟨e1, e2⟩ := ((unhide HLA).below hW).cells; unfold Sv.v; go_simp) (unhide HQ5) ?_
              simp only [Act.put, List.setIfInBounds_toArray, List.set_cons_zero, List.set_cons_succ]
              refine wpAnyL_take 23 129 (vc.v nc mc) [24, 25, 26] rfl rfl (by kernel_rfl) (by kernel_rfl) (by kernel_rfl) (by kernel_rfl) (by kernel_rfl) (fun _ _ _ h => h) (by rfl) (fun W hW => by obtain ⟨e1, e2⟩ := ((unhide HLC).below hW).cells; unfold Sv.v; go_simp) (unhide HQ5) ?_
              simp only [Act.put, List.setIfInBounds_toArray, List.set_cons_zero, List.set_cons_succ]
              refine wpAnyL_one (i := 24) (by kernel_rfl) rfl (by rfl) fun K hK => ?_
              refine wp_call_fn 19 _ _ (by rfl) #[va.v na ma, vc.v nc mc] (by with_unfolding_all rfl) entBl (some 130) (by rfl) _ (asV (unhide HQac _ (unhide HQ5))) ?_
              rintro _ Q6 ⟨rfl, hbe⟩
              have HQ6 := hide hbe
              clear hbe
              refine hK _ _ (fun _ => unhide HQ6) ?_
              clear hK K
              simp only [Act.put, List.setIfInBounds_toArray, List.set_cons_zero, List.set_cons_succ]
              refine wpAnyL_take 25 131 (.bool false) [26] rfl rfl (by kernel_rfl) (by kernel_rfl) (by kernel_rfl) (by kernel_rfl) (by kernel_rfl) (fun _ _ _ h => h) (by rfl) (fun _ _ => by go_simp) (unhide HQ6) ?_
              simp only [Act.put, List.setIfInBounds_toArray, List.set_cons_zero, List.set_cons_succ]
              refine wpAnyL_take 26 132 (.bool false) [] rfl rfl (by kernel_rfl) (by kernel_rfl) (by kernel_rfl) (by kernel_rfl) (by kernel_rfl) (fun _ _ _ h => h) (by rfl) (fun _ _ => by go_simp) (unhide HQ6) ?_
              simp only [Act.put, List.setIfInBounds_toArray, List.set_cons_zero, List.set_cons_succ]
              refine wpAnyL_one (i := 27) (by kernel_rfl) rfl (by rfl) fun K hK => ?_
              refine wp_val (.bool false) (by go_simp) (some 133) (by rfl) ?_
              refine hK _ _ (fun _ => unhide HQ6) ?_
              clear hK K
              simp only [Act.put, List.setIfInBounds_toArray, List.set_cons_zero, List.set_cons_succ]
              refine wpAnyL_done (by kernel_rfl) ?_ _
              go_wp2_with fail
              go_meet
              exact ⟨rfl, unhide HQ6⟩
        case rest =>
          obtain ⟨rfl, HC0⟩ := hcut
          clear c0A c1A c0B c1B c0C c1C c0D c1D
          replace HLA := hide ((unhide HLA).below (unhide HC0))
          replace HLB := hide ((unhide HLB).below (unhide HC0))
          replace HLC := hide ((unhide HLC).below (unhide HC0))
          replace HLD := hide ((unhide HLD).below (unhide HC0))
          replace HBU : Hid (Below N u wc) := (unhide HBU).trans ((unhide HC0).mono (unhide HNW))
          replace HNW : Hid (N ≤ wc.heap.size) := Nat.le_trans (unhide HNW) (unhide HC0).size
          obtain ⟨c0A, c1A⟩ := (unhide HLA).cells
          obtain ⟨c0B, c1B⟩ := (unhide HLB).cells
          obtain ⟨c0C, c1C⟩ := (unhide HLC).cells
          obtain ⟨c0D, c1D⟩ := (unhide HLD).cells
          clear HC0
          generalize hwc : wc = G0 at *
          clear hwc
          clear HPAB HTRA
          rcases unhide HJC with ⟨hj, hr, hok⟩ | ⟨hj, hr⟩
          · have HJE := hide hj
            have HOJ := hide hok
            subst hr
            clear hj hok HJC
            go_upto_region 20 with fail
            go_cut [161] (fun s161 wx => s161 = .bool false ∧ Hid (Below G0.heap.size G0 wx))
            case first =>
              have HQv := hide (kvValid true (sokB_true.2 (unhide HOJ)) (unhide HLD).toSx)
              have HQad := hide (kvBelow true (sbelB_iff.2 ⟨unhide HOA, unhide HOJ, by rw [unhide HJE]; exact sbel_jn_l (unhide HOA).toSV (unhide HOB).toSV⟩) (unhide HLA).toSx (unhide HLD).toSx)
              have HQbd := hide (kvBelow true (sbelB_iff.2 ⟨unhide HOB, unhide HOJ, by rw [unhide HJE]; exact sbel_jn_r (unhide HOA).toSV (unhide HOB).toSV⟩) (unhide HLB).toSx (unhide HLD).toSx)
              have HQab := hide (kvBelow _ rfl (unhide HLA).toSx (unhide HLB).toSx)
              have HEQ : Hid (sameB J b = sbelB a b) := by
                show sameB J b = sbelB a b
                rw [Bool.eq_iff_iff, sameB_iff, sbelB_iff, unhide HJE, jnS_eq_iff (unhide HOA).toSV (unhide HOB).toSV]
                exact ⟨fun h => ⟨unhide HOA, unhide HOB, h⟩, fun h => h.2.2⟩
              have HQdb := hide (kvSame _ (unhide HEQ) (unhide HLD).toSx (unhide HLB).toSx)
              clear HEQ c0A c1A c0B c1B c0C c1C c0D c1D
              generalize sbelB a b = q at *
              refine wp_region_last (fun W => Below G0.heap.size G0 W) 23 hmix (belowDrew (Below.refl _ _)) fun hS => ?_
              generalize G0.drew = X0 at hS ⊢
              refine wpAnyL_take 0 138 (vD.v nD mD) [1, 3, 6, 9, 12, 15] rfl rfl (by kernel_rfl) (by kernel_rfl) (by kernel_rfl) (by kernel_rfl) (by kernel_rfl) (fun _ _ _ h => h) (by rfl) (fun W hW => by obtain ⟨e1, e2⟩ := ((unhide HLD).below hW).cells; unfold Sv.v; go_simp) hS ?_
              simp only [Act.put, List.setIfInBounds_toArray, List.set_cons_zero, List.set_cons_succ]
              refine wpAnyL_one (i := 1) (by kernel_rfl) rfl (by rfl) fun K hK => ?_
              refine wp_call_fn 15 _ _ (by rfl) #[vD.v nD mD] (by with_unfolding_all rfl) entVl (some 139) (by rfl) _ (asV (unhide HQv _ hS)) ?_
              rintro _ Q1 ⟨rfl, hbe⟩
              have HQ1 := hide hbe
              clear hbe
              refine hK _ _ (fun _ => unhide HQ1) ?_
              clear hK K
              simp only [Act.put, List.setIfInBounds_toArray, List.set_cons_zero, List.set_cons_succ]
              refine wpAnyL_take 2 140 (.bool false) [3, 6, 9, 12, 15] rfl rfl (by kernel_rfl) (by kernel_rfl) (by kernel_rfl) (by kernel_rfl) (by kernel_rfl) (fun _ _ _ h => h) (by rfl) (fun _ _ => by go_simp) (unhide HQ1) ?_
              simp only [Act.put, List.setIfInBounds_toArray, List.set_cons_zero, List.set_cons_succ]
              refine wpAnyL_take 3 141 (.bool false) [6, 9, 12, 15] rfl rfl (by kernel_rfl) (by kernel_rfl) (by kernel_rfl) (by kernel_rfl) (by kernel_rfl) (fun _ _ _ h => h) (by rfl) (fun _ _ => by go_simp) (unhide HQ1) ?_
              simp only [Act.put, List.setIfInBounds_toArray, List.set_cons_zero, List.set_cons_succ]
              refine wpAnyL_take 4 142 (va.v na ma) [6, 9, 12, 15] rfl rfl (by kernel_rfl) (by kernel_rfl) (by kernel_rfl) (by kernel_rfl) (by kernel_rfl) (fun _ _ _ h => h) (by rfl) (fun W hW => by obtain ⟨e1, e2⟩ := ((unhide HLA).below hW).cells; unfold Sv.v; go_simp) (unhide HQ1) ?_
              simp only [Act.put, List.setIfInBounds_toArray, List.set_cons_zero, List.set_cons_succ]
              refine wpAnyL_take 5 143 (vD.v nD mD) [6, 9, 12, 15] rfl rfl (by kernel_rfl) (by kernel_rfl) (by kernel_rfl) (by kernel_rfl) (by kernel_rfl) (fun _ _ _ h => h) (by rfl) (fun W hW => by obtain ⟨e1, e2⟩ := ((unhide HLD).below hW).cells; unfold Sv.v; go_simp) (unhide HQ1) ?_
              simp only [Act.put, List.setIfInBounds_toArray, List.set_cons_zero, List.set_cons_succ]
              refine wpAnyL_one (i := 6) (by kernel_rfl) rfl (by rfl) fun K hK => ?_
              refine wp_call_fn 19 _ _ (by rfl) #[va.v na ma, vD.v nD mD] (by with_unfolding_all rfl) entBl (some 144) (by rfl) _ (asV (unhide HQad _ (unhide HQ1))) ?_
              rintro _ Q2 ⟨rfl, hbe⟩
              have HQ2 := hide hbe
              clear hbe
              refine hK _ _ (fun _ => unhide HQ2) ?_
              clear hK K
              simp only [Act.put, List.setIfInBounds_toArray, List.set_cons_zero, List.set_cons_succ]
              refine wpAnyL_take 7 145 (.bool false) [8, 9, 12, 15] rfl rfl (by kernel_rfl) (by kernel_rfl) (by kernel_rfl) (by kernel_rfl) (by kernel_rfl) (fun _ _ _ h => h) (by rfl) (fun _ _ => by go_simp) (unhide HQ2) ?_
              simp only [Act.put, List.setIfInBounds_toArray, List.set_cons_zero, List.set_cons_succ]
              refine wpAnyL_take 8 146 (.bool false) [9, 12, 15] rfl rfl (by kernel_rfl) (by kernel_rfl) (by kernel_rfl) (by kernel_rfl) (by kernel_rfl) (fun _ _ _ h => h) (by rfl) (fun _ _ => by go_simp) (unhide HQ2) ?_
              simp only [Act.put, List.setIfInBounds_toArray, List.set_cons_zero, List.set_cons_succ]
              refine wpAnyL_take 9 147 (.bool false) [12, 15] rfl rfl (by kernel_rfl) (by kernel_rfl) (by kernel_rfl) (by kernel_rfl) (by kernel_rfl) (fun _ _ _ h => h) (by rfl) (fun _ _ => by go_simp) (unhide HQ2) ?_
              simp only [Act.put, List.setIfInBounds_toArray, List.set_cons_zero, List.set_cons_succ]
              refine wpAnyL_take 10 148 (vb.v nb mb) [12, 15] rfl rfl (by kernel_rfl) (by kernel_rfl) (by kernel_rfl) (by kernel_rfl) (by kernel_rfl) (fun _ _ _ h => h) (by rfl) (fun W hW => by obtain ⟨e1, e2⟩ := ((unhide HLB).below hW).cells; unfold Sv.v; go_simp) (unhide HQ2) ?_
              simp only [Act.put, List.setIfInBounds_toArray, List.set_cons_zero, List.set_cons_succ]
              refine wpAnyL_take 11 149 (vD.v nD mD) [12, 15] rfl rfl (by kernel_rfl) (by kernel_rfl) (by kernel_rfl) (by kernel_rfl) (by kernel_rfl) (fun _ _ _ h => h) (by rfl) (fun W hW => by obtain ⟨e1, e2⟩ := ((unhide HLD).below hW).cells; unfold Sv.v; go_simp) (unhide HQ2) ?_
              simp only [Act.put, List.setIfInBounds_toArray, List.set_cons_zero, List.set_cons_succ]
              refine wpAnyL_one (i := 12) (by kernel_rfl) rfl (by rfl) fun K hK => ?_
              refine wp_call_fn 19 _ _ (by rfl) #[vb.v nb mb, vD.v nD mD] (by with_unfolding_all rfl) entBl (some 150) (by rfl) _ (asV (unhide HQbd _ (unhide HQ2))) ?_
              rintro _ Q3 ⟨rfl, hbe⟩
              have HQ3 := hide hbe
              clear hbe
              refine hK _ _ (fun _ => unhide HQ3) ?_
              clear hK K
              simp only [Act.put, List.setIfInBounds_toArray, List.set_cons_zero, List.set_cons_succ]
              refine wpAnyL_take 13 151 (.bool false) [14, 15] rfl rfl (by kernel_rfl) (by kernel_rfl) (by kernel_rfl) (by kernel_rfl) (by kernel_rfl) (fun _ _ _ h => h) (by rfl) (fun _ _ => by go_simp) (unhide HQ3) ?_
              simp only [Act.put, List.setIfInBounds_toArray, List.set_cons_zero, List.set_cons_succ]
              refine wpAnyL_take 14 152 (.bool false) [15] rfl rfl (by kernel_rfl) (by kernel_rfl) (by kernel_rfl) (by kernel_rfl) (by kernel_rfl) (fun _ _ _ h => h) (by rfl) (fun _ _ => by go_simp) (unhide HQ3) ?_
              simp only [Act.put, List.setIfInBounds_toArray, List.set_cons_zero, List.set_cons_succ]
              refine wpAnyL_take 15 153 (.bool false) [] rfl rfl (by kernel_rfl) (by kernel_rfl) (by kernel_rfl) (by kernel_rfl) (by kernel_rfl) (fun _ _ _ h => h) (by rfl) (fun _ _ => by go_simp) (unhide HQ3) ?_
              simp only [Act.put, List.setIfInBounds_toArray, List.set_cons_zero, List.set_cons_succ]
              refine wpAnyL_take 16 154 (va.v na ma) [18, 22] rfl rfl (by kernel_rfl) (by kernel_rfl) (by kernel_rfl) (by kernel_rfl) (by kernel_rfl) (fun _ _ _ h => h) (by rfl) (fun W hW => by obtain ⟨e1, e2⟩ := ((unhide HLA).below hW).cells; unfold Sv.v; go_simp) (unhide HQ3) ?_
              simp only [Act.put, List.setIfInBounds_toArray, List.set_cons_zero, List.set_cons_succ]
              refine wpAnyL_take 17 155 (vb.v nb mb) [18, 22] rfl rfl (by kernel_rfl) (by kernel_rfl) (by kernel_rfl) (by kernel_rfl) (by kernel_rfl) (fun _ _ _ h => h) (by rfl) (fun W hW => by obtain ⟨e1, e2⟩ := ((unhide HLB).below hW).cells; unfold Sv.v; go_simp) (unhide HQ3) ?_
              simp only [Act.put, List.setIfInBounds_toArray, List.set_cons_zero, List.set_cons_succ]
              refine wpAnyL_take 19 157 (vD.v nD mD) [21, 22] rfl rfl (by kernel_rfl) (by kernel_rfl) (by kernel_rfl) (by kernel_rfl) (by kernel_rfl) (fun _ _ _ h => h) (by rfl) (fun W hW => by obtain ⟨e1, e2⟩ := ((unhide HLD).below hW).cells; unfold Sv.v; go_simp) (unhide HQ3) ?_
              simp only [Act.put, List.setIfInBounds_toArray, List.set_cons_zero, List.set_cons_succ]
              refine wpAnyL_take 20 158 (vb.v nb mb) [21, 22] rfl rfl (by kernel_rfl) (by kernel_rfl) (by kernel_rfl) (by kernel_rfl) (by kernel_rfl) (fun _ _ _ h => h) (by rfl) (fun W hW => by obtain ⟨e1, e2⟩ := ((unhide HLB).below hW).cells; unfold Sv.v; go_simp) (unhide HQ3) ?_
              simp only [Act.put, List.setIfInBounds_toArray, List.set_cons_zero, List.set_cons_succ]
              refine wpAnyL_one (i := 18) (by kernel_rfl) rfl (by rfl) fun K hK => ?_
              refine wp_call_fn 19 _ _ (by rfl) #[va.v na ma, vb.v nb mb] (by with_unfolding_all rfl) entBl (some 156) (by rfl) _ (asV (unhide HQab _ (unhide HQ3))) ?_
              rintro _ Q4 ⟨rfl, hbe⟩
              have HQ4 := hide hbe
              clear hbe
              refine hK _ _ (fun _ => unhide HQ4) ?_
              clear hK K
              simp only [Act.put, List.setIfInBounds_toArray, List.set_cons_zero, List.set_cons_succ]
              refine wpAnyL_one (i := 21) (by kernel_rfl) rfl (by rfl) fun K hK => ?_
              refine wp_call_fn 17 _ _ (by rfl) #[vD.v nD mD, vb.v nb mb] (by with_unfolding_all rfl) entSm (some 159) (by rfl) _ (asV (unhide HQdb _ (unhide HQ4))) ?_
              rintro _ Q5 ⟨rfl, hbe⟩
              have HQ5 := hide hbe
              clear hbe
              refine hK _ _ (fun _ => unhide HQ5) ?_
              clear hK K
              simp only [Act.put, List.setIfInBounds_toArray, List.set_cons_zero, List.set_cons_succ]
              refine wpAnyL_take 22 160 (.bool false) [] rfl rfl (by kernel_rfl) (by kernel_rfl) (by kernel_rfl) (by kernel_rfl) (by kernel_rfl) (fun _ _ _ h => h) (by rfl) (fun _ _ => by go_simp) (unhide HQ5) ?_
              simp only [Act.put, List.setIfInBounds_toArray, List.set_cons_zero, List.set_cons_succ]
              refine wpAnyL_one (i := 23) (by kernel_rfl) rfl (by rfl) fun K hK => ?_
              refine wp_val (.bool false) (by go_simp) (some 161) (by rfl) ?_
              refine hK _ _ (fun _ => unhide HQ5) ?_
              clear hK K
              simp only [Act.put, List.setIfInBounds_toArray, List.set_cons_zero, List.set_cons_succ]
              refine wpAnyL_done (by kernel_rfl) ?_ _
              go_wp2_with fail
              go_meet
              exact ⟨rfl, unhide HQ5⟩
            case rest =>
              obtain ⟨rfl, HC0⟩ := hcut
              clear c0A c1A c0B c1B c0C c1C c0D c1D
              replace HLA := hide ((unhide HLA).below (unhide HC0))
              replace HLB := hide ((unhide HLB).below (unhide HC0))
              replace HLC := hide ((unhide HLC).below (unhide HC0))
              replace HLD := hide ((unhide HLD).below (unhide HC0))
              replace HBU : Hid (Below N u wc) := (unhide HBU).trans ((unhide HC0).mono (unhide HNW))
              replace HNW : Hid (N ≤ wc.heap.size) := Nat.le_trans (unhide HNW) (unhide HC0).size
              obtain ⟨c0A, c1A⟩ := (unhide HLA).cells
              obtain ⟨c0B, c1B⟩ := (unhide HLB).cells
              obtain ⟨c0C, c1C⟩ := (unhide HLC).cells
              obtain ⟨c0D, c1D⟩ := (unhide HLD).cells
              clear HC0
              generalize hwc : wc = G1 at *
              clear hwc
              go_upto_region 22 with fail
              go_cut [175] (fun s175 wx => s175 = .bool false ∧ Hid (Below G1.heap.size G1 wx))
              case first =>
                have HBF : Hid (Below G1.heap.size G1 G1) := Below.refl _ _
                cases hac : sbelB a c with
                | false =>
                  have HQ1 := hide hac
                  clear hac
                  go_wp2_with (first
                    | (go_at_call 19; refine (kvBelow false (unhide HQ1) (unhide HLA).toSx (unhide HLC).toSx G1 (Below.refl _ _)).mono ?_; rintro e P1 ⟨rfl, hbx⟩; clear c0A c1A c0B c1B c0C c1C c0D c1D; replace HLA := hide ((unhide HLA).below hbx); replace HLB := hide ((unhide HLB).below hbx); replace HLC := hide ((unhide HLC).below hbx); replace HLD := hide ((unhide HLD).below hbx); replace HBF : Hid (Below G1.heap.size G1 P1) := (unhide HBF).trans (hbx.mono (unhide HBF).size); clear hbx HQ1; obtain ⟨c0A, c1A⟩ := (unhide HLA).cells; obtain ⟨c0B, c1B⟩ := (unhide HLB).cells; obtain ⟨c0C, c1C⟩ := (unhide HLC).cells; obtain ⟨c0D, c1D⟩ := (unhide HLD).cells; )
                    | fail)
                  go_meet
                  exact ⟨rfl, unhide HBF⟩
                | true =>
                  cases hbc : sbelB b c with
                  | false =>
                    have HQ1 := hide hac
                    have HQ2 := hide hbc
                    clear hac hbc
                    go_wp2_with (first
                      | (go_at_call 19; refine (kvBelow true (unhide HQ1) (unhide HLA).toSx (unhide HLC).toSx G1 (Below.refl _ _)).mono ?_; rintro e P1 ⟨rfl, hbx⟩; clear c0A c1A c0B c1B c0C c1C c0D c1D; replace HLA := hide ((unhide HLA).below hbx); replace HLB := hide ((unhide HLB).below hbx); replace HLC := hide ((unhide HLC).below hbx); replace HLD := hide ((unhide HLD).below hbx); replace HBF : Hid (Below G1.heap.size G1 P1) := (unhide HBF).trans (hbx.mono (unhide HBF).size); clear hbx HQ1; obtain ⟨c0A, c1A⟩ := (unhide HLA).cells; obtain ⟨c0B, c1B⟩ := (unhide HLB).cells; obtain ⟨c0C, c1C⟩ := (unhide HLC).cells; obtain ⟨c0D, c1D⟩ := (unhide HLD).cells; )
                      | (go_at_call 19; refine (kvBelow false (unhide HQ2) (unhide HLB).toSx (unhide HLC).toSx P1 (Below.refl _ _)).mono ?_; rintro e P2 ⟨rfl, hbx⟩; clear c0A c1A c0B c1B c0C c1C c0D c1D; replace HLA := hide ((unhide HLA).below hbx); replace HLB := hide ((unhide HLB).below hbx); replace HLC := hide ((unhide HLC).below hbx); replace HLD := hide ((unhide HLD).below hbx); replace HBF : Hid (Below G1.heap.size G1 P2) := (unhide HBF).trans (hbx.mono (unhide HBF).size); clear hbx HQ2; obtain ⟨c0A, c1A⟩ := (unhide HLA).cells; obtain ⟨c0B, c1B⟩ := (unhide HLB).cells; obtain ⟨c0C, c1C⟩ := (unhide HLC).cells; obtain ⟨c0D, c1D⟩ := (unhide HLD).cells; )
                      | fail)
                    go_meet
                    exact ⟨rfl, unhide HBF⟩
                  | true =>
                    have HQ3 : Hid (sbelB J c = true) := by
                      obtain ⟨h1, h2, h3⟩ := sbelB_iff.1 hac
                      obtain ⟨h4, _, h6⟩ := sbelB_iff.1 hbc
                      exact sbelB_iff.2 ⟨unhide HOJ, h2, by rw [unhide HJE]; exact jn_sbel h1.toSV h4.toSV h3 h6⟩
                    have HQ1 := hide hac
                    have HQ2 := hide hbc
                    clear hac hbc
                    go_wp2_with (first
                      | (go_at_call 19; refine (kvBelow true (unhide HQ1) (unhide HLA).toSx (unhide HLC).toSx G1 (Below.refl _ _)).mono ?_; rintro e P1 ⟨rfl, hbx⟩; clear c0A c1A c0B c1B c0C c1C c0D c1D; replace HLA := hide ((unhide HLA).below hbx); replace HLB := hide ((unhide HLB).below hbx); replace HLC := hide ((unhide HLC).below hbx); replace HLD := hide ((unhide HLD).below hbx); replace HBF : Hid (Below G1.heap.size G1 P1) := (unhide HBF).trans (hbx.mono (unhide HBF).size); clear hbx HQ1; obtain ⟨c0A, c1A⟩ := (unhide HLA).cells; obtain ⟨c0B, c1B⟩ := (unhide HLB).cells; obtain ⟨c0C, c1C⟩ := (unhide HLC).cells; obtain ⟨c0D, c1D⟩ := (unhide HLD).cells; )
                      | (go_at_call 19; refine (kvBelow true (unhide HQ2) (unhide HLB).toSx (unhide HLC).toSx P1 (Below.refl _ _)).mono ?_; rintro e P2 ⟨rfl, hbx⟩; clear c0A c1A c0B c1B c0C c1C c0D c1D; replace HLA := hide ((unhide HLA).below hbx); replace HLB := hide ((unhide HLB).below hbx); replace HLC := hide ((unhide HLC).below hbx); replace HLD := hide ((unhide HLD).below hbx); replace HBF : Hid (Below G1.heap.size G1 P2) := (unhide HBF).trans (hbx.mono (unhide HBF).size); clear hbx HQ2; obtain ⟨c0A, c1A⟩ := (unhide HLA).cells; obtain ⟨c0B, c1B⟩ := (unhide HLB).cells; obtain ⟨c0C, c1C⟩ := (unhide HLC).cells; obtain ⟨c0D, c1D⟩ := (unhide HLD).cells; )
                      | (go_at_call 19; refine (kvBelow true (unhide HQ3) (unhide HLD).toSx (unhide HLC).toSx P2 (Below.refl _ _)).mono ?_; rintro e P3 ⟨rfl, hbx⟩; clear c0A c1A c0B c1B c0C c1C c0D c1D; replace HLA := hide ((unhide HLA).below hbx); replace HLB := hide ((unhide HLB).below hbx); replace HLC := hide ((unhide HLC).below hbx); replace HLD := hide ((unhide HLD).below hbx); replace HBF : Hid (Below G1.heap.size G1 P3) := (unhide HBF).trans (hbx.mono (unhide HBF).size); clear hbx HQ3; obtain ⟨c0A, c1A⟩ := (unhide HLA).cells; obtain ⟨c0B, c1B⟩ := (unhide HLB).cells; obtain ⟨c0C, c1C⟩ := (unhide HLC).cells; obtain ⟨c0D, c1D⟩ := (unhide HLD).cells; )
                      | fail)
                    go_meet
                    exact ⟨rfl, unhide HBF⟩
              case rest =>
                obtain ⟨rfl, HC0⟩ := hcut
                clear c0A c1A c0B c1B c0C c1C c0D c1D
                replace HLA := hide ((unhide HLA).below (unhide HC0))
                replace HLB := hide ((unhide HLB).below (unhide HC0))
                replace HLC := hide ((unhide HLC).below (unhide HC0))
                replace HLD := hide ((unhide HLD).below (unhide HC0))
                replace HBU : Hid (Below N u wc) := (unhide HBU).trans ((unhide HC0).mono (unhide HNW))
                replace HNW : Hid (N ≤ wc.heap.size) := Nat.le_trans (unhide HNW) (unhide HC0).size
                obtain ⟨c0A, c1A⟩ := (unhide HLA).cells
                obtain ⟨c0B, c1B⟩ := (unhide HLB).cells
                obtain ⟨c0C, c1C⟩ := (unhide HLC).cells
                obtain ⟨c0D, c1D⟩ := (unhide HLD).cells
                clear HC0
                generalize hwc : wc = G2 at *
                clear hwc
                rcases join_cases (unhide HOJ) (unhide HOC) with ⟨h1, ok1⟩ | h1
                · rcases join_cases (unhide HOB) (unhide HOC) with ⟨h2, ok2⟩ | h2
                  · have HJ1 := hide h1
                    have HJ2 := hide h2
                    rcases join_cases (unhide HOA) ok2 with ⟨h3, ok3⟩ | h3
                    · have HJ3 := hide h3
                      have HEQ : Hid (sameB (jnS J c) (jnS a (jnS b c)) = true) := sameB_iff.2 (by rw [unhide HJE]; exact jnS_assoc (unhide HOA).toSV (unhide HOB).toSV (unhide HOC).toSV)
                      clear h1 h2 h3 ok1 ok2 ok3
                      go_upto_region 25 with (first
                        | (go_at_call 26; refine (kvJoin _ _ (unhide HJ1) (unhide HLD).toSx (unhide HLC).toSx).mono ?_; rintro e G1 ⟨vG, nG, mG, rfl, hsx, hbx⟩; clear c0A c1A c0B c1B c0C c1C c0D c1D; replace HLA := hide ((unhide HLA).below hbx); replace HLB := hide ((unhide HLB).below hbx); replace HLC := hide ((unhide HLC).below hbx); replace HLD := hide ((unhide HLD).below hbx); replace HBU : Hid (Below N u G1) := (unhide HBU).trans (hbx.mono (unhide HNW)); replace HNW : Hid (N ≤ G1.heap.size) := Nat.le_trans (unhide HNW) hbx.size; have HSJ := hide hsx; clear hsx hbx; obtain ⟨KG, hK⟩ : ∃ k, k = G1.heap.size := ⟨_, rfl⟩; have HK := hide hK; clear hK)
                        | ((with_reducible refine wpList_alloc_state (by rfl) (by rfl) (some 15) (by rfl) KG (unhide HK) ?_); intro G2 HX2 HB2 HS2; simp only [Act.put, List.setIfInBounds_toArray, List.set_cons_zero, List.set_cons_succ])
                        | ((with_reducible refine wpList_store_state (by rfl) (.tmp 15) (.tmp 180) (by rfl) KG vG nG mG (by with_unfolding_all rfl) (by with_unfolding_all rfl) Sv.none 0 0 (unhide HX2) ?_); intro G3 HX3 HE3; simp only [Act.put]; have hbx : Below G1.heap.size G1 G3 := (by rw [unhide HE3, ← unhide HK]; exact belowRow (unhide HB2) (Nat.le_refl _) _); replace HLA := hide ((unhide HLA).below hbx); replace HLB := hide ((unhide HLB).below hbx); replace HLC := hide ((unhide HLC).below hbx); replace HLD := hide ((unhide HLD).below hbx); replace HBU : Hid (Below N u G3) := (unhide HBU).trans (hbx.mono (unhide HNW)); replace HNW : Hid (N ≤ G3.heap.size) := Nat.le_trans (unhide HNW) hbx.size; have HLG : Hid (Lv G3 KG (jnS J c) vG nG mG) := ⟨(unhide HSJ).below hbx, unhide HX3⟩; clear hbx HSJ HX2 HB2 HS2 HX3 HE3 HK; obtain ⟨c0A, c1A⟩ := (unhide HLA).cells; obtain ⟨c0B, c1B⟩ := (unhide HLB).cells; obtain ⟨c0C, c1C⟩ := (unhide HLC).cells; obtain ⟨c0D, c1D⟩ := (unhide HLD).cells; obtain ⟨c0G, c1G⟩ := (unhide HLG).cells; )
                        | fail)
                      go_upto_region 26 with (first
                        | (go_at_call 26; refine (kvJoin _ _ (unhide HJ2) (unhide HLB).toSx (unhide HLC).toSx).mono ?_; rintro e H1 ⟨vH, nH, mH, rfl, hsx, hbx⟩; clear c0A c1A c0B c1B c0C c1C c0D c1D c0G c1G; replace HLA := hide ((unhide HLA).below hbx); replace HLB := hide ((unhide HLB).below hbx); replace HLC := hide ((unhide HLC).below hbx); replace HLD := hide ((unhide HLD).below hbx); replace HLG := hide ((unhide HLG).below hbx); replace HBU : Hid (Below N u H1) := (unhide HBU).trans (hbx.mono (unhide HNW)); replace HNW : Hid (N ≤ H1.heap.size) := Nat.le_trans (unhide HNW) hbx.size; have HSJ := hide hsx; clear hsx hbx; obtain ⟨KH, hK⟩ : ∃ k, k = H1.heap.size := ⟨_, rfl⟩; have HK := hide hK; clear hK)
                        | ((with_reducible refine wpList_alloc_state (by rfl) (by rfl) (some 16) (by rfl) KH (unhide HK) ?_); intro H2 HX2 HB2 HS2; simp only [Act.put, List.setIfInBounds_toArray, List.set_cons_zero, List.set_cons_succ])
                        | ((with_reducible refine wpList_store_state (by rfl) (.tmp 16) (.tmp 186) (by rfl) KH vH nH mH (by with_unfolding_all rfl) (by with_unfolding_all rfl) Sv.none 0 0 (unhide HX2) ?_); intro H3 HX3 HE3; simp only [Act.put]; have hbx : Below H1.heap.size H1 H3 := (by rw [unhide HE3, ← unhide HK]; exact belowRow (unhide HB2) (Nat.le_refl _) _); replace HLA := hide ((unhide HLA).below hbx); replace HLB := hide ((unhide HLB).below hbx); replace HLC := hide ((unhide HLC).below hbx); replace HLD := hide ((unhide HLD).below hbx); replace HLG := hide ((unhide HLG).below hbx); replace HBU : Hid (Below N u H3) := (unhide HBU).trans (hbx.mono (unhide HNW)); replace HNW : Hid (N ≤ H3.heap.size) := Nat.le_trans (unhide HNW) hbx.size; have HLH : Hid (Lv H3 KH (jnS b c) vH nH mH) := ⟨(unhide HSJ).below hbx, unhide HX3⟩; clear hbx HSJ HX2 HB2 HS2 HX3 HE3 HK; obtain ⟨c0A, c1A⟩ := (unhide HLA).cells; obtain ⟨c0B, c1B⟩ := (unhide HLB).cells; obtain ⟨c0C, c1C⟩ := (unhide HLC).cells; obtain ⟨c0D, c1D⟩ := (unhide HLD).cells; obtain ⟨c0G, c1G⟩ := (unhide HLG).cells; obtain ⟨c0H, c1H⟩ := (unhide HLH).cells; )
                        | fail)
                      go_upto_region 29 with (first
                        | (go_at_call 26; refine (kvJoin _ _ (unhide HJ3) (unhide HLA).toSx (unhide HLH).toSx).mono ?_; rintro e I1 ⟨vI, nI, mI, rfl, hsx, hbx⟩; clear c0A c1A c0B c1B c0C c1C c0D c1D c0G c1G c0H c1H; replace HLA := hide ((unhide HLA).below hbx); replace HLB := hide ((unhide HLB).below hbx); replace HLC := hide ((unhide HLC).below hbx); replace HLD := hide ((unhide HLD).below hbx); replace HLG := hide ((unhide HLG).below hbx); replace HLH := hide ((unhide HLH).below hbx); replace HBU : Hid (Below N u I1) := (unhide HBU).trans (hbx.mono (unhide HNW)); replace HNW : Hid (N ≤ I1.heap.size) := Nat.le_trans (unhide HNW) hbx.size; have HSJ := hide hsx; clear hsx hbx; obtain ⟨KI, hK⟩ : ∃ k, k = I1.heap.size := ⟨_, rfl⟩; have HK := hide hK; clear hK)
                        | ((with_reducible refine wpList_alloc_state (by rfl) (by rfl) (some 17) (by rfl) KI (unhide HK) ?_); intro I2 HX2 HB2 HS2; simp only [Act.put, List.setIfInBounds_toArray, List.set_cons_zero, List.set_cons_succ])
                        | ((with_reducible refine wpList_store_state (by rfl) (.tmp 17) (.tmp 198) (by rfl) KI vI nI mI (by with_unfolding_all rfl) (by with_unfolding_all rfl) Sv.none 0 0 (unhide HX2) ?_); intro I3 HX3 HE3; simp only [Act.put]; have hbx : Below I1.heap.size I1 I3 := (by rw [unhide HE3, ← unhide HK]; exact belowRow (unhide HB2) (Nat.le_refl _) _); replace HLA := hide ((unhide HLA).below hbx); replace HLB := hide ((unhide HLB).below hbx); replace HLC := hide ((unhide HLC).below hbx); replace HLD := hide ((unhide HLD).below hbx); replace HLG := hide ((unhide HLG).below hbx); replace HLH := hide ((unhide HLH).below hbx); replace HBU : Hid (Below N u I3) := (unhide HBU).trans (hbx.mono (unhide HNW)); replace HNW : Hid (N ≤ I3.heap.size) := Nat.le_trans (unhide HNW) hbx.size; have HLI : Hid (Lv I3 KI (jnS a (jnS b c)) vI nI mI) := ⟨(unhide HSJ).below hbx, unhide HX3⟩; clear hbx HSJ HX2 HB2 HS2 HX3 HE3 HK; obtain ⟨c0A, c1A⟩ := (unhide HLA).cells; obtain ⟨c0B, c1B⟩ := (unhide HLB).cells; obtain ⟨c0C, c1C⟩ := (unhide HLC).cells; obtain ⟨c0D, c1D⟩ := (unhide HLD).cells; obtain ⟨c0G, c1G⟩ := (unhide HLG).cells; obtain ⟨c0H, c1H⟩ := (unhide HLH).cells; obtain ⟨c0I, c1I⟩ := (unhide HLI).cells; )
                        | fail)
                      go_wp2_with (first
                        | (go_at_call 17; refine (kvSame true (unhide HEQ) (unhide HLG).toSx (unhide HLI).toSx I3 (Below.refl _ _)).mono ?_; rintro e Z9 ⟨rfl, hbx⟩; clear c0A c1A c0B c1B c0C c1C c0D c1D c0G c1G c0H c1H c0I c1I; replace HLA := hide ((unhide HLA).below hbx); replace HLB := hide ((unhide HLB).below hbx); replace HLC := hide ((unhide HLC).below hbx); replace HLD := hide ((unhide HLD).below hbx); replace HLG := hide ((unhide HLG).below hbx); replace HLH := hide ((unhide HLH).below hbx); replace HLI := hide ((unhide HLI).below hbx); replace HBU : Hid (Below N u Z9) := (unhide HBU).trans (hbx.mono (unhide HNW)); replace HNW : Hid (N ≤ Z9.heap.size) := Nat.le_trans (unhide HNW) hbx.size; clear hbx; obtain ⟨c0A, c1A⟩ := (unhide HLA).cells; obtain ⟨c0B, c1B⟩ := (unhide HLB).cells; obtain ⟨c0C, c1C⟩ := (unhide HLC).cells; obtain ⟨c0D, c1D⟩ := (unhide HLD).cells; obtain ⟨c0G, c1G⟩ := (unhide HLG).cells; obtain ⟨c0H, c1H⟩ := (unhide HLH).cells; obtain ⟨c0I, c1I⟩ := (unhide HLI).cells; )
                        | fail)
                      go_ret
                      exact ⟨rfl, unhide HBU⟩
                    · have HJ3 := hide h3
                      clear h1 h2 h3 ok1 ok2
                      go_upto_region 25 with (first
                        | (go_at_call 26; refine (kvJoin _ _ (unhide HJ1) (unhide HLD).toSx (unhide HLC).toSx).mono ?_; rintro e G1 ⟨vG, nG, mG, rfl, hsx, hbx⟩; clear c0A c1A c0B c1B c0C c1C c0D c1D; replace HLA := hide ((unhide HLA).below hbx); replace HLB := hide ((unhide HLB).below hbx); replace HLC := hide ((unhide HLC).below hbx); replace HLD := hide ((unhide HLD).below hbx); replace HBU : Hid (Below N u G1) := (unhide HBU).trans (hbx.mono (unhide HNW)); replace HNW : Hid (N ≤ G1.heap.size) := Nat.le_trans (unhide HNW) hbx.size; have HSJ := hide hsx; clear hsx hbx; obtain ⟨KG, hK⟩ : ∃ k, k = G1.heap.size := ⟨_, rfl⟩; have HK := hide hK; clear hK)
                        | ((with_reducible refine wpList_alloc_state (by rfl) (by rfl) (some 15) (by rfl) KG (unhide HK) ?_); intro G2 HX2 HB2 HS2; simp only [Act.put, List.setIfInBounds_toArray, List.set_cons_zero, List.set_cons_succ])
                        | ((with_reducible refine wpList_store_state (by rfl) (.tmp 15) (.tmp 180) (by rfl) KG vG nG mG (by with_unfolding_all rfl) (by with_unfolding_all rfl) Sv.none 0 0 (unhide HX2) ?_); intro G3 HX3 HE3; simp only [Act.put]; have hbx : Below G1.heap.size G1 G3 := (by rw [unhide HE3, ← unhide HK]; exact belowRow (unhide HB2) (Nat.le_refl _) _); replace HLA := hide ((unhide HLA).below hbx); replace HLB := hide ((unhide HLB).below hbx); replace HLC := hide ((unhide HLC).below hbx); replace HLD := hide ((unhide HLD).below hbx); replace HBU : Hid (Below N u G3) := (unhide HBU).trans (hbx.mono (unhide HNW)); replace HNW : Hid (N ≤ G3.heap.size) := Nat.le_trans (unhide HNW) hbx.size; have HLG : Hid (Lv G3 KG (jnS J c) vG nG mG) := ⟨(unhide HSJ).below hbx, unhide HX3⟩; clear hbx HSJ HX2 HB2 HS2 HX3 HE3 HK; obtain ⟨c0A, c1A⟩ := (unhide HLA).cells; obtain ⟨c0B, c1B⟩ := (unhide HLB).cells; obtain ⟨c0C, c1C⟩ := (unhide HLC).cells; obtain ⟨c0D, c1D⟩ := (unhide HLD).cells; obtain ⟨c0G, c1G⟩ := (unhide HLG).cells; )
                        | fail)
                      go_upto_region 26 with (first
                        | (go_at_call 26; refine (kvJoin _ _ (unhide HJ2) (unhide HLB).toSx (unhide HLC).toSx).mono ?_; rintro e H1 ⟨vH, nH, mH, rfl, hsx, hbx⟩; clear c0A c1A c0B c1B c0C c1C c0D c1D c0G c1G; replace HLA := hide ((unhide HLA).below hbx); replace HLB := hide ((unhide HLB).below hbx); replace HLC := hide ((unhide HLC).below hbx); replace HLD := hide ((unhide HLD).below hbx); replace HLG := hide ((unhide HLG).below hbx); replace HBU : Hid (Below N u H1) := (unhide HBU).trans (hbx.mono (unhide HNW)); replace HNW : Hid (N ≤ H1.heap.size) := Nat.le_trans (unhide HNW) hbx.size; have HSJ := hide hsx; clear hsx hbx; obtain ⟨KH, hK⟩ : ∃ k, k = H1.heap.size := ⟨_, rfl⟩; have HK := hide hK; clear hK)
                        | ((with_reducible refine wpList_alloc_state (by rfl) (by rfl) (some 16) (by rfl) KH (unhide HK) ?_); intro H2 HX2 HB2 HS2; simp only [Act.put, List.setIfInBounds_toArray, List.set_cons_zero, List.set_cons_succ])
                        | ((with_reducible refine wpList_store_state (by rfl) (.tmp 16) (.tmp 186) (by rfl) KH vH nH mH (by with_unfolding_all rfl) (by with_unfolding_all rfl) Sv.none 0 0 (unhide HX2) ?_); intro H3 HX3 HE3; simp only [Act.put]; have hbx : Below H1.heap.size H1 H3 := (by rw [unhide HE3, ← unhide HK]; exact belowRow (unhide HB2) (Nat.le_refl _) _); replace HLA := hide ((unhide HLA).below hbx); replace HLB := hide ((unhide HLB).below hbx); replace HLC := hide ((unhide HLC).below hbx); replace HLD := hide ((unhide HLD).below hbx); replace HLG := hide ((unhide HLG).below hbx); replace HBU : Hid (Below N u H3) := (unhide HBU).trans (hbx.mono (unhide HNW)); replace HNW : Hid (N ≤ H3.heap.size) := Nat.le_trans (unhide HNW) hbx.size; have HLH : Hid (Lv H3 KH (jnS b c) vH nH mH) := ⟨(unhide HSJ).below hbx, unhide HX3⟩; clear hbx HSJ HX2 HB2 HS2 HX3 HE3 HK; obtain ⟨c0A, c1A⟩ := (unhide HLA).cells; obtain ⟨c0B, c1B⟩ := (unhide HLB).cells; obtain ⟨c0C, c1C⟩ := (unhide HLC).cells; obtain ⟨c0D, c1D⟩ := (unhide HLD).cells; obtain ⟨c0G, c1G⟩ := (unhide HLG).cells; obtain ⟨c0H, c1H⟩ := (unhide HLH).cells; )
                        | fail)
                      go_upto_region 29 with (first
                        | (go_at_call 26; refine (kvJoin _ _ (unhide HJ3) (unhide HLA).toSx (unhide HLH).toSx).mono ?_; rintro e I1 ⟨vI, nI, mI, rfl, hsx, hbx⟩; clear c0A c1A c0B c1B c0C c1C c0D c1D c0G c1G c0H c1H; replace HLA := hide ((unhide HLA).below hbx); replace HLB := hide ((unhide HLB).below hbx); replace HLC := hide ((unhide HLC).below hbx); replace HLD := hide ((unhide HLD).below hbx); replace HLG := hide ((unhide HLG).below hbx); replace HLH := hide ((unhide HLH).below hbx); replace HBU : Hid (Below N u I1) := (unhide HBU).trans (hbx.mono (unhide HNW)); replace HNW : Hid (N ≤ I1.heap.size) := Nat.le_trans (unhide HNW) hbx.size; have HSJ := hide hsx; clear hsx hbx; obtain ⟨KI, hK⟩ : ∃ k, k = I1.heap.size := ⟨_, rfl⟩; have HK := hide hK; clear hK)
                        | ((with_reducible refine wpList_alloc_state (by rfl) (by rfl) (some 17) (by rfl) KI (unhide HK) ?_); intro I2 HX2 HB2 HS2; simp only [Act.put, List.setIfInBounds_toArray, List.set_cons_zero, List.set_cons_succ])
                        | ((with_reducible refine wpList_store_state (by rfl) (.tmp 17) (.tmp 198) (by rfl) KI vI nI mI (by with_unfolding_all rfl) (by with_unfolding_all rfl) Sv.none 0 0 (unhide HX2) ?_); intro I3 HX3 HE3; simp only [Act.put]; have hbx : Below I1.heap.size I1 I3 := (by rw [unhide HE3, ← unhide HK]; exact belowRow (unhide HB2) (Nat.le_refl _) _); replace HLA := hide ((unhide HLA).below hbx); replace HLB := hide ((unhide HLB).below hbx); replace HLC := hide ((unhide HLC).below hbx); replace HLD := hide ((unhide HLD).below hbx); replace HLG := hide ((unhide HLG).below hbx); replace HLH := hide ((unhide HLH).below hbx); replace HBU : Hid (Below N u I3) := (unhide HBU).trans (hbx.mono (unhide HNW)); replace HNW : Hid (N ≤ I3.heap.size) := Nat.le_trans (unhide HNW) hbx.size; have HLI : Hid (Lv I3 KI St.none vI nI mI) := ⟨(unhide HSJ).below hbx, unhide HX3⟩; clear hbx HSJ HX2 HB2 HS2 HX3 HE3 HK; obtain ⟨c0A, c1A⟩ := (unhide HLA).cells; obtain ⟨c0B, c1B⟩ := (unhide HLB).cells; obtain ⟨c0C, c1C⟩ := (unhide HLC).cells; obtain ⟨c0D, c1D⟩ := (unhide HLD).cells; obtain ⟨c0G, c1G⟩ := (unhide HLG).cells; obtain ⟨c0H, c1H⟩ := (unhide HLH).cells; obtain ⟨c0I, c1I⟩ := (unhide HLI).cells; )
                        | fail)
                      go_wp2
                      go_ret
                      exact ⟨rfl, unhide HBU⟩
                  · have HJ1 := hide h1
                    have HJ2 := hide h2
                    clear h1 h2 ok1
                    go_upto_region 25 with (first
                      | (go_at_call 26; refine (kvJoin _ _ (unhide HJ1) (unhide HLD).toSx (unhide HLC).toSx).mono ?_; rintro e G1 ⟨vG, nG, mG, rfl, hsx, hbx⟩; clear c0A c1A c0B c1B c0C c1C c0D c1D; replace HLA := hide ((unhide HLA).below hbx); replace HLB := hide ((unhide HLB).below hbx); replace HLC := hide ((unhide HLC).below hbx); replace HLD := hide ((unhide HLD).below hbx); replace HBU : Hid (Below N u G1) := (unhide HBU).trans (hbx.mono (unhide HNW)); replace HNW : Hid (N ≤ G1.heap.size) := Nat.le_trans (unhide HNW) hbx.size; have HSJ := hide hsx; clear hsx hbx; obtain ⟨KG, hK⟩ : ∃ k, k = G1.heap.size := ⟨_, rfl⟩; have HK := hide hK; clear hK)
                      | ((with_reducible refine wpList_alloc_state (by rfl) (by rfl) (some 15) (by rfl) KG (unhide HK) ?_); intro G2 HX2 HB2 HS2; simp only [Act.put, List.setIfInBounds_toArray, List.set_cons_zero, List.set_cons_succ])
                      | ((with_reducible refine wpList_store_state (by rfl) (.tmp 15) (.tmp 180) (by rfl) KG vG nG mG (by with_unfolding_all rfl) (by with_unfolding_all rfl) Sv.none 0 0 (unhide HX2) ?_); intro G3 HX3 HE3; simp only [Act.put]; have hbx : Below G1.heap.size G1 G3 := (by rw [unhide HE3, ← unhide HK]; exact belowRow (unhide HB2) (Nat.le_refl _) _); replace HLA := hide ((unhide HLA).below hbx); replace HLB := hide ((unhide HLB).below hbx); replace HLC := hide ((unhide HLC).below hbx); replace HLD := hide ((unhide HLD).below hbx); replace HBU : Hid (Below N u G3) := (unhide HBU).trans (hbx.mono (unhide HNW)); replace HNW : Hid (N ≤ G3.heap.size) := Nat.le_trans (unhide HNW) hbx.size; have HLG : Hid (Lv G3 KG (jnS J c) vG nG mG) := ⟨(unhide HSJ).below hbx, unhide HX3⟩; clear hbx HSJ HX2 HB2 HS2 HX3 HE3 HK; obtain ⟨c0A, c1A⟩ := (unhide HLA).cells; obtain ⟨c0B, c1B⟩ := (unhide HLB).cells; obtain ⟨c0C, c1C⟩ := (unhide HLC).cells; obtain ⟨c0D, c1D⟩ := (unhide HLD).cells; obtain ⟨c0G, c1G⟩ := (unhide HLG).cells; )
                      | fail)
                    go_upto_region 26 with (first
                      | (go_at_call 26; refine (kvJoin _ _ (unhide HJ2) (unhide HLB).toSx (unhide HLC).toSx).mono ?_; rintro e H1 ⟨vH, nH, mH, rfl, hsx, hbx⟩; clear c0A c1A c0B c1B c0C c1C c0D c1D c0G c1G; replace HLA := hide ((unhide HLA).below hbx); replace HLB := hide ((unhide HLB).below hbx); replace HLC := hide ((unhide HLC).below hbx); replace HLD := hide ((unhide HLD).below hbx); replace HLG := hide ((unhide HLG).below hbx); replace HBU : Hid (Below N u H1) := (unhide HBU).trans (hbx.mono (unhide HNW)); replace HNW : Hid (N ≤ H1.heap.size) := Nat.le_trans (unhide HNW) hbx.size; have HSJ := hide hsx; clear hsx hbx; obtain ⟨KH, hK⟩ : ∃ k, k = H1.heap.size := ⟨_, rfl⟩; have HK := hide hK; clear hK)
                      | ((with_reducible refine wpList_alloc_state (by rfl) (by rfl) (some 16) (by rfl) KH (unhide HK) ?_); intro H2 HX2 HB2 HS2; simp only [Act.put, List.setIfInBounds_toArray, List.set_cons_zero, List.set_cons_succ])
                      | ((with_reducible refine wpList_store_state (by rfl) (.tmp 16) (.tmp 186) (by rfl) KH vH nH mH (by with_unfolding_all rfl) (by with_unfolding_all rfl) Sv.none 0 0 (unhide HX2) ?_); intro H3 HX3 HE3; simp only [Act.put]; have hbx : Below H1.heap.size H1 H3 := (by rw [unhide HE3, ← unhide HK]; exact belowRow (unhide HB2) (Nat.le_refl _) _); replace HLA := hide ((unhide HLA).below hbx); replace HLB := hide ((unhide HLB).below hbx); replace HLC := hide ((unhide HLC).below hbx); replace HLD := hide ((unhide HLD).below hbx); replace HLG := hide ((unhide HLG).below hbx); replace HBU : Hid (Below N u H3) := (unhide HBU).trans (hbx.mono (unhide HNW)); replace HNW : Hid (N ≤ H3.heap.size) := Nat.le_trans (unhide HNW) hbx.size; have HLH : Hid (Lv H3 KH St.none vH nH mH) := ⟨(unhide HSJ).below hbx, unhide HX3⟩; clear hbx HSJ HX2 HB2 HS2 HX3 HE3 HK; obtain ⟨c0A, c1A⟩ := (unhide HLA).cells; obtain ⟨c0B, c1B⟩ := (unhide HLB).cells; obtain ⟨c0C, c1C⟩ := (unhide HLC).cells; obtain ⟨c0D, c1D⟩ := (unhide HLD).cells; obtain ⟨c0G, c1G⟩ := (unhide HLG).cells; obtain ⟨c0H, c1H⟩ := (unhide HLH).cells; )
                      | fail)
                    go_wp2
                    go_ret
                    exact ⟨rfl, unhide HBU⟩
                · have HJ1 := hide h1
                  obtain ⟨J2, r2, hJ2⟩ : ∃ J r, joinV b c = (J, r) := ⟨_, _, rfl⟩
                  have HJ2 := hide hJ2
                  clear h1 hJ2
                  go_upto_region 25 with (first
                    | (go_at_call 26; refine (kvJoin _ _ (unhide HJ1) (unhide HLD).toSx (unhide HLC).toSx).mono ?_; rintro e G1 ⟨vG, nG, mG, rfl, hsx, hbx⟩; clear c0A c1A c0B c1B c0C c1C c0D c1D; replace HLA := hide ((unhide HLA).below hbx); replace HLB := hide ((unhide HLB).below hbx); replace HLC := hide ((unhide HLC).below hbx); replace HLD := hide ((unhide HLD).below hbx); replace HBU : Hid (Below N u G1) := (unhide HBU).trans (hbx.mono (unhide HNW)); replace HNW : Hid (N ≤ G1.heap.size) := Nat.le_trans (unhide HNW) hbx.size; have HSJ := hide hsx; clear hsx hbx; obtain ⟨KG, hK⟩ : ∃ k, k = G1.heap.size := ⟨_, rfl⟩; have HK := hide hK; clear hK)
                    | ((with_reducible refine wpList_alloc_state (by rfl) (by rfl) (some 15) (by rfl) KG (unhide HK) ?_); intro G2 HX2 HB2 HS2; simp only [Act.put, List.setIfInBounds_toArray, List.set_cons_zero, List.set_cons_succ])
                    | ((with_reducible refine wpList_store_state (by rfl) (.tmp 15) (.tmp 180) (by rfl) KG vG nG mG (by with_unfolding_all rfl) (by with_unfolding_all rfl) Sv.none 0 0 (unhide HX2) ?_); intro G3 HX3 HE3; simp only [Act.put]; have hbx : Below G1.heap.size G1 G3 := (by rw [unhide HE3, ← unhide HK]; exact belowRow (unhide HB2) (Nat.le_refl _) _); replace HLA := hide ((unhide HLA).below hbx); replace HLB := hide ((unhide HLB).below hbx); replace HLC := hide ((unhide HLC).below hbx); replace HLD := hide ((unhide HLD).below hbx); replace HBU : Hid (Below N u G3) := (unhide HBU).trans (hbx.mono (unhide HNW)); replace HNW : Hid (N ≤ G3.heap.size) := Nat.le_trans (unhide HNW) hbx.size; have HLG : Hid (Lv G3 KG St.none vG nG mG) := ⟨(unhide HSJ).below hbx, unhide HX3⟩; clear hbx HSJ HX2 HB2 HS2 HX3 HE3 HK; obtain ⟨c0A, c1A⟩ := (unhide HLA).cells; obtain ⟨c0B, c1B⟩ := (unhide HLB).cells; obtain ⟨c0C, c1C⟩ := (unhide HLC).cells; obtain ⟨c0D, c1D⟩ := (unhide HLD).cells; obtain ⟨c0G, c1G⟩ := (unhide HLG).cells; )
                    | fail)
                  go_upto_region 26 with (first
                    | (go_at_call 26; refine (kvJoin _ _ (unhide HJ2) (unhide HLB).toSx (unhide HLC).toSx).mono ?_; rintro e H1 ⟨vH, nH, mH, rfl, hsx, hbx⟩; clear c0A c1A c0B c1B c0C c1C c0D c1D c0G c1G; replace HLA := hide ((unhide HLA).below hbx); replace HLB := hide ((unhide HLB).below hbx); replace HLC := hide ((unhide HLC).below hbx); replace HLD := hide ((unhide HLD).below hbx); replace HLG := hide ((unhide HLG).below hbx); replace HBU : Hid (Below N u H1) := (unhide HBU).trans (hbx.mono (unhide HNW)); replace HNW : Hid (N ≤ H1.heap.size) := Nat.le_trans (unhide HNW) hbx.size; have HSJ := hide hsx; clear hsx hbx; obtain ⟨KH, hK⟩ : ∃ k, k = H1.heap.size := ⟨_, rfl⟩; have HK := hide hK; clear hK)
                    | ((with_reducible refine wpList_alloc_state (by rfl) (by rfl) (some 16) (by rfl) KH (unhide HK) ?_); intro H2 HX2 HB2 HS2; simp only [Act.put, List.setIfInBounds_toArray, List.set_cons_zero, List.set_cons_succ])
                    | ((with_reducible refine wpList_store_state (by rfl) (.tmp 16) (.tmp 186) (by rfl) KH vH nH mH (by with_unfolding_all rfl) (by with_unfolding_all rfl) Sv.none 0 0 (unhide HX2) ?_); intro H3 HX3 HE3; simp only [Act.put]; have hbx : Below H1.heap.size H1 H3 := (by rw [unhide HE3, ← unhide HK]; exact belowRow (unhide HB2) (Nat.le_refl _) _); replace HLA := hide ((unhide HLA).below hbx); replace HLB := hide ((unhide HLB).below hbx); replace HLC := hide ((unhide HLC).below hbx); replace HLD := hide ((unhide HLD).below hbx); replace HLG := hide ((unhide HLG).below hbx); replace HBU : Hid (Below N u H3) := (unhide HBU).trans (hbx.mono (unhide HNW)); replace HNW : Hid (N ≤ H3.heap.size) := Nat.le_trans (unhide HNW) hbx.size; have HLH : Hid (Lv H3 KH J2 vH nH mH) := ⟨(unhide HSJ).below hbx, unhide HX3⟩; clear hbx HSJ HX2 HB2 HS2 HX3 HE3 HK; obtain ⟨c0A, c1A⟩ := (unhide HLA).cells; obtain ⟨c0B, c1B⟩ := (unhide HLB).cells; obtain ⟨c0C, c1C⟩ := (unhide HLC).cells; obtain ⟨c0D, c1D⟩ := (unhide HLD).cells; obtain ⟨c0G, c1G⟩ := (unhide HLG).cells; obtain ⟨c0H, c1H⟩ := (unhide HLH).cells; )
                    | fail)
                  go_wp2
                  go_ret
                  exact ⟨rfl, unhide HBU⟩
          · subst hr
            clear HJC
            go_wp2
            go_ret
            exact ⟨rfl, unhide HBU⟩
      · have HOA := hide (sokB_true.2 oa)
        have HOB := hide (sokB_true.2 ob)
        have HOC := hide (sokB_false.2 oc)
        clear oa ob oc
        go_enter Try.func8, Try.ntmps8
        go_wp2_with (first
          | ((with_reducible refine wpList_box_state (by rfl) (.tmp 0) (by rfl) (some 3) (by rfl) N (unhide HN) va na ma (by with_unfolding_all rfl) ?_); intro W1 HX1 HB1 HS1; simp only [Act.put, List.setIfInBounds_toArray, List.set_cons_zero, List.set_cons_succ])
          | ((with_reducible refine wpList_box_state (by rfl) (.tmp 1) (by rfl) (some 4) (by rfl) (N + 1) (unhide HS1).symm vb nb mb (by with_unfolding_all rfl) ?_); intro W2 HX2 HB2 HS2; simp only [Act.put, List.setIfInBounds_toArray, List.set_cons_zero, List.set_cons_succ])
          | ((with_reducible refine wpList_box_state (by rfl) (.tmp 2) (by rfl) (some 5) (by rfl) (N + 1 + 1) (unhide HS2).symm vc nc mc (by with_unfolding_all rfl) ?_); intro W3 HX3 HB3 HS3; simp only [Act.put, List.setIfInBounds_toArray, List.set_cons_zero, List.set_cons_succ]; have HBU : Hid (Below N u W3) := (unhide HB1).trans (((unhide HB2).mono (Nat.le_succ _)).trans ((unhide HB3).mono (by omega))); have HLA : Hid (Lv W3 N a va na ma) := ⟨(unhide HSA).below (unhide HU _ (unhide HBU)), ((unhide HB3).block N (by omega)).trans (((unhide HB2).block N (Nat.lt_succ_self _)).trans (unhide HX1))⟩; have HLB : Hid (Lv W3 (N + 1) b vb nb mb) := ⟨(unhide HSB).below (unhide HU _ (unhide HBU)), ((unhide HB3).block (N + 1) (Nat.lt_succ_self _)).trans (unhide HX2)⟩; have HLC : Hid (Lv W3 (N + 1 + 1) c vc nc mc) := ⟨(unhide HSC).below (unhide HU _ (unhide HBU)), unhide HX3⟩; have HNW : Hid (N ≤ W3.heap.size) := (by rw [unhide HS3]; show N ≤ N + 1 + 1 + 1; omega); clear HX1 HX2 HX3 HB1 HB2 HB3 HS1 HS2 HS3)
          | (go_at_call 34; refine (lAwake W3).mono ?_; rintro e W4 ⟨rfl, hbx⟩; replace HLA := hide ((unhide HLA).below hbx); replace HLB := hide ((unhide HLB).below hbx); replace HLC := hide ((unhide HLC).below hbx); replace HBU : Hid (Below N u W4) := (unhide HBU).trans (hbx.mono (unhide HNW)); replace HNW : Hid (N ≤ W4.heap.size) := Nat.le_trans (unhide HNW) hbx.size; clear hbx; obtain ⟨c0A, c1A⟩ := (unhide HLA).cells; obtain ⟨c0B, c1B⟩ := (unhide HLB).cells; obtain ⟨c0C, c1C⟩ := (unhide HLC).cells; )
          | (go_at_call 16; refine (kvRValid true (unhide HOA) (unhide HLA).toSx W4 (Below.refl _ _)).mono ?_; rintro e W5 ⟨rfl, hbx⟩; clear c0A c1A c0B c1B c0C c1C; replace HLA := hide ((unhide HLA).below hbx); replace HLB := hide ((unhide HLB).below hbx); replace HLC := hide ((unhide HLC).below hbx); replace HBU : Hid (Below N u W5) := (unhide HBU).trans (hbx.mono (unhide HNW)); replace HNW : Hid (N ≤ W5.heap.size) := Nat.le_trans (unhide HNW) hbx.size; clear hbx HOA; obtain ⟨c0A, c1A⟩ := (unhide HLA).cells; obtain ⟨c0B, c1B⟩ := (unhide HLB).cells; obtain ⟨c0C, c1C⟩ := (unhide HLC).cells; )
          | (go_at_call 16; refine (kvRValid true (unhide HOB) (unhide HLB).toSx W5 (Below.refl _ _)).mono ?_; rintro e W6 ⟨rfl, hbx⟩; clear c0A c1A c0B c1B c0C c1C; replace HLA := hide ((unhide HLA).below hbx); replace HLB := hide ((unhide HLB).below hbx); replace HLC := hide ((unhide HLC).below hbx); replace HBU : Hid (Below N u W6) := (unhide HBU).trans (hbx.mono (unhide HNW)); replace HNW : Hid (N ≤ W6.heap.size) := Nat.le_trans (unhide HNW) hbx.size; clear hbx HOB; obtain ⟨c0A, c1A⟩ := (unhide HLA).cells; obtain ⟨c0B, c1B⟩ := (unhide HLB).cells; obtain ⟨c0C, c1C⟩ := (unhide HLC).cells; )
          | (go_at_call 16; refine (kvRValid false (unhide HOC) (unhide HLC).toSx W6 (Below.refl _ _)).mono ?_; rintro e W7 ⟨rfl, hbx⟩; clear c0A c1A c0B c1B c0C c1C; replace HLA := hide ((unhide HLA).below hbx); replace HLB := hide ((unhide HLB).below hbx); replace HLC := hide ((unhide HLC).below hbx); replace HBU : Hid (Below N u W7) := (unhide HBU).trans (hbx.mono (unhide HNW)); replace HNW : Hid (N ≤ W7.heap.size) := Nat.le_trans (unhide HNW) hbx.size; clear hbx; obtain ⟨c0A, c1A⟩ := (unhide HLA).cells; obtain ⟨c0B, c1B⟩ := (unhide HLB).cells; obtain ⟨c0C, c1C⟩ := (unhide HLC).cells; )
          | (go_at_call 15; refine (kvValid false (unhide HOC) (unhide HLC).toSx W7 (Below.refl _ _)).mono ?_; rintro e W8 ⟨rfl, hbx⟩; clear c0A c1A c0B c1B c0C c1C; replace HLA := hide ((unhide HLA).below hbx); replace HLB := hide ((unhide HLB).below hbx); replace HLC := hide ((unhide HLC).below hbx); replace HBU : Hid (Below N u W8) := (unhide HBU).trans (hbx.mono (unhide HNW)); replace HNW : Hid (N ≤ W8.heap.size) := Nat.le_trans (unhide HNW) hbx.size; clear hbx; obtain ⟨c0A, c1A⟩ := (unhide HLA).cells; obtain ⟨c0B, c1B⟩ := (unhide HLB).cells; obtain ⟨c0C, c1C⟩ := (unhide HLC).cells; )
          | fail)
        go_ret
        exact ⟨rfl, unhide HBU⟩
    · have HOA := hide (sokB_true.2 oa)
      have HOB := hide (sokB_false.2 ob)
      have HJ := hide (join_not (a := a) (b := b) fun h => ob h.2)
      clear oa ob
      go_enter Try.func8, Try.ntmps8
      go_wp2_with (first
        | ((with_reducible refine wpList_box_state (by rfl) (.tmp 0) (by rfl) (some 3) (by rfl) N (unhide HN) va na ma (by with_unfolding_all rfl) ?_); intro W1 HX1 HB1 HS1; simp only [Act.put, List.setIfInBounds_toArray, List.set_cons_zero, List.set_cons_succ])
        | ((with_reducible refine wpList_box_state (by rfl) (.tmp 1) (by rfl) (some 4) (by rfl) (N + 1) (unhide HS1).symm vb nb mb (by with_unfolding_all rfl) ?_); intro W2 HX2 HB2 HS2; simp only [Act.put, List.setIfInBounds_toArray, List.set_cons_zero, List.set_cons_succ])
        | ((with_reducible refine wpList_box_state (by rfl) (.tmp 2) (by rfl) (some 5) (by rfl) (N + 1 + 1) (unhide HS2).symm vc nc mc (by with_unfolding_all rfl) ?_); intro W3 HX3 HB3 HS3; simp only [Act.put, List.setIfInBounds_toArray, List.set_cons_zero, List.set_cons_succ]; have HBU : Hid (Below N u W3) := (unhide HB1).trans (((unhide HB2).mono (Nat.le_succ _)).trans ((unhide HB3).mono (by omega))); have HLA : Hid (Lv W3 N a va na ma) := ⟨(unhide HSA).below (unhide HU _ (unhide HBU)), ((unhide HB3).block N (by omega)).trans (((unhide HB2).block N (Nat.lt_succ_self _)).trans (unhide HX1))⟩; have HLB : Hid (Lv W3 (N + 1) b vb nb mb) := ⟨(unhide HSB).below (unhide HU _ (unhide HBU)), ((unhide HB3).block (N + 1) (Nat.lt_succ_self _)).trans (unhide HX2)⟩; have HLC : Hid (Lv W3 (N + 1 + 1) c vc nc mc) := ⟨(unhide HSC).below (unhide HU _ (unhide HBU)), unhide HX3⟩; have HNW : Hid (N ≤ W3.heap.size) := (by rw [unhide HS3]; show N ≤ N + 1 + 1 + 1; omega); clear HX1 HX2 HX3 HB1 HB2 HB3 HS1 HS2 HS3)
        | (go_at_call 34; refine (lAwake W3).mono ?_; rintro e W4 ⟨rfl, hbx⟩; replace HLA := hide ((unhide HLA).below hbx); replace HLB := hide ((unhide HLB).below hbx); replace HLC := hide ((unhide HLC).below hbx); replace HBU : Hid (Below N u W4) := (unhide HBU).trans (hbx.mono (unhide HNW)); replace HNW : Hid (N ≤ W4.heap.size) := Nat.le_trans (unhide HNW) hbx.size; clear hbx; obtain ⟨c0A, c1A⟩ := (unhide HLA).cells; obtain ⟨c0B, c1B⟩ := (unhide HLB).cells; obtain ⟨c0C, c1C⟩ := (unhide HLC).cells; )
        | (go_at_call 16; refine (kvRValid true (unhide HOA) (unhide HLA).toSx W4 (Below.refl _ _)).mono ?_; rintro e W5 ⟨rfl, hbx⟩; clear c0A c1A c0B c1B c0C c1C; replace HLA := hide ((unhide HLA).below hbx); replace HLB := hide ((unhide HLB).below hbx); replace HLC := hide ((unhide HLC).below hbx); replace HBU : Hid (Below N u W5) := (unhide HBU).trans (hbx.mono (unhide HNW)); replace HNW : Hid (N ≤ W5.heap.size) := Nat.le_trans (unhide HNW) hbx.size; clear hbx HOA; obtain ⟨c0A, c1A⟩ := (unhide HLA).cells; obtain ⟨c0B, c1B⟩ := (unhide HLB).cells; obtain ⟨c0C, c1C⟩ := (unhide HLC).cells; )
        | (go_at_call 16; refine (kvRValid false (unhide HOB) (unhide HLB).toSx W5 (Below.refl _ _)).mono ?_; rintro e W6 ⟨rfl, hbx⟩; clear c0A c1A c0B c1B c0C c1C; replace HLA := hide ((unhide HLA).below hbx); replace HLB := hide ((unhide HLB).below hbx); replace HLC := hide ((unhide HLC).below hbx); replace HBU : Hid (Below N u W6) := (unhide HBU).trans (hbx.mono (unhide HNW)); replace HNW : Hid (N ≤ W6.heap.size) := Nat.le_trans (unhide HNW) hbx.size; clear hbx; obtain ⟨c0A, c1A⟩ := (unhide HLA).cells; obtain ⟨c0B, c1B⟩ := (unhide HLB).cells; obtain ⟨c0C, c1C⟩ := (unhide HLC).cells; )
        | (go_at_call 26; refine (kvJoin _ _ (unhide HJ) (unhide HLA).toSx (unhide HLB).toSx).mono ?_; rintro e J1 ⟨vJ, nJ, mJ, rfl, hsx, hbx⟩; clear c0A c1A c0B c1B c0C c1C; replace HLA := hide ((unhide HLA).below hbx); replace HLB := hide ((unhide HLB).below hbx); replace HLC := hide ((unhide HLC).below hbx); replace HBU : Hid (Below N u J1) := (unhide HBU).trans (hbx.mono (unhide HNW)); replace HNW : Hid (N ≤ J1.heap.size) := Nat.le_trans (unhide HNW) hbx.size; have HSJ := hide hsx; clear hsx hbx; obtain ⟨KJ, hK⟩ : ∃ k, k = J1.heap.size := ⟨_, rfl⟩; have HK := hide hK; clear hK)
        | ((with_reducible refine wpList_alloc_state (by rfl) (by rfl) (some 7) (by rfl) KJ (unhide HK) ?_); intro J2 HX2 HB2 HS2; simp only [Act.put, List.setIfInBounds_toArray, List.set_cons_zero, List.set_cons_succ])
        | ((with_reducible refine wpList_store_state (by rfl) (.tmp 7) (.tmp 33) (by rfl) KJ vJ nJ mJ (by with_unfolding_all rfl) (by with_unfolding_all rfl) Sv.none 0 0 (unhide HX2) ?_); intro J3 HX3 HE3; simp only [Act.put]; have hbx : Below J1.heap.size J1 J3 := (by rw [unhide HE3, ← unhide HK]; exact belowRow (unhide HB2) (Nat.le_refl _) _); replace HLA := hide ((unhide HLA).below hbx); replace HLB := hide ((unhide HLB).below hbx); replace HLC := hide ((unhide HLC).below hbx); replace HBU : Hid (Below N u J3) := (unhide HBU).trans (hbx.mono (unhide HNW)); replace HNW : Hid (N ≤ J3.heap.size) := Nat.le_trans (unhide HNW) hbx.size; have HLJ : Hid (Lv J3 KJ St.none vJ nJ mJ) := ⟨(unhide HSJ).below hbx, unhide HX3⟩; clear hbx HSJ HX2 HB2 HS2 HX3 HE3 HK; obtain ⟨c0A, c1A⟩ := (unhide HLA).cells; obtain ⟨c0B, c1B⟩ := (unhide HLB).cells; obtain ⟨c0C, c1C⟩ := (unhide HLC).cells; obtain ⟨c0J, c1J⟩ := (unhide HLJ).cells; )
        | fail)
      go_ret
      exact ⟨rfl, unhide HBU⟩
  · have HOA := hide (sokB_false.2 oa)
    have HJ := hide (join_not (a := a) (b := b) fun h => oa h.1)
    clear oa
    go_enter Try.func8, Try.ntmps8
    go_wp2_with (first
      | ((with_reducible refine wpList_box_state (by rfl) (.tmp 0) (by rfl) (some 3) (by rfl) N (unhide HN) va na ma (by with_unfolding_all rfl) ?_); intro W1 HX1 HB1 HS1; simp only [Act.put, List.setIfInBounds_toArray, List.set_cons_zero, List.set_cons_succ])
      | ((with_reducible refine wpList_box_state (by rfl) (.tmp 1) (by rfl) (some 4) (by rfl) (N + 1) (unhide HS1).symm vb nb mb (by with_unfolding_all rfl) ?_); intro W2 HX2 HB2 HS2; simp only [Act.put, List.setIfInBounds_toArray, List.set_cons_zero, List.set_cons_succ])
      | ((with_reducible refine wpList_box_state (by rfl) (.tmp 2) (by rfl) (some 5) (by rfl) (N + 1 + 1) (unhide HS2).symm vc nc mc (by with_unfolding_all rfl) ?_); intro W3 HX3 HB3 HS3; simp only [Act.put, List.setIfInBounds_toArray, List.set_cons_zero, List.set_cons_succ]; have HBU : Hid (Below N u W3) := (unhide HB1).trans (((unhide HB2).mono (Nat.le_succ _)).trans ((unhide HB3).mono (by omega))); have HLA : Hid (Lv W3 N a va na ma) := ⟨(unhide HSA).below (unhide HU _ (unhide HBU)), ((unhide HB3).block N (by omega)).trans (((unhide HB2).block N (Nat.lt_succ_self _)).trans (unhide HX1))⟩; have HLB : Hid (Lv W3 (N + 1) b vb nb mb) := ⟨(unhide HSB).below (unhide HU _ (unhide HBU)), ((unhide HB3).block (N + 1) (Nat.lt_succ_self _)).trans (unhide HX2)⟩; have HLC : Hid (Lv W3 (N + 1 + 1) c vc nc mc) := ⟨(unhide HSC).below (unhide HU _ (unhide HBU)), unhide HX3⟩; have HNW : Hid (N ≤ W3.heap.size) := (by rw [unhide HS3]; show N ≤ N + 1 + 1 + 1; omega); clear HX1 HX2 HX3 HB1 HB2 HB3 HS1 HS2 HS3)
      | (go_at_call 34; refine (lAwake W3).mono ?_; rintro e W4 ⟨rfl, hbx⟩; replace HLA := hide ((unhide HLA).below hbx); replace HLB := hide ((unhide HLB).below hbx); replace HLC := hide ((unhide HLC).below hbx); replace HBU : Hid (Below N u W4) := (unhide HBU).trans (hbx.mono (unhide HNW)); replace HNW : Hid (N ≤ W4.heap.size) := Nat.le_trans (unhide HNW) hbx.size; clear hbx; obtain ⟨c0A, c1A⟩ := (unhide HLA).cells; obtain ⟨c0B, c1B⟩ := (unhide HLB).cells; obtain ⟨c0C, c1C⟩ := (unhide HLC).cells; )
      | (go_at_call 16; refine (kvRValid false (unhide HOA) (unhide HLA).toSx W4 (Below.refl _ _)).mono ?_; rintro e W5 ⟨rfl, hbx⟩; clear c0A c1A c0B c1B c0C c1C; replace HLA := hide ((unhide HLA).below hbx); replace HLB := hide ((unhide HLB).below hbx); replace HLC := hide ((unhide HLC).below hbx); replace HBU : Hid (Below N u W5) := (unhide HBU).trans (hbx.mono (unhide HNW)); replace HNW : Hid (N ≤ W5.heap.size) := Nat.le_trans (unhide HNW) hbx.size; clear hbx; obtain ⟨c0A, c1A⟩ := (unhide HLA).cells; obtain ⟨c0B, c1B⟩ := (unhide HLB).cells; obtain ⟨c0C, c1C⟩ := (unhide HLC).cells; )
      | (go_at_call 26; refine (kvJoin _ _ (unhide HJ) (unhide HLA).toSx (unhide HLB).toSx).mono ?_; rintro e J1 ⟨vJ, nJ, mJ, rfl, hsx, hbx⟩; clear c0A c1A c0B c1B c0C c1C; replace HLA := hide ((unhide HLA).below hbx); replace HLB := hide ((unhide HLB).below hbx); replace HLC := hide ((unhide HLC).below hbx); replace HBU : Hid (Below N u J1) := (unhide HBU).trans (hbx.mono (unhide HNW)); replace HNW : Hid (N ≤ J1.heap.size) := Nat.le_trans (unhide HNW) hbx.size; have HSJ := hide hsx; clear hsx hbx; obtain ⟨KJ, hK⟩ : ∃ k, k = J1.heap.size := ⟨_, rfl⟩; have HK := hide hK; clear hK)
      | ((with_reducible refine wpList_alloc_state (by rfl) (by rfl) (some 7) (by rfl) KJ (unhide HK) ?_); intro J2 HX2 HB2 HS2; simp only [Act.put, List.setIfInBounds_toArray, List.set_cons_zero, List.set_cons_succ])
      | ((with_reducible refine wpList_store_state (by rfl) (.tmp 7) (.tmp 33) (by rfl) KJ vJ nJ mJ (by with_unfolding_all rfl) (by with_unfolding_all rfl) Sv.none 0 0 (unhide HX2) ?_); intro J3 HX3 HE3; simp only [Act.put]; have hbx : Below J1.heap.size J1 J3 := (by rw [unhide HE3, ← unhide HK]; exact belowRow (unhide HB2) (Nat.le_refl _) _); replace HLA := hide ((unhide HLA).below hbx); replace HLB := hide ((unhide HLB).below hbx); replace HLC := hide ((unhide HLC).below hbx); replace HBU : Hid (Below N u J3) := (unhide HBU).trans (hbx.mono (unhide HNW)); replace HNW : Hid (N ≤ J3.heap.size) := Nat.le_trans (unhide HNW) hbx.size; have HLJ : Hid (Lv J3 KJ St.none vJ nJ mJ) := ⟨(unhide HSJ).below hbx, unhide HX3⟩; clear hbx HSJ HX2 HB2 HS2 HX3 HE3 HK; obtain ⟨c0A, c1A⟩ := (unhide HLA).cells; obtain ⟨c0B, c1B⟩ := (unhide HLB).cells; obtain ⟨c0C, c1C⟩ := (unhide HLC).cells; obtain ⟨c0J, c1J⟩ := (unhide HLJ).cells; )
      | fail)
    go_ret
    exact ⟨rfl, unhide HBU⟩
end Go.Proofs.Ytbahfpcfjhifbaa
