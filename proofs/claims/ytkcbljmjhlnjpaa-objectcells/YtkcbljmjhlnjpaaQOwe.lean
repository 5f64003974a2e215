/- ObjectCells: the walk (written by mkowe.py). -/
import Derived.Test.YtkcbljmjhlnjpaaQOwc
import Derived.Test.YtkcbljmjhlnjpaaQOwd
namespace Go.Proofs.Ytkcbljmjhlnjpaa
open Go.RowKit Go.Lib
theorem unp_fit {k z : ByteArray} {J : Ot} {r : Int} (h : unpV k z = (J, r)) : FitT J.st ∧ J.st.seen.length ≤ 64 ∧ J.st.sibs.length ≤ 64 := by
  unfold unpV at h
  split at h
  · rename_i hc
    obtain ⟨rfl, -⟩ := Prod.mk.inj h
    rcases decT_cases z with ⟨T, h1, h2, h3, -⟩ | h1
    · have : (unpO k z).st = T := by unfold unpO; rw [h1]
      rw [this]
      exact ⟨h3, h2.slen, h2.len⟩
    · rw [h1] at hc
      exact absurd hc.2.1 (by decide)
  · obtain ⟨rfl, -⟩ := Prod.mk.inj h
    exact ⟨fit_none, Nat.zero_le _, Nat.zero_le _⟩
set_option maxRecDepth 100000 in
set_option maxHeartbeats 16000000 in
theorem cells13_walk (k z : ByteArray) (u : World) (hz : z.size ≤ 140737488355328) : Calls Try.prog 5 #[.agg #[.string k, .string z]] u fun e u' => e = .returned (.bool true) ∧ Below u.heap.size u u' := by
  obtain ⟨N, hN⟩ : ∃ N, N = u.heap.size := ⟨_, rfl⟩
  have HN := hide hN
  rw [← hN]
  clear hN
  have HZ := hide hz
  obtain ⟨J, r, hJ⟩ : ∃ J r, unpV k z = (J, r) := ⟨_, _, rfl⟩
  have HJ := hide hJ
  have HF := hide (unp_fit hJ)
  have HJJ : Hid (sameO J J = true) := sameO_iff.2 rfl
  clear hz hJ
  go_enter Try.func5, Try.ntmps5
  go_wp2_with (first
    | ((with_reducible refine wpList_box_ce (by rfl) (.tmp 0) (by rfl) (some 1) (by rfl) N (unhide HN) k z (by with_unfolding_all rfl) ?_); intro V0 HXC HB1 HS1; simp only [Act.put, List.setIfInBounds_toArray, List.set_cons_zero, List.set_cons_succ]; have HBU : Hid (Below N u V0) := unhide HB1; have HSN : Hid (N + 1 ≤ V0.heap.size) := (by show N + 1 ≤ V0.heap.size; rw [unhide HS1]; omega); clear HB1 HS1; obtain ⟨c0, c1⟩ := ce_cells (unhide HXC))
    | (go_at_call 18; refine (qUnpack k z (unhide HZ) V0 J r (unhide HJ)).mono ?_; rintro e X1 ⟨x1, a1, b1, rfl, h1, h2, h3, hb⟩; clear c0 c1; replace HXC := hide (box_below (unhide HXC) hb); have HA1 := hide h1; have HC1 := hide h2; have HO1 := hide h3; have HE1 : Hid (∀ g, x1.has J.st.seen.length J.st.sibs.length g → V0.heap.size ≤ g ∧ g < X1.heap.size) := (fun g hg => h3.lt hg); replace HBU : Hid (Below N u X1) := (unhide HBU).trans (hb.mono (by have := unhide HSN; omega)); replace HSN : Hid (N + 1 ≤ X1.heap.size) := Nat.le_trans (unhide HSN) hb.size; clear h1 h2 h3 hb; obtain ⟨M1, hM⟩ : ∃ K, K = X1.heap.size := ⟨_, rfl⟩; have HM1 := hide hM; have HNM : Hid (N + 1 ≤ M1) := (by rw [hM]; exact unhide HSN); clear hM)
    | ((with_reducible refine wpList_alloc_ob (by rfl) (by rfl) (some 3) (by rfl) M1 (unhide HM1) ?_); intro Y1 HY HBY HSY; simp only [Act.put, List.setIfInBounds_toArray, List.set_cons_zero, List.set_cons_succ])
    | ((with_reducible refine wpList_store_ob (by rfl) (.tmp 3) (.tmp 12) (by rfl) M1 J.key x1 a1 b1 (by with_unfolding_all rfl) (by with_unfolding_all rfl) _ _ _ _ (unhide HY) ?_); intro Z1 HX1 HEY; simp only [Act.put]; have hb : Below X1.heap.size X1 Z1 := (by rw [unhide HEY, ← unhide HM1]; exact belowRow (unhide HBY) (Nat.le_refl _) _); have HS1 : Hid (Z1.heap.size = M1 + 1) := (by rw [unhide HEY, size_setRow]; exact unhide HSY); clear HY HBY HSY HEY; replace HXC := hide (box_below (unhide HXC) hb); replace HO1 := hide ((unhide HO1).below hb); replace HBU : Hid (Below N u Z1) := (unhide HBU).trans (hb.mono (by have := unhide HSN; omega)); replace HSN : Hid (N + 1 ≤ Z1.heap.size) := Nat.le_trans (unhide HSN) hb.size; clear hb; obtain ⟨c0, c1⟩ := ce_cells (unhide HXC))
    | (go_at_call 19; refine (oUnpack k z (unhide HZ) Z1 J r (unhide HJ)).mono ?_; rintro e X2 ⟨x2, a2, b2, rfl, h1, h2, h3, hb⟩; clear c0 c1; replace HXC := hide (box_below (unhide HXC) hb); replace HX1 := hide (box_below (unhide HX1) hb); replace HO1 := hide ((unhide HO1).below hb); have HA2 := hide h1; have HC2 := hide h2; have HO2 := hide h3; have HE2 : Hid (∀ g, x2.has J.st.seen.length J.st.sibs.length g → Z1.heap.size ≤ g ∧ g < X2.heap.size) := (fun g hg => h3.lt hg); replace HBU : Hid (Below N u X2) := (unhide HBU).trans (hb.mono (by have := unhide HSN; omega)); replace HSN : Hid (N + 1 ≤ X2.heap.size) := Nat.le_trans (unhide HSN) hb.size; have HL2 : Hid (Z1.heap.size ≤ X2.heap.size) := hb.size; clear h1 h2 h3 hb; obtain ⟨M2, hM⟩ : ∃ K, K = X2.heap.size := ⟨_, rfl⟩; have HM2 := hide hM; clear hM)
    | ((with_reducible refine wpList_alloc_ob (by rfl) (by rfl) (some 5) (by rfl) M2 (unhide HM2) ?_); intro Y2 HY HBY HSY; simp only [Act.put, List.setIfInBounds_toArray, List.set_cons_zero, List.set_cons_succ])
    | ((with_reducible refine wpList_store_ob (by rfl) (.tmp 5) (.tmp 17) (by rfl) M2 J.key x2 a2 b2 (by with_unfolding_all rfl) (by with_unfolding_all rfl) _ _ _ _ (unhide HY) ?_); intro Z2 HX2 HEY; simp only [Act.put]; have hb : Below X2.heap.size X2 Z2 := (by rw [unhide HEY, ← unhide HM2]; exact belowRow (unhide HBY) (Nat.le_refl _) _); have HS2 : Hid (Z2.heap.size = M2 + 1) := (by rw [unhide HEY, size_setRow]; exact unhide HSY); clear HY HBY HSY HEY; replace HXC := hide (box_below (unhide HXC) hb); replace HX1 := hide (box_below (unhide HX1) hb); replace HO1 := hide ((unhide HO1).below hb); replace HO2 := hide ((unhide HO2).below hb); replace HBU : Hid (Below N u Z2) := (unhide HBU).trans (hb.mono (by have := unhide HSN; omega)); replace HSN : Hid (N + 1 ≤ Z2.heap.size) := Nat.le_trans (unhide HSN) hb.size; clear hb; obtain ⟨c0, c1⟩ := ce_cells (unhide HXC))
    | (go_at_call 19; refine (oUnpack k z (unhide HZ) Z2 J r (unhide HJ)).mono ?_; rintro e X3 ⟨x3, a3, b3, rfl, h1, h2, h3, hb⟩; clear c0 c1; replace HXC := hide (box_below (unhide HXC) hb); replace HX1 := hide (box_below (unhide HX1) hb); replace HX2 := hide (box_below (unhide HX2) hb); replace HO1 := hide ((unhide HO1).below hb); replace HO2 := hide ((unhide HO2).below hb); have HA3 := hide h1; have HC3 := hide h2; have HO3 := hide h3; have HE3 : Hid (∀ g, x3.has J.st.seen.length J.st.sibs.length g → Z2.heap.size ≤ g ∧ g < X3.heap.size) := (fun g hg => h3.lt hg); replace HBU : Hid (Below N u X3) := (unhide HBU).trans (hb.mono (by have := unhide HSN; omega)); replace HSN : Hid (N + 1 ≤ X3.heap.size) := Nat.le_trans (unhide HSN) hb.size; have HL3 : Hid (Z2.heap.size ≤ X3.heap.size) := hb.size; clear h1 h2 h3 hb; obtain ⟨M3, hM⟩ : ∃ K, K = X3.heap.size := ⟨_, rfl⟩; have HM3 := hide hM; clear hM)
    | ((with_reducible refine wpList_alloc_ob (by rfl) (by rfl) (some 7) (by rfl) M3 (unhide HM3) ?_); intro Y3 HY HBY HSY; simp only [Act.put, List.setIfInBounds_toArray, List.set_cons_zero, List.set_cons_succ])
    | ((with_reducible refine wpList_store_ob (by rfl) (.tmp 7) (.tmp 22) (by rfl) M3 J.key x3 a3 b3 (by with_unfolding_all rfl) (by with_unfolding_all rfl) _ _ _ _ (unhide HY) ?_); intro Z3 HX3 HEY; simp only [Act.put]; have hb : Below X3.heap.size X3 Z3 := (by rw [unhide HEY, ← unhide HM3]; exact belowRow (unhide HBY) (Nat.le_refl _) _); have HS3 : Hid (Z3.heap.size = M3 + 1) := (by rw [unhide HEY, size_setRow]; exact unhide HSY); clear HY HBY HSY HEY; replace HXC := hide (box_below (unhide HXC) hb); replace HX1 := hide (box_below (unhide HX1) hb); replace HX2 := hide (box_below (unhide HX2) hb); replace HO1 := hide ((unhide HO1).below hb); replace HO2 := hide ((unhide HO2).below hb); replace HO3 := hide ((unhide HO3).below hb); replace HBU : Hid (Below N u Z3) := (unhide HBU).trans (hb.mono (by have := unhide HSN; omega)); replace HSN : Hid (N + 1 ≤ Z3.heap.size) := Nat.le_trans (unhide HSN) hb.size; clear hb; obtain ⟨d0, d1, d2⟩ := ob_cells (unhide HX1); obtain ⟨e0, e1, e2⟩ := ob_cells (unhide HX2); obtain ⟨f0, f1, f2⟩ := ob_cells (unhide HX3))
    | (go_at_call 17; refine (klSame (a := J) (b := J) (u := Z3) ⟨(unhide HO2).at' (unhide HF).1 (unhide HF).2.1 (unhide HF).2.2, unhide HA2, unhide HC2⟩ ⟨(unhide HO1).at' (unhide HF).1 (unhide HF).2.1 (unhide HF).2.2, unhide HA1, unhide HC1⟩ true (unhide HJJ)).mono ?_; rintro e P1 ⟨rfl, hb⟩; clear d0 d1 d2 e0 e1 e2 f0 f1 f2; replace HXC := hide (box_below (unhide HXC) hb); replace HX1 := hide (box_below (unhide HX1) hb); replace HX2 := hide (box_below (unhide HX2) hb); replace HX3 := hide (box_below (unhide HX3) hb); replace HO1 := hide ((unhide HO1).below hb); replace HO2 := hide ((unhide HO2).below hb); replace HO3 := hide ((unhide HO3).below hb); replace HBU : Hid (Below N u P1) := (unhide HBU).trans (hb.mono (by have := unhide HSN; omega)); replace HSN : Hid (N + 1 ≤ P1.heap.size) := Nat.le_trans (unhide HSN) hb.size; have HSZ : Hid (Z3.heap.size ≤ P1.heap.size) := hb.size; clear hb; obtain ⟨d0, d1, d2⟩ := ob_cells (unhide HX1); obtain ⟨e0, e1, e2⟩ := ob_cells (unhide HX2); obtain ⟨f0, f1, f2⟩ := ob_cells (unhide HX3))
    | (go_at_call 17; refine (klSame (a := J) (b := J) (u := P1) ⟨(unhide HO3).at' (unhide HF).1 (unhide HF).2.1 (unhide HF).2.2, unhide HA3, unhide HC3⟩ ⟨(unhide HO1).at' (unhide HF).1 (unhide HF).2.1 (unhide HF).2.2, unhide HA1, unhide HC1⟩ true (unhide HJJ)).mono ?_; rintro e P2 ⟨rfl, hb⟩; clear d0 d1 d2 e0 e1 e2 f0 f1 f2; replace HXC := hide (box_below (unhide HXC) hb); replace HX1 := hide (box_below (unhide HX1) hb); replace HX2 := hide (box_below (unhide HX2) hb); replace HX3 := hide (box_below (unhide HX3) hb); replace HO1 := hide ((unhide HO1).below hb); replace HO2 := hide ((unhide HO2).below hb); replace HO3 := hide ((unhide HO3).below hb); replace HBU : Hid (Below N u P2) := (unhide HBU).trans (hb.mono (by have := unhide HSN; omega)); replace HSN : Hid (N + 1 ≤ P2.heap.size) := Nat.le_trans (unhide HSN) hb.size; replace HSZ : Hid (Z3.heap.size ≤ P2.heap.size) := Nat.le_trans (unhide HSZ) hb.size; clear hb; obtain ⟨d0, d1, d2⟩ := ob_cells (unhide HX1); obtain ⟨e0, e1, e2⟩ := ob_cells (unhide HX2); obtain ⟨f0, f1, f2⟩ := ob_cells (unhide HX3))
    | fail)
  have HA2' : Hid (a2 ≤ 1000) := by have h1 := unhide HA2; have h2 := (unhide HF).2.1; show a2 ≤ 1000; omega
  have HC2' : Hid (b2 ≤ 1000) := by have h1 := unhide HC2; have h2 := (unhide HF).2.2; show b2 ≤ 1000; omega
  have HM12 : Hid (M1 + 1 ≤ M2 ∧ M2 + 1 ≤ M3 ∧ M3 + 1 ≤ P2.heap.size ∧ X1.heap.size = M1 ∧ Z1.heap.size = M1 + 1 ∧ X2.heap.size = M2 ∧ Z2.heap.size = M2 + 1) := by
    have h1 := unhide HM1
    have h2 := unhide HM2
    have h3 := unhide HM3
    have h4 := unhide HS1
    have h5 := unhide HS2
    have h6 := unhide HS3
    have h7 := unhide HSZ
    have h8 := unhide HL2
    have h9 := unhide HL3
    show _ ∧ _
    omega
  have HSL : Hid (Sl P2 P2 (M1 + 1) M2 J.st.seen x2.sa x2.sc J.st.sibs x2.ba x2.bc) := by
    obtain ⟨q1, q2, q3, q4, q5, q6, q7⟩ := unhide HM12
    have h1 := unhide HO2
    rw [q5] at h1
    have hE := unhide HE2
    refine ⟨Rg.refl _ _ _, by omega, h1.seen, h1.sibs, fun x hx => .inl ?_, fun x hx => .inl ?_⟩
    · have := hE x.block (.inl (by rw [hx]; rfl))
      omega
    · have := hE x.block (.inr (by rw [hx]; rfl))
      omega
  refine (lSpoil J.key ⟨#[126]⟩ J.st.seen J.st.sibs x2.sa x2.ba x2.sc x2.bc a2 b2 (M1 + 1) M2 P2 (unhide HA2) (unhide HC2) (unhide HA2') (unhide HC2') (unhide HSL)).mono ?_
  rintro e P3 ⟨rfl, hr⟩
  have HR := hide hr
  have HX1' : Hid (P3.heap[M1]? = some (obRow J.key x1 a1 b1)) := (hr.block M1 (by have := unhide HM12; omega) (.inl (Nat.lt_succ_self _))).trans (unhide HX1)
  have HX3' : Hid (P3.heap[M3]? = some (obRow J.key x3 a3 b3)) := (hr.block M3 (by have := unhide HM12; omega) (.inr (by have := unhide HM12; omega))).trans (unhide HX3)
  have HO1' : Hid (SAt P3 J.st x1) := by
    refine OwnT.at' ((unhide HO1).keep fun g hg => hr.block g ?_ (.inl ?_)) (unhide HF).1 (unhide HF).2.1 (unhide HF).2.2
    · have := unhide HE1 g hg; have := unhide HM12; omega
    · have := unhide HE1 g hg; have := unhide HM12; omega
  have HO3' : Hid (SAt P3 J.st x3) := by
    refine OwnT.at' ((unhide HO3).keep fun g hg => hr.block g ?_ (.inr ?_)) (unhide HF).1 (unhide HF).2.1 (unhide HF).2.2
    · exact ((unhide HO3).lt hg).2
    · have := unhide HE3 g hg; have := unhide HM12; omega
  have HB3 : Hid (Below N u P3) := by
    have h1 : Below N P2 P3 := ⟨hr.os, hr.tape, hr.output, hr.size, fun k hk => hr.block k (by have := unhide HSN; omega) (.inl (by have := unhide HM12; have := unhide HNM; omega))⟩
    exact (unhide HBU).trans h1
  have HSN3 : Hid (N ≤ P3.heap.size) := Nat.le_trans (by have := unhide HSN; omega) hr.size
  clear hr d0 d1 d2 e0 e1 e2 f0 f1 f2
  obtain ⟨d0, d1, d2⟩ := ob_cells (unhide HX1')
  obtain ⟨f0, f1, f2⟩ := ob_cells (unhide HX3')
  have hge : ((a2 + b2 + 40 : Nat) : Int) ≥ 40 := by omega
  go_wp2_with (first
    | (go_at_call 17; refine (klSame (a := J) (b := J) (u := P3) ⟨unhide HO3', unhide HA3, unhide HC3⟩ ⟨unhide HO1', unhide HA1, unhide HC1⟩ true (unhide HJJ)).mono ?_; rintro e P4 ⟨rfl, hb⟩; have HB4 := hide hb; clear hb)
    | fail)
  go_ret
  exact ⟨rfl, (unhide HB3).trans ((unhide HB4).mono (unhide HSN3))⟩
end Go.Proofs.Ytkcbljmjhlnjpaa
