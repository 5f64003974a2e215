/- The call that each statement asks first: it returns true. -/
import Derived.Test.YtpjepndeppckdaaDoorWrC
import Derived.Test.YtpjepndeppckdaaDoorRdT
import Derived.Test.YtpjepndeppckdaaDoorCrcJ
namespace Go.Proofs.YtpjepndeppckdaaDoor
open Go.RowKit Go.Lib Crc

theorem Put.below {w w' : World} {a r r' B : Nat} {bs : List UInt8} (h : Put w w' a r r' bs) (hB : B ≤ w.heap.size) (ha : B ≤ a) (hr : B ≤ r) : Below B w w' := h.2.2.below hB ha hr
theorem Rt.below {w w' : World} {a B : Nat} {s : ByteArray} {p : Nat} {e : Int} (h : Rt w w' a s p e) (hB : B ≤ w.heap.size) (ha : B ≤ a) : Below B w w' := h.2.below hB ha ha
theorem Tab.below {w w' : World} {B : Nat} (h : Tab w) (hb : Below B w w') (hB : 0 < B) : Tab w' := fun i hi => (hb.cell (p := ⟨0, i, none⟩) hB).trans (h i hi)
theorem Tab.pos {w : World} (h : Tab w) : 0 < w.heap.size := by
  have h0 := h 0 (by decide)
  by_cases hz : w.heap.size = 0
  · have : w.heap = #[] := Array.eq_empty_of_size_eq_zero hz
    simp [World.cell?, this] at h0
  · omega
theorem belowDrewN {B : Nat} {a w : World} (h : Below B a w) (n : Nat) : Below B a (w.drewN n) := ⟨h.os, h.tape, h.output, h.size, h.block⟩
def ws : ByteArray := { data := #[172, 2, 255, 254, 2, 97, 98, 1] }
theorem wk0 : ([] ++ uintB 9 (Int.toNat 300) ++ fixB (-2 % 65536).toNat 2 ++ (uintB 9 { data := #[97, 98] : ByteArray }.size ++ [97, 98])) = [172, 2, 255, 254, 2, 97, 98] := by kernel_rfl
theorem wk1 : uintS ws 0 0 300 = (300, 2, 0) := by kernel_rfl
theorem wk2 : fixS ws 2 0 2 = (65534, 4, 0) := by kernel_rfl
theorem wk3 : textS ws 4 0 2 = ({ data := #[97, 98] }, 7, 0) := by kernel_rfl
theorem wk4 : endE 8 7 0 = 12 := by kernel_rfl
theorem wk5 : uintS ws 7 0 0 = (0, 7, 11) := by kernel_rfl
theorem wk6 : 4294967295 - fold [49, 50, 51, 52, 53, 54, 55, 56, 57] 4294967295 = 3808858755 := by kernel_rfl
theorem wk7 : IntKind.i16.wrap ((65534 : Nat) : Int) = -2 := by kernel_rfl
set_option maxRecDepth 100000 in
set_option maxHeartbeats 1000000 in
theorem works_ok (w : World) (ht : Tab w) : Calls Tryd.prog 16 #[] w fun e w' => e = .returned (.bool true) ∧ Below w.heap.size w w' := by
  have hpos := ht.pos
  have HT := hide ht
  clear ht
  go_enter Tryd.func16, Tryd.ntmps16
  go_wp2_with fail
  refine (wNew _).mono ?_
  rintro e w1 ⟨rfl, rfl⟩
  go_wp2_with fail
  refine (wUintI w.heap.size w.heap.size [] _ _ (Wr.new w _) (by decide) (by decide) (by decide)).mono ?_
  rintro e w1 ⟨rfl, r1, hp⟩
  have H1 := hide hp
  clear hp
  go_wp2_with fail
  refine (wSmall w.heap.size r1 _ _ _ (unhide H1).1 (by decide) (by decide) (by decide)).mono ?_
  rintro e w2 ⟨rfl, r2, hp⟩
  have H2 := hide ((unhide H1).trans hp)
  clear hp H1
  go_wp2_with fail
  refine (wText w.heap.size r2 _ _ _ (unhide H2).1 (by decide)).mono ?_
  rintro e w3 ⟨rfl, r3, hp⟩
  have H3 := hide ((unhide H2).trans hp)
  clear hp H2
  go_wp2_with fail
  refine (wFixedBig w.heap.size 256 1 _ (by decide) (by decide) (by decide)).mono ?_
  rintro e w4 ⟨rfl, rfl⟩
  rw [wk0] at H3
  go_wp2_with fail
  refine (rNew ws _).mono ?_
  rintro e w5 ⟨rfl, rfl⟩
  go_wp2_with fail
  refine (wTold w.heap.size r3 _ _ ((unhide H3).1.alloc _)).mono ?_
  rintro e w5 ⟨rfl, he⟩
  subst he
  have hR := Rd.new ws w4 77 (by decide)
  have hsz : w.heap.size < w4.heap.size := by have := (unhide H3).2.2.size; simp at this; omega
  have hB : Below w.heap.size w (w4.alloc (.cells #[.string ws, .int .i64 0, .int .i64 0] 77)) :=
    (((Below.refl _ _).alloc (Nat.le_refl _) _).trans ((unhide H3).below (by simp) (Nat.le_refl _) (Nat.le_refl _))).alloc (by omega) _
  have HR := hide hR
  have HB := hide hB
  clear hR hB H3
  generalize hu5 : w4.alloc (.cells #[.string ws, .int .i64 0, .int .i64 0] 77) = w5 at HR HB ⊢
  have hs5 : w4.heap.size < w5.heap.size := by rw [← hu5]; simp
  clear hu5
  generalize w4.heap.size = b at *
  go_wp2_with fail
  refine (rUint b ws 0 0 300 _ (unhide HR)).mono ?_
  rintro e w6 ⟨rfl, hp⟩
  rw [wk1] at hp ⊢
  have H6 := hide hp
  clear hp
  go_wp2_with fail
  refine (rSmall b ws 2 0 _ (unhide H6).1).mono ?_
  rintro e w7 ⟨rfl, hp⟩
  rw [wk2] at hp ⊢
  have H7 := hide ((unhide H6).trans hp)
  clear hp H6
  rw [wk7]
  go_wp2_with fail
  refine (rText b ws 4 0 2 _ (unhide H7).1 (by decide)).mono ?_
  rintro e w8 ⟨rfl, hp⟩
  rw [wk3] at hp ⊢
  have H8 := hide ((unhide H7).trans hp)
  clear hp H7
  go_wp2_with fail
  refine (rEnd b ws 7 0 _ (unhide H8).1).mono ?_
  rintro e w9 ⟨rfl, k, rfl⟩
  rw [show endE ws.size 7 0 = 12 from wk4]
  go_wp2_with fail
  refine (rUint b ws 7 0 0 _ ((unhide H8).1.drewN k)).mono ?_
  rintro e w9 ⟨rfl, hp⟩
  rw [wk5] at hp ⊢
  have H9 := hide hp
  clear hp
  go_wp2_with fail
  refine (rErr b ws 7 11 _ (unhide H9).1).mono ?_
  rintro e w10 ⟨rfl, rfl⟩
  go_wp2_with fail
  refine (rAt b ws 7 11 _ (unhide H9).1).mono ?_
  rintro e w10 ⟨rfl, rfl⟩
  have hB9 : Below w.heap.size w w10 := ((unhide HB).trans ((unhide H8).below (by omega) (by omega))).trans ((belowDrewN (Below.refl _ _) k).trans ((unhide H9).below (by have := (unhide H8).2.size; simp; omega) (by omega)))
  have hT9 := (unhide HT).below hB9 hpos
  have HB9 := hide hB9
  have HT9 := hide hT9
  clear hB9 hT9
  go_wp2_with fail
  refine (cSum _ _ (by decide) (unhide HT9)).mono ?_
  rintro e w11 ⟨rfl, rfl⟩
  rw [wk6]
  go_wp2
  go_ret
  exact ⟨rfl, unhide HB9⟩
end Go.Proofs.YtpjepndeppckdaaDoor
