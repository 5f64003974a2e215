/- Vectors: the walk of VectorAsks. -/
import Derived.Test.YtajflgonhomkfaaXgh
import Derived.Test.YtajflgonhomkfaaXge
namespace Go.Proofs.Ytajflgonhomkfaa
open Go.RowKit

theorem Le.keep {w w' : World} {B : Nat} {l : List (Nat × Nat)} {g cc : Nat} (h : Le w B l g cc) (hu : ∀ g', g' = g → w'.heap[g']? = w.heap[g']?) : Le w' B l g cc :=
  ⟨own_keep h.own fun g' hg' => hu g' (by cases hg'; rfl), h.fits, h.len⟩
theorem Le.blk {w : World} {B : Nat} {l : List (Nat × Nat)} {g cc : Nat} (h : Le w B l g cc) : B ≤ g ∧ g < w.heap.size := h.own.blk
theorem Le.u1 {w w' : World} {B : Nat} {l : List (Nat × Nat)} {g cc x : Nat} (h : Le w B l g cc) (hu : U1 w w' x) (hx : g ≠ x) : Le w' B l g cc :=
  h.keep fun g' hg' => by subst hg'; exact hu.block g' h.blk.2 hx
theorem turnedD {a : List (Nat × Nat)} {xa : Option Addr} {ca na : Nat} (ea : na = a.length) (W : World) (ha : Da W a xa ca) : Calls Try.prog 18 #[.slice xa na ca] W fun e W' => ∃ xo cc, e = .returned (.slice xo na cc) ∧ Da W' (trn a) xo cc ∧ Below W.heap.size W W' := by
  subst ea
  refine (lTurned a xa ca W ha).mono ?_
  rintro e W' ⟨xo, cc, he, ho, hb⟩
  exact ⟨xo, cc, he, ⟨ho.dv, trn_fits ha.fits, by rw [trn_len]; exact ha.len⟩, hb⟩
theorem lentD {a : List (Nat × Nat)} {xa : Option Addr} {ca na : Nat} (ea : na = a.length) (W : World) (ha : Da W a xa ca) : Calls Try.prog 15 #[.slice xa na ca] W fun e W' => ∃ g cc, e = .returned (.slice (some ⟨g, 0, none⟩) na cc) ∧ Le W' W.heap.size a g cc ∧ Below W.heap.size W W' := by
  subst ea; exact lLent a xa ca W ha
theorem keptD {a : List (Nat × Nat)} {xa : Option Addr} {ca na g cc B : Nat} (ea : na = a.length) (W : World) (hl : Le W B a g cc) (ha : Da W a xa ca) : Calls Try.prog 17 #[.slice (some ⟨g, 0, none⟩) na cc, .slice xa na ca] W fun e W' => e = .returned (.bool true) ∧ Below W.heap.size W W' := by
  subst ea; exact lKept a g cc B xa ca W hl ha
theorem asksD {a b : List (Nat × Nat)} {xx xy xa xb : Option Addr} {cx cy ca cb na nb : Nat} (dx dy : Nat) (ea : na = a.length) (eb : nb = b.length) (W : World) (h1 : Da W a xx cx) (h2 : Da W b xy cy) (h3 : Da W a xa ca) (h4 : Da W b xb cb) :
    Calls Try.prog 16 #[.slice xx na cx, .slice xy nb cy, .slice xa na ca, .slice xb nb cb, .agg #[.int .u32 (dx : Int), .int .u64 (dy : Int)]] W fun e W' => e = .returned (.bool true) ∧ Below W.heap.size W W' := by
  subst ea eb; exact lAsks a b xx xy xa xb cx cy ca cb dx dy W h1 h2 h3 h4
set_option maxRecDepth 100000 in
set_option maxHeartbeats 16000000 in
theorem asks10_walk (a b : List (Nat × Nat)) (xa xb : Option Addr) (ca cb dx dy : Nat) (u : World) (h1 : Da u a xa ca) (h2 : Da u b xb cb) :
    Calls Try.prog 4 #[.slice xa a.length ca, .slice xb b.length cb, .agg #[.int .u32 (dx : Int), .int .u64 (dy : Int)]] u fun e u' => e = .returned (.bool true) ∧ Below u.heap.size u u' := by
  have H1 := hide h1
  have H2 := hide h2
  clear h1 h2
  obtain ⟨na, hna⟩ : ∃ n, n = a.length := ⟨_, rfl⟩
  obtain ⟨nb, hnb⟩ : ∃ n, n = b.length := ⟨_, rfl⟩
  rw [← hna, ← hnb]
  have EA := hide hna
  have EB := hide hnb
  have EA2 : Hid (na = (trn a).length) := by rw [trn_len]; exact hna
  have EB2 : Hid (nb = (trn b).length) := by rw [trn_len]; exact hnb
  clear hna hnb
  obtain ⟨N, hN⟩ : ∃ N, N = u.heap.size := ⟨_, rfl⟩
  have HN := hide hN
  rw [← hN]
  clear hN
  go_enter Try.func4, Try.ntmps4
  go_upto_region 1 with (first
    | ((with_reducible refine wpList_box_dot (by rfl) (.tmp 2) (by rfl) (some 5) (by rfl) N (unhide HN) (dx : Int) (dy : Int) (by with_unfolding_all rfl) ?_); intro W1 HX1 HB1 HS1; simp only [Act.put, List.setIfInBounds_toArray, List.set_cons_zero, List.set_cons_succ])
    | fail)
  replace H1 := hide ((unhide H1).below (w' := W1) (by rw [← unhide HN]; exact unhide HB1))
  replace H2 := hide ((unhide H2).below (w' := W1) (by rw [← unhide HN]; exact unhide HB1))
  have HBK : Hid (∀ W : World, Below W1.heap.size W1 W → Da W a xa ca ∧ Da W b xb cb ∧ (W.cell? ⟨N, 0, none⟩ = some (.int .u32 (dx : Int)) ∧ W.cell? ⟨N, 1, none⟩ = some (.int .u64 (dy : Int)))) := fun W hW => ⟨(unhide H1).below hW, (unhide H2).below hW, box2 (box_below (unhide HX1) hW)⟩
  have HUP : Hid (∀ W W' : World, Below W1.heap.size W1 W → Below W.heap.size W W' → Below W1.heap.size W1 W') := fun W W' h1 h2 => h1.trans (h2.mono h1.size)
  have HFIN : Hid (∀ W : World, Below W1.heap.size W1 W → Below N u W) := fun W hW => (unhide HB1).trans (hW.mono (by rw [unhide HS1]; omega))
  have HBX : Hid (Below W1.heap.size W1 W1) := Below.refl _ _
  have X1 := hide (lentD (unhide EA) W1 (unhide H1))
  clear HX1 HB1 HS1 H1 H2 HN
  obtain ⟨Z, hZ⟩ : ∃ Z, Z = W1.heap.size := ⟨_, rfl⟩
  have HZ := hide hZ
  rw [← hZ] at HBK HUP HFIN HBX
  clear hZ
  go_upto_region 2 with (first
    | (go_at_call 15; refine (unhide X1).mono ?_; rintro e W2 ⟨gx, cx, rfl, hle, hb1⟩; replace HBX := hide (unhide HUP _ _ (unhide HBX) hb1); have HLX := hide (hle.down (B' := Z) (by rw [unhide HZ]; exact Nat.le_refl _)); have HGX := hide hle.blk.2; clear hb1 hle)
    | fail)
  have X2 := hide (lentD (unhide EB) W2 (unhide HBK _ (unhide HBX)).2.1)
  go_upto_region 3 with (first
    | (go_at_call 15; refine (unhide X2).mono ?_; rintro e W3 ⟨gy, cy, rfl, hle, hb1⟩; have HLY := hide (hle.down (B' := Z) (by rw [unhide HZ]; have := (unhide HBX).size; rw [← unhide HZ] at this ⊢; exact this)); have HXY : Hid (gx ≠ gy) := Nat.ne_of_lt (Nat.lt_of_lt_of_le (unhide HGX) hle.blk.1); replace HBX := hide (unhide HUP _ _ (unhide HBX) hb1); replace HLX := hide ((unhide HLX).below hb1); clear hb1 hle)
    | fail)
  clear X1 X2 HGX
  have X3 := hide (asksD dx dy (unhide EA) (unhide EB) W3 (unhide HLX).da (unhide HLY).da (unhide HBK _ (unhide HBX)).1 (unhide HBK _ (unhide HBX)).2.1)
  obtain ⟨y0, y1⟩ := (unhide HBK _ (unhide HBX)).2.2
  go_upto_region 5 with (first
    | (go_at_call 16; refine (unhide X3).mono ?_; rintro e W4 ⟨rfl, hb1⟩; replace HBX := hide (unhide HUP _ _ (unhide HBX) hb1); replace HLX := hide ((unhide HLX).below hb1); replace HLY := hide ((unhide HLY).below hb1); clear hb1; have X4 := hide (keptD (unhide EA) W4 (unhide HLX) (unhide HBK _ (unhide HBX)).1))
    | (go_at_call_of 17 (Value.slice xa na ca); have _t := X4; refine (unhide X4).mono ?_; rintro e W5 ⟨rfl, hb1⟩; replace HBX := hide (unhide HUP _ _ (unhide HBX) hb1); replace HLX := hide ((unhide HLX).below hb1); replace HLY := hide ((unhide HLY).below hb1); clear hb1 X4 _t; have X5 := hide (keptD (unhide EB) W5 (unhide HLY) (unhide HBK _ (unhide HBX)).2.1))
    | (go_at_call 17; refine (unhide X5).mono ?_; rintro e W6 ⟨rfl, hb1⟩; replace HBX := hide (unhide HUP _ _ (unhide HBX) hb1); replace HLX := hide ((unhide HLX).below hb1); replace HLY := hide ((unhide HLY).below hb1); clear hb1 X5)
    | fail)
  clear y0 y1 X3
  have X6 := hide (turnedD (unhide EA) W6 (unhide HBK _ (unhide HBX)).1)
  have HUX : Hid (∀ W W' : World, Below Z W1 W → U1 W W' gx → Z ≤ gx → Below Z W1 W') := fun W W' h1 h2 h3 => h1.trans (h2.toBelow (by have := h1.size; rw [← unhide HZ] at this; exact this) h3)
  have HUY : Hid (∀ W W' : World, Below Z W1 W → U1 W W' gy → Z ≤ gy → Below Z W1 W') := fun W W' h1 h2 h3 => h1.trans (h2.toBelow (by have := h1.size; rw [← unhide HZ] at this; exact this) h3)
  go_upto_region 6 with (first
    | (go_at_call 18; refine (unhide X6).mono ?_; rintro e W7 ⟨xo7, cc7, rfl, hd7, hb1⟩; replace HBX := hide (unhide HUP _ _ (unhide HBX) hb1); replace HLX := hide ((unhide HLX).below hb1); replace HLY := hide ((unhide HLY).below hb1); have HD7 := hide hd7; clear hb1 hd7)
    | (with_reducible refine wpList_copyD (by rfl) (.tmp 32) (.tmp 34) (by rfl) (some 35) (by rfl) Z a (trn a) gx cx na (unhide EA) xo7 cc7 (by with_unfolding_all rfl) (by with_unfolding_all rfl) (unhide HLX) (unhide HD7).toDv (trn_len a) (unhide HD7).fits ?_; intro W8 k8 HL8 HU8; simp only [Act.put, List.setIfInBounds_toArray, List.set_cons_zero, List.set_cons_succ]; replace HBX := hide (unhide HUX _ _ (unhide HBX) (unhide HU8) (unhide HLX).blk.1); replace HLY := hide ((unhide HLY).u1 (unhide HU8) (unhide HXY).symm); clear HLX HU8 HD7)
    | fail)
  have X7 := hide (turnedD (unhide EB) W8 (unhide HBK _ (unhide HBX)).2.1)
  go_upto_region 7 with (first
    | (go_at_call 18; refine (unhide X7).mono ?_; rintro e W9 ⟨xo9, cc9, rfl, hd9, hb1⟩; replace HBX := hide (unhide HUP _ _ (unhide HBX) hb1); replace HL8 := hide ((unhide HL8).below hb1); replace HLY := hide ((unhide HLY).below hb1); have HD9 := hide hd9; clear hb1 hd9)
    | (with_reducible refine wpList_copyD (by rfl) (.tmp 36) (.tmp 38) (by rfl) (some 39) (by rfl) Z b (trn b) gy cy nb (unhide EB) xo9 cc9 (by with_unfolding_all rfl) (by with_unfolding_all rfl) (unhide HLY) (unhide HD9).toDv (trn_len b) (unhide HD9).fits ?_; intro W10 k10 HL10 HU10; simp only [Act.put, List.setIfInBounds_toArray, List.set_cons_zero, List.set_cons_succ]; replace HBX := hide (unhide HUY _ _ (unhide HBX) (unhide HU10) (unhide HLY).blk.1); replace HL8 := hide ((unhide HL8).u1 (unhide HU10) (unhide HXY)); clear HLY HU10 HD9)
    | fail)
  clear X6 X7 HUX HUY HXY
  obtain ⟨y0, y1⟩ := (unhide HBK _ (unhide HBX)).2.2
  have T1 := hide (turnedD (unhide EA) W10.drew ((unhide HBK _ (belowDrew (unhide HBX))).1))
  go_region_held3 (fun w => w.cell? ⟨N, 0, none⟩ = some (.int .u32 (dx : Int)) ∧ w.cell? ⟨N, 1, none⟩ = some (.int .u64 (dy : Int))) (first | exact ⟨y0, y1⟩ | exact ⟨a0, a1⟩ | exact ⟨b0, b1⟩ | exact ⟨c0, c1⟩ | exact ⟨d0, d1⟩ | exact ⟨e0, e1⟩ | exact ⟨f0, f1⟩ | exact ⟨g0, g1⟩ | (go_keep; done)) (first
    | (go_at_call_of 18 (Value.slice xa na ca); have _t := T1; refine (unhide T1).mono ?_; rintro e w1 ⟨xo1, cc1, rfl, hd1, hb1⟩; have HB1 := hide (unhide HUP _ _ (belowDrew (unhide HBX)) hb1); have hb0 : Below W10.heap.size W10 w1 := (belowDrew (Below.refl _ _)).trans hb1; have HL1 := hide ((unhide HL8).below hb0); have HM1 := hide ((unhide HL10).below hb0); clear hb0; have HD1 := hide hd1; obtain ⟨a0, a1⟩ := (unhide HBK _ (unhide HB1)).2.2; clear hb1 hd1 T1 _t; have T2 := hide (turnedD (unhide EB) w1 (unhide HBK _ (unhide HB1)).2.1))
    | (go_at_call_of 18 (Value.slice xb nb cb); have _t := T2; refine (unhide T2).mono ?_; rintro e w2 ⟨xo2, cc2, rfl, hd2, hb1⟩; have HB2 := hide (unhide HUP _ _ (unhide HB1) hb1); have HL2 := hide ((unhide HL1).below hb1); have HM2 := hide ((unhide HM1).below hb1); have HE2 := hide ((unhide HD1).below hb1); have HD2 := hide hd2; obtain ⟨b0, b1⟩ := (unhide HBK _ (unhide HB2)).2.2; clear hb1 hd2 T2 _t; have T3 := hide (asksD dx dy (unhide EA2) (unhide EB2) w2 (unhide HL2).da (unhide HM2).da (unhide HE2) (unhide HD2)))
    | (go_at_call 16; refine (unhide T3).mono ?_; rintro e w3 ⟨rfl, hb1⟩; have HB3 := hide (unhide HUP _ _ (unhide HB2) hb1); have HL3 := hide ((unhide HL2).below hb1); have HM3 := hide ((unhide HM2).below hb1); obtain ⟨c0, c1⟩ := (unhide HBK _ (unhide HB3)).2.2; clear hb1; have T4 := hide (turnedD (unhide EA) w3 (unhide HBK _ (unhide HB3)).1))
    | (go_at_call_of 18 (Value.slice xa na ca); refine (unhide T4).mono ?_; rintro e w4 ⟨xo4, cc4, rfl, hd4, hb1⟩; have HB4 := hide (unhide HUP _ _ (unhide HB3) hb1); have HL4 := hide ((unhide HL3).below hb1); have HM4 := hide ((unhide HM3).below hb1); obtain ⟨d0, d1⟩ := (unhide HBK _ (unhide HB4)).2.2; have T5 := hide (keptD (unhide EA2) w4 (unhide HL4) hd4); clear hb1 hd4)
    | (go_at_call_of 17 (Value.slice xo4 na cc4); have _t := T5; refine (unhide T5).mono ?_; rintro e w5 ⟨rfl, hb1⟩; have HB5 := hide (unhide HUP _ _ (unhide HB4) hb1); have HM5 := hide ((unhide HM4).below hb1); obtain ⟨e0, e1⟩ := (unhide HBK _ (unhide HB5)).2.2; clear hb1 T5 _t; have T6 := hide (turnedD (unhide EB) w5 (unhide HBK _ (unhide HB5)).2.1))
    | (go_at_call 18; refine (unhide T6).mono ?_; rintro e w6 ⟨xo6, cc6, rfl, hd6, hb1⟩; have HB6 := hide (unhide HUP _ _ (unhide HB5) hb1); have HM6 := hide ((unhide HM5).below hb1); obtain ⟨f0, f1⟩ := (unhide HBK _ (unhide HB6)).2.2; have T7 := hide (keptD (unhide EB2) w6 (unhide HM6) hd6); clear hb1 hd6)
    | (go_at_call 17; refine (unhide T7).mono ?_; rintro e w7 ⟨rfl, hb1⟩; have HB7 := hide (unhide HUP _ _ (unhide HB6) hb1); obtain ⟨g0, g1⟩ := (unhide HBK _ (unhide HB7)).2.2; clear hb1)
    | fail)
  go_wp2
  go_ret
  exact ⟨rfl, unhide HFIN _ (unhide HB7)⟩
end Go.Proofs.Ytajflgonhomkfaa
