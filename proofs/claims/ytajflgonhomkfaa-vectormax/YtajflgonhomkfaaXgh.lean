/- Vectors: every question about two lists, asked of the program and of the document. -/
import Derived.Test.YtajflgonhomkfaaXgg
import Derived.Test.YtajflgonhomkfaaXx
import Derived.Test.YtajflgonhomkfaaXz
namespace Go.Proofs.Ytajflgonhomkfaa
open Go.RowKit

section
variable {W0 : World} {a b : List (Nat × Nat)} {xa xb : Option Addr} {ca cb na nb : Nat}
theorem krValid (r : Bool) (hr : V.okB a = r) (ea : na = a.length) (ha : Da W0 a xa ca) (W : World) (hW : Below W0.heap.size W0 W) : Calls Try.prog 51 #[.slice xa na ca] W fun e W' => e = .returned (.bool r) ∧ Below W0.heap.size W0 W' := by
  subst hr ea
  refine (rValid a xa ca W (ha.below hW).at).mono ?_
  rintro e W' ⟨he, z, rfl⟩
  exact ⟨he, belowDrewN hW _⟩
theorem krCount (x r : Nat) (hr : V.cntV a x = r) (ea : na = a.length) (ha : Da W0 a xa ca) (W : World) (hW : Below W0.heap.size W0 W) : Calls Try.prog 52 #[.slice xa na ca, .int .u32 (x : Int)] W fun e W' => e = .returned (.int .u64 (r : Int)) ∧ Below W0.heap.size W0 W' := by
  subst hr ea
  refine (rCount a xa ca x W (ha.below hW).at).mono ?_
  rintro e W' ⟨he, z, rfl⟩
  exact ⟨he, belowDrewN hW _⟩
theorem krCovers (x y : Nat) (r : Bool) (hr : covB a (x, y) = r) (ea : na = a.length) (ha : Da W0 a xa ca) (W : World) (hW : Below W0.heap.size W0 W) : Calls Try.prog 53 #[.slice xa na ca, .agg #[.int .u32 (x : Int), .int .u64 (y : Int)]] W fun e W' => e = .returned (.bool r) ∧ Below W0.heap.size W0 W' := by
  subst hr ea
  exact (rCovers a xa ca (x, y) W (ha.below hW).at).mono fun e W' h => ⟨h.1, hW.trans (h.2.mono hW.size)⟩
theorem krNext (x : Nat) (d : Nat × Nat) (r : Int) (hr : nextV a x = (d, r)) (ea : na = a.length) (ha : Da W0 a xa ca) (W : World) (hW : Below W0.heap.size W0 W) : Calls Try.prog 50 #[.slice xa na ca, .int .u32 (x : Int)] W fun e W' => e = .returned (.tuple #[.agg #[.int .u32 (d.1 : Int), .int .u64 (d.2 : Int)], .int .i64 r]) ∧ Below W0.heap.size W0 W' := by
  subst ea
  have h := rNext a xa ca x W (ha.below hW).at
  rw [hr] at h
  exact h.mono fun e W' h => ⟨h.1, hW.trans (h.2.mono hW.size)⟩
theorem krEncode (t : ByteArray) (r : Int) (hr : encV a = (t, r)) (ea : na = a.length) (ha : Da W0 a xa ca) (W : World) (hW : Below W0.heap.size W0 W) : Calls Try.prog 24 #[.slice xa na ca] W fun e W' => e = .returned (.tuple #[.string t, .int .i64 r]) ∧ Below W0.heap.size W0 W' := by
  subst ea
  have h := rEncode a xa ca W (ha.below hW).at
  rw [hr] at h
  exact h.mono fun e W' h => ⟨h.1, hW.trans (h.2.mono hW.size)⟩
theorem krBelow (r : Bool) (hr : belB a b = r) (ea : na = a.length) (eb : nb = b.length) (ha : Da W0 a xa ca) (hb : Da W0 b xb cb) (W : World) (hW : Below W0.heap.size W0 W) : Calls Try.prog 54 #[.slice xa na ca, .slice xb nb cb] W fun e W' => e = .returned (.bool r) ∧ Below W0.heap.size W0 W' := by
  subst hr ea eb
  refine (rBelow a b xa xb ca cb W (ha.below hW).at (hb.below hW).at).mono ?_
  rintro e W' ⟨he, z, rfl⟩
  exact ⟨he, belowDrewN hW _⟩
theorem krCompare (r : Int) (hr : cmpV a b = r) (ea : na = a.length) (eb : nb = b.length) (ha : Da W0 a xa ca) (hb : Da W0 b xb cb) (W : World) (hW : Below W0.heap.size W0 W) : Calls Try.prog 55 #[.slice xa na ca, .slice xb nb cb] W fun e W' => e = .returned (.int .i8 r) ∧ Below W0.heap.size W0 W' := by
  subst hr ea eb
  refine (rCompare a b xa xb ca cb W (ha.below hW).at (hb.below hW).at).mono ?_
  rintro e W' ⟨he, z, rfl⟩
  exact ⟨he, belowDrewN hW _⟩
end
theorem neq_self (x y : Nat) (W : World) : (binOp .neq 29 (.agg #[.int .u32 (x : Int), .int .u64 (y : Int)]) (.agg #[.int .u32 (x : Int), .int .u64 (y : Int)])).run Try.prog W = .ok (.bool false) W := by rw [neqD]; simp
set_option maxRecDepth 100000 in
set_option maxHeartbeats 16000000 in
theorem lAsks (a b : List (Nat × Nat)) (xx xy xa xb : Option Addr) (cx cy ca cb dx dy : Nat) (u : World) (h1 : Da u a xx cx) (h2 : Da u b xy cy) (h3 : Da u a xa ca) (h4 : Da u b xb cb) :
    Calls Try.prog 16 #[.slice xx a.length cx, .slice xy b.length cy, .slice xa a.length ca, .slice xb b.length cb, .agg #[.int .u32 (dx : Int), .int .u64 (dy : Int)]] u fun e u' => e = .returned (.bool true) ∧ Below u.heap.size u u' := by
  have H1 := hide h1
  have H2 := hide h2
  have H3 := hide h3
  have H4 := hide h4
  clear h1 h2 h3 h4
  obtain ⟨na, hna⟩ : ∃ n, n = a.length := ⟨_, rfl⟩
  obtain ⟨nb, hnb⟩ : ∃ n, n = b.length := ⟨_, rfl⟩
  rw [← hna, ← hnb]
  have EA := hide hna
  have EB := hide hnb
  obtain ⟨⟨⟨px, py⟩, pe⟩, hnx⟩ : ∃ p : (Nat × Nat) × Int, nextV a dx = p := ⟨_, rfl⟩
  have HNX := hide hnx
  obtain ⟨⟨es, ee⟩, hes⟩ : ∃ p : ByteArray × Int, encV a = p := ⟨_, rfl⟩
  have HES := hide hes
  have hneq := neq_self px py
  clear hna hnb hnx hes
  obtain ⟨N, hN⟩ : ∃ N, N = u.heap.size := ⟨_, rfl⟩
  have HN := hide hN
  rw [← hN]
  have HUP : Hid (∀ W W' : World, Below N u W → Below W.heap.size W W' → Below N u W') := fun W W' h1 h2 => h1.trans (h2.mono (by rw [hN]; exact h1.size))
  clear hN
  go_enter Try.func16, Try.ntmps16
  go_upto_region 1 with (first
    | ((with_reducible refine wpList_box_dot (by rfl) (.tmp 4) (by rfl) (some 9) (by rfl) N (unhide HN) (dx : Int) (dy : Int) (by with_unfolding_all rfl) ?_); intro W1 HX1 HB1 HS1; simp only [Act.put, List.setIfInBounds_toArray, List.set_cons_zero, List.set_cons_succ]; obtain ⟨y0, y1⟩ := box2 (unhide HX1))
    | fail)
  have HBX := HB1
  have HU1 : Hid (Below u.heap.size u W1) := by rw [← unhide HN]; exact unhide HB1
  replace H1 := hide ((unhide H1).below (unhide HU1))
  replace H2 := hide ((unhide H2).below (unhide HU1))
  replace H3 := hide ((unhide H3).below (unhide HU1))
  replace H4 := hide ((unhide H4).below (unhide HU1))
  have X1 := hide (krNext dx (px, py) pe (unhide HNX) (unhide EA) (unhide H3) W1 (Below.refl _ _))
  go_upto_region 2 with (first
    | (go_at_call 50; refine (unhide X1).mono ?_; rintro e W2 ⟨rfl, hb1⟩; replace HBX := hide (unhide HUP _ _ (unhide HBX) hb1); have HX2 := hide (box_below (unhide HX1) hb1); replace H1 := hide ((unhide H1).below hb1); replace H2 := hide ((unhide H2).below hb1); replace H3 := hide ((unhide H3).below hb1); replace H4 := hide ((unhide H4).below hb1); clear hb1)
    | ((with_reducible refine wpList_alloc_dot (by rfl) (by rfl) (some 11) (by rfl) W2.heap.size rfl ?_); intro W3 HX3 HB3 HS3; simp only [Act.put, List.setIfInBounds_toArray, List.set_cons_zero, List.set_cons_succ])
    | ((with_reducible refine wpList_store_dot (by rfl) (.tmp 11) (.tmp 24) (by rfl) W2.heap.size (px : Int) (py : Int) (by with_unfolding_all rfl) (by with_unfolding_all rfl) (unhide HX3) ?_); intro W4 HX4 HE4; simp only [Act.put]; have HB4 : Hid (Below W2.heap.size W2 W4) := (by rw [unhide HE4]; exact belowRow (unhide HB3) (Nat.le_refl _) _))
    | fail)
  replace HBX := hide (unhide HUP _ _ (unhide HBX) (unhide HB4))
  replace HX1 := hide (box_below (unhide HX2) (unhide HB4))
  replace H1 := hide ((unhide H1).below (unhide HB4))
  replace H2 := hide ((unhide H2).below (unhide HB4))
  replace H3 := hide ((unhide H3).below (unhide HB4))
  replace H4 := hide ((unhide H4).below (unhide HB4))
  obtain ⟨D2, hD2⟩ : ∃ D, D = W2.heap.size := ⟨_, rfl⟩
  rw [← hD2] at HX4 ⊢
  clear hD2 HX2 HX3 HB3 HS3 HE4 HB4 y0 y1 HB1 HS1 HU1 X1
  obtain ⟨y0, y1⟩ := box2 (unhide HX1)
  have X2 := hide (kNext dx (px, py) pe (unhide HNX) (unhide EA) (unhide H1) W4 (Below.refl _ _))
  go_upto_region 3 with (first
    | (go_at_call 44; refine (unhide X2).mono ?_; rintro e W5 ⟨rfl, hb1⟩; replace HBX := hide (unhide HUP _ _ (unhide HBX) hb1); replace HX1 := hide (box_below (unhide HX1) hb1); replace HX4 := hide (box_below (unhide HX4) hb1); replace H1 := hide ((unhide H1).below hb1); replace H2 := hide ((unhide H2).below hb1); replace H3 := hide ((unhide H3).below hb1); replace H4 := hide ((unhide H4).below hb1); clear hb1)
    | ((with_reducible refine wpList_alloc_dot (by rfl) (by rfl) (some 13) (by rfl) W5.heap.size rfl ?_); intro W6 HX6 HB6 HS6; simp only [Act.put, List.setIfInBounds_toArray, List.set_cons_zero, List.set_cons_succ])
    | ((with_reducible refine wpList_store_dot (by rfl) (.tmp 13) (.tmp 31) (by rfl) W5.heap.size (px : Int) (py : Int) (by with_unfolding_all rfl) (by with_unfolding_all rfl) (unhide HX6) ?_); intro W7 HX7 HE7; simp only [Act.put]; have HB7 : Hid (Below W5.heap.size W5 W7) := (by rw [unhide HE7]; exact belowRow (unhide HB6) (Nat.le_refl _) _))
    | fail)
  replace HBX := hide (unhide HUP _ _ (unhide HBX) (unhide HB7))
  replace HX1 := hide (box_below (unhide HX1) (unhide HB7))
  replace HX4 := hide (box_below (unhide HX4) (unhide HB7))
  replace H1 := hide ((unhide H1).below (unhide HB7))
  replace H2 := hide ((unhide H2).below (unhide HB7))
  replace H3 := hide ((unhide H3).below (unhide HB7))
  replace H4 := hide ((unhide H4).below (unhide HB7))
  obtain ⟨D5, hD5⟩ : ∃ D, D = W5.heap.size := ⟨_, rfl⟩
  rw [← hD5] at HX7 ⊢
  clear hD5 HX6 HB6 HS6 HE7 HB7 y0 y1 X2
  have HC : Hid (∀ W : World, Below W7.heap.size W7 W → (W.cell? ⟨N, 0, none⟩ = some (.int .u32 (dx : Int)) ∧ W.cell? ⟨N, 1, none⟩ = some (.int .u64 (dy : Int))) ∧ (W.cell? ⟨D2, 0, none⟩ = some (.int .u32 (px : Int)) ∧ W.cell? ⟨D2, 1, none⟩ = some (.int .u64 (py : Int))) ∧ (W.cell? ⟨D5, 0, none⟩ = some (.int .u32 (px : Int)) ∧ W.cell? ⟨D5, 1, none⟩ = some (.int .u64 (py : Int)))) := fun W hW => ⟨box2 (box_below (unhide HX1) hW), box2 (box_below (unhide HX4) hW), box2 (box_below (unhide HX7) hW)⟩
  have A1 := hide (kValid _ rfl (unhide EA) (unhide H1))
  have A2 := hide (krValid _ rfl (unhide EA) (unhide H3))
  have A3 := hide (kCount dx _ rfl (unhide EA) (unhide H1))
  have A4 := hide (krCount dx _ rfl (unhide EA) (unhide H3))
  have A5 := hide (kCovers dx dy _ rfl (unhide EA) (unhide H1))
  have A6 := hide (krCovers dx dy _ rfl (unhide EA) (unhide H3))
  have A7 := hide (kEncode es ee (unhide HES) (unhide EA) (unhide H1))
  have A8 := hide (krEncode es ee (unhide HES) (unhide EA) (unhide H3))
  have C1 := hide (kBelow _ rfl (unhide EA) (unhide EB) (unhide H1) (unhide H2))
  have C2 := hide (krBelow _ rfl (unhide EA) (unhide EB) (unhide H3) (unhide H4))
  have C3 := hide (kBelow _ rfl (unhide EB) (unhide EA) (unhide H2) (unhide H1))
  have C4 := hide (krBelow _ rfl (unhide EB) (unhide EA) (unhide H4) (unhide H3))
  have C5 := hide (kCompare _ rfl (unhide EA) (unhide EB) (unhide H1) (unhide H2))
  have C6 := hide (krCompare _ rfl (unhide EA) (unhide EB) (unhide H3) (unhide H4))
  have C7 := hide (kCompare _ rfl (unhide EB) (unhide EA) (unhide H2) (unhide H1))
  have C8 := hide (krCompare _ rfl (unhide EB) (unhide EA) (unhide H4) (unhide H3))
  generalize V.okB a = r1 at *
  generalize V.cntV a dx = r2 at *
  generalize covB a (dx, dy) = r3 at *
  generalize belB a b = r4 at *
  generalize belB b a = r5 at *
  generalize cmpV a b = r6 at *
  generalize cmpV b a = r7 at *
  clear H1 H2 H3 H4 HX1 HX4 HX7 HNX HES
  obtain ⟨⟨a1, a2⟩, ⟨a3, a4⟩, ⟨a5, a6⟩⟩ := unhide HC _ (Below.refl _ _)
  go_cut [67] (fun s67 wx => s67 = .bool false ∧ Hid (Below W7.heap.size W7 wx))
  case first =>
    go_region_held3 (fun w => w.cell? ⟨N, 0, none⟩ = some (.int .u32 (dx : Int)) ∧ w.cell? ⟨N, 1, none⟩ = some (.int .u64 (dy : Int)) ∧ w.cell? ⟨D2, 0, none⟩ = some (.int .u32 (px : Int)) ∧ w.cell? ⟨D2, 1, none⟩ = some (.int .u64 (py : Int)) ∧ w.cell? ⟨D5, 0, none⟩ = some (.int .u32 (px : Int)) ∧ w.cell? ⟨D5, 1, none⟩ = some (.int .u64 (py : Int))) (first | exact ⟨a1, a2, a3, a4, a5, a6⟩ | exact ⟨b1, b2, b3, b4, b5, b6⟩ | exact ⟨c1, c2, c3, c4, c5, c6⟩ | exact ⟨d1, d2, d3, d4, d5, d6⟩ | exact ⟨e1, e2, e3, e4, e5, e6⟩ | exact ⟨f1, f2, f3, f4, f5, f6⟩ | exact ⟨g1, g2, g3, g4, g5, g6⟩ | (go_keep; done)) (first
      | (go_at_call 41; refine (unhide A1 _ (belowDrew (Below.refl _ _))).mono ?_; rintro e w1 ⟨rfl, hb1⟩; have HB1 := hide hb1; obtain ⟨⟨b1, b2⟩, ⟨b3, b4⟩, ⟨b5, b6⟩⟩ := unhide HC _ hb1; clear hb1)
      | (go_at_call 51; refine (unhide A2 _ (unhide HB1)).mono ?_; rintro e w2 ⟨rfl, hb1⟩; have HB2 := hide hb1; obtain ⟨⟨c1, c2⟩, ⟨c3, c4⟩, ⟨c5, c6⟩⟩ := unhide HC _ hb1; clear hb1)
      | (go_at_call 43; refine (unhide A3 _ (unhide HB2)).mono ?_; rintro e w3 ⟨rfl, hb1⟩; have HB3 := hide hb1; obtain ⟨⟨d1, d2⟩, ⟨d3, d4⟩, ⟨d5, d6⟩⟩ := unhide HC _ hb1; clear hb1)
      | (go_at_call 52; refine (unhide A4 _ (unhide HB3)).mono ?_; rintro e w4 ⟨rfl, hb1⟩; have HB4 := hide hb1; obtain ⟨⟨e1, e2⟩, ⟨e3, e4⟩, ⟨e5, e6⟩⟩ := unhide HC _ hb1; clear hb1)
      | (go_at_call 45; refine (unhide A5 _ (unhide HB4)).mono ?_; rintro e w5 ⟨rfl, hb1⟩; have HB5 := hide hb1; obtain ⟨⟨f1, f2⟩, ⟨f3, f4⟩, ⟨f5, f6⟩⟩ := unhide HC _ hb1; clear hb1)
      | (go_at_call 53; refine (unhide A6 _ (unhide HB5)).mono ?_; rintro e w6 ⟨rfl, hb1⟩; have HB6 := hide hb1; obtain ⟨⟨g1, g2⟩, ⟨g3, g4⟩, ⟨g5, g6⟩⟩ := unhide HC _ hb1; clear hb1)
      | fail)
    go_wp2_with fail
    go_meet
    exact ⟨rfl, unhide HB6⟩
  case rest =>
    obtain ⟨rfl, HC0⟩ := hcut
    have HB0 := HC0
    clear HC0 a1 a2 a3 a4 a5 a6 HC
    go_wp2_with (first
      | (go_at_call 25; refine (unhide A7 _ (unhide HB0)).mono ?_; rintro e w1 ⟨rfl, hb1⟩; replace HB0 := hide hb1; clear hb1)
      | (go_at_call 24; refine (unhide A8 _ (unhide HB0)).mono ?_; rintro e w2 ⟨rfl, hb1⟩; replace HB0 := hide hb1; clear hb1)
      | (go_at_call 42; (first | (with_reducible refine (unhide C1 _ (unhide HB0)).mono ?_) | (with_reducible refine (unhide C3 _ (unhide HB0)).mono ?_)); rintro e w3 ⟨rfl, hb1⟩; replace HB0 := hide hb1; clear hb1)
      | (go_at_call 54; (first | (with_reducible refine (unhide C2 _ (unhide HB0)).mono ?_) | (with_reducible refine (unhide C4 _ (unhide HB0)).mono ?_)); rintro e w3 ⟨rfl, hb1⟩; replace HB0 := hide hb1; clear hb1)
      | (go_at_call 46; (first | (with_reducible refine (unhide C5 _ (unhide HB0)).mono ?_) | (with_reducible refine (unhide C7 _ (unhide HB0)).mono ?_)); rintro e w3 ⟨rfl, hb1⟩; replace HB0 := hide hb1; clear hb1)
      | (go_at_call 55; (first | (with_reducible refine (unhide C6 _ (unhide HB0)).mono ?_) | (with_reducible refine (unhide C8 _ (unhide HB0)).mono ?_)); rintro e w3 ⟨rfl, hb1⟩; replace HB0 := hide hb1; clear hb1)
      | fail)
    go_ret
    exact ⟨rfl, unhide HUP _ _ (unhide HBX) (unhide HB0)⟩
end Go.Proofs.Ytajflgonhomkfaa
