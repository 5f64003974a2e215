/- Segments: Key, Of, Prefix, on both sides. -/
import Derived.Test.YtbahlfpcbplofaaSgb
import Derived.Test.YtbahlfpcbplofaaZaw
import Derived.Test.YtbahlfpcbplofaaDgc
namespace Go.Proofs.Ytbahlfpcbplofaa.S
open Go.RowKit Go.Lib
theorem hide {p : Prop} (h : p) : Hid p := h
theorem unhide {p : Prop} (h : Hid p) : p := h
theorem oKey (k : ByteArray) (u : World) : Calls Try.prog 68 #[.string k] u fun e u' => e = .returned (.int .i64 (keyE k)) ∧ u' = u := by
  by_cases h1 : k.size < 1
  · have e : keyE k = 130 := by unfold keyE; rw [if_neg (by omega)]
    rw [e]
    have h1' : (k.size : Int) < 1 := by omega
    clear e
    go_enter Try.func68, Try.ntmps68
    go_wp2
    go_ret
    exact ⟨rfl, rfl⟩
  · by_cases h2 : 32 < k.size
    · have e : keyE k = 130 := by unfold keyE; rw [if_neg (by omega)]
      rw [e]
      have h1' : ¬ (k.size : Int) < 1 := by omega
      have h2' : (k.size : Int) > 32 := by omega
      clear e
      go_enter Try.func68, Try.ntmps68
      go_wp2
      go_ret
      exact ⟨rfl, rfl⟩
    · have e : keyE k = 0 := by unfold keyE; rw [if_pos (by omega)]
      rw [e]
      have h1' : ¬ (k.size : Int) < 1 := by omega
      have h2' : ¬ (k.size : Int) > 32 := by omega
      clear e
      go_enter Try.func68, Try.ntmps68
      go_wp2
      go_ret
      exact ⟨rfl, rfl⟩
theorem qKey (k : ByteArray) (u : World) : Calls Try.prog 60 #[.string k] u fun e u' => e = .returned (.int .i64 (keyE k)) ∧ u' = u := by
  by_cases h1 : k.size < 1
  · have e : keyE k = 130 := by unfold keyE; rw [if_neg (by omega)]
    rw [e]
    have h1' : (k.size : Int) < 1 := by omega
    clear e
    go_enter Try.func60, Try.ntmps60
    go_wp2
    go_ret
    exact ⟨rfl, rfl⟩
  · by_cases h2 : 32 < k.size
    · have e : keyE k = 130 := by unfold keyE; rw [if_neg (by omega)]
      rw [e]
      have h1' : ¬ (k.size : Int) < 1 := by omega
      have h2' : (k.size : Int) > 32 := by omega
      clear e
      go_enter Try.func60, Try.ntmps60
      go_wp2
      go_ret
      exact ⟨rfl, rfl⟩
    · have e : keyE k = 0 := by unfold keyE; rw [if_pos (by omega)]
      rw [e]
      have h1' : ¬ (k.size : Int) < 1 := by omega
      have h2' : ¬ (k.size : Int) > 32 := by omega
      clear e
      go_enter Try.func60, Try.ntmps60
      go_wp2
      go_ret
      exact ⟨rfl, rfl⟩
theorem ofCells_at (l : List UInt8) (i : Nat) (h : i < 32) : (D.ofCells l)[i]? = some (.int .u8 (((D.Sha.of l).getD i 0).toNat : Int)) := by
  have hs := D.ofCells_size l
  unfold D.ofCells at hs ⊢
  rw [List.getElem?_toArray]
  unfold Lib.byteCells at hs ⊢
  have hl : (D.Sha.of l).length = 32 := by simpa using hs
  simp [List.getD_eq_getElem?_getD, hl, h]
theorem or_place (a b : Nat) (hb : b < 256) : a * 16 ||| b / 16 = a * 16 + b / 16 := by
  have h := Nat.shiftLeft_add_eq_or_of_lt (b := b / 16) (i := 4) (by omega) a
  rw [Nat.shiftLeft_eq] at h
  exact h.symm
theorem i64_or_place (a b : Nat) (ha : a < 256) (hb : b < 256) : bits .or .i64 ((a : Int) * 16) ((b : Int) / 16) = ((a * 16 + b / 16 : Nat) : Int) := by
  have e1 : (a : Int) * 16 = ((a * 16 : Nat) : Int) := by omega
  have e2 : (b : Int) / 16 = ((b / 16 : Nat) : Int) := by omega
  rw [e1, e2]
  show IntKind.i64.wrap ((BitVec.ofInt 64 ((a * 16 : Nat) : Int) ||| BitVec.ofInt 64 ((b / 16 : Nat) : Int)).toNat : Int) = _
  rw [BitVec.toNat_or, ofInt_u64 _ (by omega), ofInt_u64 _ (by omega), or_place a b hb]
  generalize hq : a * 16 + b / 16 = q
  rw [IntKind.wrap_i64]
  omega
set_option maxHeartbeats 1000000 in
theorem oPlace0 (k : ByteArray) (hk : k.size ≤ 32) (u : World) : Calls Try.prog 84 #[.string k] u fun e u' => e = .returned (.int .i64 (plN k : Int)) ∧ Below u.heap.size u u' := by
  obtain ⟨T, hT⟩ : ∃ T : ByteArray, T = ⟨#[75]⟩ ++ k := ⟨_, rfl⟩
  have hTd : T.data.toList = 75 :: k.data.toList := by
    rw [hT, ByteArray.data_append, Array.toList_append]
    rfl
  have hTs : T.size ≤ 140737488355328 := by
    have h : T.size = T.data.toList.length := rfl
    rw [h, hTd]
    have h2 : k.data.toList.length = k.size := rfl
    simp only [List.length_cons, h2]
    omega
  have hcat : (Op.stringOp .add (⟨#[75]⟩ : ByteArray) k).run Try.prog u = .ok (.string T) u := by
    rw [hT]
    have h1 : ((⟨#[75]⟩ : ByteArray).size : Int) = 1 := rfl
    unfold Op.stringOp
    simp [h1]
    omega
  obtain ⟨p, hp⟩ : ∃ p, p = plN k := ⟨_, rfl⟩
  unfold plN at hp
  rw [← hTd] at hp
  rw [show plN k = p by unfold plN; rw [hp, hTd]]
  have HQ := hide (D.dOf T hTs)
  have hx := ofCells_at T.data.toList 0 (by decide)
  have hy := ofCells_at T.data.toList 1 (by decide)
  have ha := ((D.Sha.of T.data.toList).getD 0 0).toNat_lt
  have hb := ((D.Sha.of T.data.toList).getD 1 0).toNat_lt
  generalize ((D.Sha.of T.data.toList).getD 0 0).toNat = a at *
  generalize ((D.Sha.of T.data.toList).getD 1 0).toNat = b at *
  have HP := hide hp
  have HX := hide hx
  have HY := hide hy
  clear hp hx hy hT hTd
  have HZS : Hid (D.Z32.size = (D.ofCells T.data.toList).size) := by rw [D.ofCells_size]; rfl
  go_enter Try.func84, Try.ntmps84
  go_wp2_with (first
    | (go_at_call 82; refine (unhide HQ u).mono ?_; rintro e W1 ⟨rfl, hb1⟩; have HB1 := hide hb1; clear hb1; obtain ⟨N, hN⟩ : ∃ N, N = W1.heap.size := ⟨_, rfl⟩; have HN := hide hN; clear hN)
    | ((with_reducible refine wpList_alloc_row (by rfl) _ (by rfl) (some 3) (by rfl) N (unhide HN).symm _ D.zeroS ?_); intro W2 HX2 HB2 HS2; simp only [Act.put, List.setIfInBounds_toArray, List.set_cons_zero, List.set_cons_succ])
    | ((with_reducible refine wpList_store_hid (by rfl) _ (.tmp 3) (.tmp 6) (by rfl) N _ (by with_unfolding_all rfl) (by with_unfolding_all rfl) _ _ (unhide HX2) (D.ofCells_info _) (unhide HZS) (D.ofCells_one _) ?_); intro W3 HX3 HE3; simp only [Act.put]; have c0 := arr_cell (unhide HX3) (unhide HX); have c1 := arr_cell (unhide HX3) (unhide HY))
    | fail)
  rw [i64_or_place a b ha hb, ← unhide HP]
  go_ret
  refine ⟨rfl, ?_⟩
  rw [unhide HE3]
  exact belowRow ((unhide HB1).trans ((unhide HB2).mono (by rw [unhide HN]; exact (unhide HB1).size))) (by rw [unhide HN]; exact (unhide HB1).size) _
set_option maxHeartbeats 1000000 in
theorem oPlace (k : ByteArray) (u : World) : Calls Try.prog 59 #[.string k] u fun e u' => e = .returned (.tuple #[.int .i64 (if keyE k = 0 then (plN k : Int) else 0), .int .i64 (keyE k)]) ∧ Below u.heap.size u u' := by
  have HK := hide (oKey k)
  by_cases h : keyE k = 0
  · rw [if_pos h, h]
    rw [h] at HK
    have HP := hide (oPlace0 k (keyE_zero.1 h).2)
    clear h
    go_enter Try.func59, Try.ntmps59
    go_wp2_with (first
      | (go_at_call 68; refine (unhide HK u).mono ?_; rintro e W1 ⟨rfl, rfl⟩)
      | (go_at_call 84; refine (unhide HP _).mono ?_; rintro e W2 ⟨rfl, hb⟩; have HB := hide hb; clear hb)
      | fail)
    go_ret2
    exact ⟨rfl, unhide HB⟩
  · rw [if_neg h, keyE_no h]
    rw [keyE_no h] at HK
    clear h
    go_enter Try.func59, Try.ntmps59
    go_wp2_with (first
      | (go_at_call 68; refine (unhide HK u).mono ?_; rintro e W1 ⟨rfl, rfl⟩)
      | fail)
    go_ret2
    exact ⟨rfl, Below.refl _ _⟩
theorem sOf (k : ByteArray) (u : World) : Calls Try.prog 15 #[.string k] u fun e u' => e = .returned (.int .i64 (ofI k)) ∧ Below u.heap.size u u' := by
  have HP := hide (oPlace k)
  by_cases h : keyE k = 0
  · rw [show ofI k = (plN k : Int) by unfold ofI; rw [if_pos h]]
    rw [if_pos h, h] at HP
    clear h
    go_enter Try.func15, Try.ntmps15
    go_wp2_with (first
      | (go_at_call 59; refine (unhide HP u).mono ?_; rintro e W1 ⟨rfl, hb⟩; have HB := hide hb; clear hb)
      | fail)
    go_ret
    exact ⟨rfl, unhide HB⟩
  · rw [show ofI k = -1 by unfold ofI; rw [if_neg h]]
    rw [if_neg h, keyE_no h] at HP
    clear h
    go_enter Try.func15, Try.ntmps15
    go_wp2_with (first
      | (go_at_call 59; refine (unhide HP u).mono ?_; rintro e W1 ⟨rfl, hb⟩; have HB := hide hb; clear hb)
      | fail)
    go_ret
    exact ⟨rfl, unhide HB⟩
set_option maxRecDepth 100000 in
set_option maxHeartbeats 2000000 in
theorem qOf (k : ByteArray) (u : World) : Calls Try.prog 16 #[.string k] u fun e u' => e = .returned (.int .i64 (ofI k)) ∧ Below u.heap.size u u' := by
  have HK := hide (qKey k)
  by_cases h : keyE k = 0
  · rw [show ofI k = (plN k : Int) by unfold ofI; rw [if_pos h]]
    rw [h] at HK
    have hk := (keyE_zero.1 h).2
    clear h
    obtain ⟨T, hT⟩ : ∃ T : ByteArray, T = ⟨#[75]⟩ ++ k := ⟨_, rfl⟩
    have hTd : T.data.toList = 75 :: k.data.toList := by
      rw [hT, ByteArray.data_append, Array.toList_append]
      rfl
    have hTs : T.size ≤ 140737488351232 := by
      have h : T.size = T.data.toList.length := rfl
      rw [h, hTd]
      have h2 : k.data.toList.length = k.size := rfl
      simp only [List.length_cons, h2]
      omega
    have hcat : (Op.stringOp .add (⟨#[75]⟩ : ByteArray) k).run Try.prog u = .ok (.string T) u := by
      rw [hT]
      have h1 : ((⟨#[75]⟩ : ByteArray).size : Int) = 1 := rfl
      unfold Op.stringOp
      simp [h1]
      omega
    obtain ⟨p, hp⟩ : ∃ p, p = plN k := ⟨_, rfl⟩
    unfold plN at hp
    rw [← hTd] at hp
    rw [show plN k = p by unfold plN; rw [hp, hTd]]
    have HQ := hide (D.mOf T hTs)
    have hx := ofCells_at T.data.toList 0 (by decide)
    have hy := ofCells_at T.data.toList 1 (by decide)
    have ha := ((D.Sha.of T.data.toList).getD 0 0).toNat_lt
    have hb := ((D.Sha.of T.data.toList).getD 1 0).toNat_lt
    generalize ((D.Sha.of T.data.toList).getD 0 0).toNat = a at *
    generalize ((D.Sha.of T.data.toList).getD 1 0).toNat = b at *
    have HP := hide hp
    have HX := hide hx
    have HY := hide hy
    clear hp hx hy hT hTd
    have HZS : Hid (D.Z32.size = (D.ofCells T.data.toList).size) := by rw [D.ofCells_size]; rfl
    go_enter Try.func16, Try.ntmps16
    go_wp2_with (first
      | (go_at_call 60; refine (unhide HK u).mono ?_; rintro e W0 ⟨rfl, rfl⟩)
      | (go_at_call 61; refine (unhide HQ _).mono ?_; rintro e W1 ⟨rfl, hb1⟩; have HB1 := hide hb1; clear hb1; obtain ⟨N, hN⟩ : ∃ N, N = W1.heap.size := ⟨_, rfl⟩; have HN := hide hN; clear hN)
      | ((with_reducible refine wpList_alloc_row (by rfl) _ (by rfl) (some 3) (by rfl) N (unhide HN).symm _ D.zeroS ?_); intro W2 HX2 HB2 HS2; simp only [Act.put, List.setIfInBounds_toArray, List.set_cons_zero, List.set_cons_succ])
      | ((with_reducible refine wpList_store_hid (by rfl) _ (.tmp 3) (.tmp 9) (by rfl) N _ (by with_unfolding_all rfl) (by with_unfolding_all rfl) _ _ (unhide HX2) (D.ofCells_info _) (unhide HZS) (D.ofCells_one _) ?_); intro W3 HX3 HE3; simp only [Act.put]; have c0 := arr_cell (unhide HX3) (unhide HX); have c1 := arr_cell (unhide HX3) (unhide HY))
      | fail)
    have hq : (a : Int) * 16 + (b : Int) / 16 = (p : Int) := by have := unhide HP; omega
    rw [hq]
    go_ret
    refine ⟨rfl, ?_⟩
    rw [unhide HE3]
    exact belowRow ((unhide HB1).trans ((unhide HB2).mono (by rw [unhide HN]; exact (unhide HB1).size))) (by rw [unhide HN]; exact (unhide HB1).size) _
  · rw [show ofI k = -1 by unfold ofI; rw [if_neg h]]
    rw [keyE_no h] at HK
    clear h
    go_enter Try.func16, Try.ntmps16
    go_wp2_with (first
      | (go_at_call 60; refine (unhide HK u).mono ?_; rintro e W1 ⟨rfl, rfl⟩)
      | fail)
    go_ret
    exact ⟨rfl, Below.refl _ _⟩
def segB (n : Int) : Bool := decide (segP n)
theorem segB_true {n : Int} : segB n = true ↔ segP n := by unfold segB; exact decide_eq_true_iff
theorem segB_eq (n : Int) : segB n = (decide (0 ≤ n) && decide (n < 4096)) := by
  rw [Bool.eq_iff_iff, Bool.and_eq_true, decide_eq_true_eq, decide_eq_true_eq]; exact segB_true
theorem segB_false {n : Int} : segB n = false ↔ ¬ segP n := by unfold segB; exact decide_eq_false_iff_not
def widB (n : Int) : Bool := decide (widP n)
theorem widB_true {n : Int} : widB n = true ↔ widP n := by unfold widB; exact decide_eq_true_iff
theorem widB_eq (n : Int) : widB n = (decide (1 ≤ n) && decide (n ≤ 32)) := by
  rw [Bool.eq_iff_iff, Bool.and_eq_true, decide_eq_true_eq, decide_eq_true_eq]; exact widB_true
theorem widB_false {n : Int} : widB n = false ↔ ¬ widP n := by unfold widB; exact decide_eq_false_iff_not
theorem sIsSeg (n : Int) (u : World) : Calls Try.prog 55 #[.int .i64 n] u fun e u' => e = .returned (.bool (segB n)) ∧ u' = u := by
  rw [segB_eq]
  by_cases h1 : 0 ≤ n
  · rw [decide_eq_true h1, Bool.true_and]
    go_enter Try.func55, Try.ntmps55
    go_wp2
    go_ret
    exact ⟨rfl, rfl⟩
  · rw [decide_eq_false h1, Bool.false_and]
    go_enter Try.func55, Try.ntmps55
    go_wp2
    go_ret
    exact ⟨rfl, rfl⟩
theorem qIsSeg (n : Int) (u : World) : Calls Try.prog 53 #[.int .i64 n] u fun e u' => e = .returned (.bool (segB n)) ∧ u' = u := by
  rw [segB_eq]
  by_cases h1 : 0 ≤ n
  · rw [decide_eq_true h1, Bool.true_and]
    go_enter Try.func53, Try.ntmps53
    go_wp2
    go_ret
    exact ⟨rfl, rfl⟩
  · rw [decide_eq_false h1, Bool.false_and]
    go_enter Try.func53, Try.ntmps53
    go_wp2
    go_ret
    exact ⟨rfl, rfl⟩
theorem sIsWid (n : Int) (u : World) : Calls Try.prog 67 #[.int .i64 n] u fun e u' => e = .returned (.bool (widB n)) ∧ u' = u := by
  rw [widB_eq]
  by_cases h1 : 1 ≤ n
  · rw [decide_eq_true h1, Bool.true_and]
    go_enter Try.func67, Try.ntmps67
    go_wp2
    go_ret
    exact ⟨rfl, rfl⟩
  · rw [decide_eq_false h1, Bool.false_and]
    go_enter Try.func67, Try.ntmps67
    go_wp2
    go_ret
    exact ⟨rfl, rfl⟩
theorem qIsWid (n : Int) (u : World) : Calls Try.prog 64 #[.int .i64 n] u fun e u' => e = .returned (.bool (widB n)) ∧ u' = u := by
  rw [widB_eq]
  by_cases h1 : 1 ≤ n
  · rw [decide_eq_true h1, Bool.true_and]
    go_enter Try.func64, Try.ntmps64
    go_wp2
    go_ret
    exact ⟨rfl, rfl⟩
  · rw [decide_eq_false h1, Bool.false_and]
    go_enter Try.func64, Try.ntmps64
    go_wp2
    go_ret
    exact ⟨rfl, rfl⟩
/- writers -/
structure Wn (u w : World) (B a r : Nat) (bs : List UInt8) : Prop where
  wr : W.Wr w a r bs
  below : Below B u w
  sz : B ≤ w.heap.size
  ha : B ≤ a
  hr : B ≤ r
theorem Wn.put {u w w' : World} {B a r r' : Nat} {bs bs' : List UInt8} (h : Wn u w B a r bs) (hp : W.Put w w' a r r' bs') : Wn u w' B a r' bs' :=
  ⟨hp.1, h.below.trans (hp.2.2.below h.sz h.ha h.hr), Nat.le_trans h.sz hp.2.2.size, h.ha, by rcases hp.2.1 with e | e; rw [e]; exact h.hr; exact Nat.le_trans h.sz e⟩
theorem Wr.below {w w' : World} {a r : Nat} {bs : List UInt8} (h : W.Wr w a r bs) (hb : Below w.heap.size w w') : W.Wr w' a r bs :=
  h.same hb.size (hb.block a h.1) (hb.block r h.2.1)
theorem Wn.belw {u w w' : World} {B a r : Nat} {bs : List UInt8} (h : Wn u w B a r bs) (hb : Below w.heap.size w w') : Wn u w' B a r bs :=
  ⟨Wr.below h.wr hb, h.below.trans (hb.mono h.sz), Nat.le_trans h.sz hb.size, h.ha, h.hr⟩
theorem Wn.max {u w : World} {B a r : Nat} {bs : List UInt8} (h : Wn u w B a r bs) : bs.length ≤ 140737488355328 := h.wr.2.2.1
theorem Wn.new (u : World) (t : TypeId) : Wn u (u.alloc (.cells #[.slice none 0 0] t)) u.heap.size u.heap.size u.heap.size [] :=
  ⟨W.Wr.new u t, (Below.refl _ _).alloc (Nat.le_refl _) _, by simp, Nat.le_refl _, Nat.le_refl _⟩
theorem wnNew (X : World) : Calls Try.prog 56 #[] X fun e X' => ∃ a r, e = .returned (.pointer (some ⟨a, 0, none⟩)) ∧ Wn X X' X.heap.size a r [] := (W.wNew X).mono fun e X' hh => by
  obtain ⟨h1, h2⟩ := hh
  exact ⟨_, _, h1, by rw [h2]; exact Wn.new X 97⟩
section
variable {u w : World} {B a r : Nat} {bs : List UInt8}
theorem wnByte (h : Wn u w B a r []) : Calls Try.prog 90 #[.pointer (some ⟨a, 0, none⟩), .int .u8 83] w fun e w' => e = .returned (.tuple #[]) ∧ ∃ r', Wn u w' B a r' [83] :=
  (W.wByte a r [] 83 w h.wr (by decide) (by decide) (by decide)).mono fun e w' ⟨h1, r', hp⟩ => ⟨h1, r', h.put hp⟩
theorem wnText (h : Wn u w B a r bs) (s : ByteArray) (hl : bs.length ≤ 140737488000000) (hs : s.size ≤ 1000) : Calls Try.prog 92 #[.pointer (some ⟨a, 0, none⟩), .string s] w fun e w' => e = .returned (.tuple #[]) ∧ ∃ r', Wn u w' B a r' (bs ++ textB s) :=
  (W.wText a r bs s w h.wr (by omega)).mono fun e w' ⟨h1, r', hp⟩ => ⟨h1, r', h.put hp⟩
theorem wnUint (h : Wn u w B a r bs) (v : Int) (h0 : 0 ≤ v) (h1 : v < 18446744073709551616) (hl : bs.length ≤ 140737488000000) : Calls Try.prog 91 #[.pointer (some ⟨a, 0, none⟩), .int .u64 v] w fun e w' => e = .returned (.tuple #[]) ∧ ∃ r', Wn u w' B a r' (bs ++ W.uintB 9 v.toNat) :=
  (W.wUintI a r bs v w h.wr h0 h1 (by omega)).mono fun e w' ⟨h1, r', hp⟩ => ⟨h1, r', h.put hp⟩
theorem wnFixed (h : Wn u w B a r bs) (p : Nat) (hp : p < 65536) (hl : bs.length ≤ 140737488000000) : Calls Try.prog 83 #[.pointer (some ⟨a, 0, none⟩), .int .u64 p, .int .i64 2] w fun e w' => e = .returned (.int .i64 0) ∧ ∃ r', Wn u w' B a r' (bs ++ W.fixB p 2) :=
  (W.wFixed a r bs p 2 w h.wr (by decide) (by decide) (by simpa using hp) (by omega)).mono fun e w' ⟨h1, r', hp⟩ => ⟨h1, r', h.put hp⟩
theorem wnTold (h : Wn u w B a r bs) : Calls Try.prog 58 #[.pointer (some ⟨a, 0, none⟩)] w fun e w' => e = .returned (.string ⟨bs.toArray⟩) ∧ w' = w := W.wTold a r bs w h.wr
theorem wnNumber (h : Wn u w B a r bs) (p : Nat) (hp : p < 4096) (hl : bs.length ≤ 140737488000000) : Calls Try.prog 57 #[.pointer (some ⟨a, 0, none⟩), .int .i64 p] w fun e w' => e = .returned (.tuple #[]) ∧ ∃ r', Wn u w' B a r' (bs ++ W.fixB p 2) := by
  have HF := hide (wnFixed h p (by omega) hl)
  have hpi : (p : Int) < 4096 := by omega
  clear h hp hl
  go_enter Try.func57, Try.ntmps57
  go_wp2_with (first
    | (go_at_call 83; refine (unhide HF).mono ?_; rintro e W2 ⟨rfl, r2, hw⟩; have H2 := hide hw; clear hw)
    | fail)
  go_returns
  exact ⟨rfl, r2, unhide H2⟩
end
theorem sPrefix (n : Int) (u : World) : Calls Try.prog 14 #[.int .i64 n] u fun e u' => e = .returned (.tuple #[.string (preV n).1, .int .i64 (preV n).2]) ∧ Below u.heap.size u u' := by
  have HS := hide (sIsSeg n)
  by_cases h : segP n
  · rw [segB_true.2 h] at HS
    rw [show preV n = (⟨(W.fixB n.toNat 2).toArray⟩, 0) by unfold preV; rw [if_pos h]]
    obtain ⟨p, rfl⟩ := Int.eq_ofNat_of_zero_le h.1
    have hp : p < 4096 := by have := h.2; omega
    rw [Int.toNat_natCast]
    have HNW : Hid (∀ X, Calls Try.prog 56 #[] X fun e X' => ∃ a r, e = .returned (.pointer (some ⟨a, 0, none⟩)) ∧ Wn X X' X.heap.size a r []) := wnNew
    clear h
    go_enter Try.func14, Try.ntmps14
    go_wp2_with (first
      | (go_at_call 55; refine (unhide HS u).mono ?_; rintro e W0 ⟨rfl, rfl⟩)
      | (go_at_call 56; refine (unhide HNW _).mono ?_; rintro e W1 ⟨a, r, rfl, hw⟩; have H1 := hide hw; clear hw)
      | (go_at_call 57; refine (wnNumber (unhide H1) p hp (by decide)).mono ?_; rintro e W2 ⟨rfl, r2, hw⟩; have H2 := hide hw; clear hw)
      | (go_at_call 58; refine (wnTold (unhide H2)).mono ?_; rintro e W3 ⟨rfl, rfl⟩)
      | fail)
    go_ret2
    exact ⟨rfl, (unhide H2).below⟩
  · rw [segB_false.2 h] at HS
    rw [show preV n = (eB, 1) by unfold preV; rw [if_neg h]]
    clear h
    go_enter Try.func14, Try.ntmps14
    go_wp2_with (first
      | (go_at_call 55; refine (unhide HS u).mono ?_; rintro e W0 ⟨rfl, rfl⟩)
      | fail)
    go_ret2
    exact ⟨rfl, Below.refl _ _⟩
theorem qPrefix (n : Int) (u : World) : Calls Try.prog 13 #[.int .i64 n] u fun e u' => e = .returned (.tuple #[.string (preV n).1, .int .i64 (preV n).2]) ∧ Below u.heap.size u u' := by
  have HS := hide (qIsSeg n)
  by_cases h : segP n
  · rw [segB_true.2 h] at HS
    rw [show preV n = (⟨(W.fixB n.toNat 2).toArray⟩, 0) by unfold preV; rw [if_pos h]]
    obtain ⟨p, rfl⟩ := Int.eq_ofNat_of_zero_le h.1
    have hp : (p : Int) < 4096 := h.2
    have HF := hide fun G : World => W.mwFixed p 2 G (by omega) (by decide)
    rw [Int.toNat_natCast]
    clear h
    go_enter Try.func13, Try.ntmps13
    go_wp2_with (first
      | (go_at_call 53; refine (unhide HS u).mono ?_; rintro e W0 ⟨rfl, rfl⟩)
      | (go_at_call 54; refine (unhide HF _).mono ?_; rintro e W1 ⟨rfl, hb⟩; have HB := hide hb; clear hb)
      | fail)
    go_ret2
    exact ⟨rfl, unhide HB⟩
  · rw [segB_false.2 h] at HS
    rw [show preV n = (eB, 1) by unfold preV; rw [if_neg h]]
    clear h
    go_enter Try.func13, Try.ntmps13
    go_wp2_with (first
      | (go_at_call 53; refine (unhide HS u).mono ?_; rintro e W0 ⟨rfl, rfl⟩)
      | fail)
    go_ret2
    exact ⟨rfl, Below.refl _ _⟩
end Go.Proofs.Ytbahlfpcbplofaa.S
