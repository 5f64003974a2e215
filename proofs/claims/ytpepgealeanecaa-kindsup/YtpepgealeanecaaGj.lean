/- The document's floats; floats held against one another; KindsFloats. -/
import Derived.Test.YtpepgealeanecaaGi
import Derived.Deep.OwnRows
import Derived.Deep.Heap
import Derived.Lib.ConvBytes
namespace Go.Proofs.Ytpepgealeanecaa
namespace W
open Go.RowKit Go.Lib

/-- a row of bytes at block X -/
structure Row (w : World) (X : Nat) (bs : List UInt8) : Prop where
  lt : X < w.heap.size
  cell : ∀ j, j < bs.length → w.cell? ⟨X, j, none⟩ = some (.int .u8 ((bs.getD j 0).toNat : Int))
  frozen : ∀ j, j < bs.length → w.frozen? ⟨X, j, none⟩ = false
theorem Row.set {w : World} {X : Nat} {bs : List UInt8} (h : Row w X bs) (k : Nat) (b : UInt8) (hk : k < bs.length) : Row (w.setCell ⟨X, k, none⟩ (.int .u8 b.toNat)) X (bs.set k b) where
  lt := by simpa using h.lt
  cell := fun j hj => by
    rw [List.length_set] at hj
    by_cases e : j = k
    · subst e
      rw [World.cell?_setCell_same _ _ _ (h.cell j hj)]
      simp [List.getD, hk]
    · rw [World.cell?_setCell_other _ _ _ _ (fun h => e (by cases h; rfl)), h.cell j hj]
      simp [List.getD, List.getElem?_set_ne (fun h => e h.symm)]
  frozen := fun j hj => by
    rw [List.length_set] at hj
    simpa using h.frozen j hj
theorem row_run {w : World} {X n cap : Nat} {bs : List UInt8} (h : Row w X bs) (hn : bs.length = n) : (convert 104 9 (.slice (some ⟨X, 0, none⟩) n cap)).run Try.prog w = .ok (.string ⟨bs.toArray⟩) w := by
  subst hn
  refine run_convert_bytes_back w 104 9 5 ⟨X, 0, none⟩ cap bs Try.underlying104 Try.underlying5 Try.underlying9 fun j hj => ?_
  have := h.cell j hj
  simp only [List.getD, List.getElem?_eq_getElem hj, Option.getD_some] at this
  have e : (⟨X, 0, none⟩ : Addr).add j = ⟨X, j, none⟩ := by cases j <;> simp [Addr.add]
  rw [e]; exact this
theorem Row.made (w : World) (n : Nat) (t : TypeId) : Row (w.alloc (.cells (madeCells #[.int .u8 0] n) t)) w.heap.size (List.replicate n 0) where
  lt := by simp
  cell := fun j hj => by
    rw [List.length_replicate] at hj
    rw [World.cell?_alloc_new]
    simp [madeCells, List.getD, hj, Nat.mod_one]
  frozen := fun j hj => by rw [frozen?_alloc_cells]; simp [World.frozen?]
theorem fix_div (v n m : Nat) (h : m < n) : v / 256 ^ (n - (m + 1)) / 256 = v / 256 ^ (n - m) := by
  rw [Nat.div_div_eq_div_mul, ← Nat.pow_succ, show (n - (m + 1)).succ = n - m from by omega]
theorem fix_done (v n : Nat) (bs : List UInt8) (hl : bs.length = n) (h : ∀ j, 0 ≤ j → j < n → bs[j]? = some (UInt8.ofNat (v / 256 ^ (n - 1 - j)))) : bs = fixB v n := by
  apply List.ext_getElem?
  intro j
  by_cases hj : j < n
  · rw [h j (Nat.zero_le _) hj]
    simp [fixB, hj]
  · rw [List.getElem?_eq_none (by omega), List.getElem?_eq_none (by rw [fixB_length]; omega)]
theorem below_set {B : Nat} {a w : World} (h : Below B a w) {p : Addr} (hg : B ≤ p.block) (v : Value) : Below B a (w.setCell p v) :=
  ⟨h.os, h.tape, h.output, by simpa [World.setCell] using h.size, fun k hk => (Deep.blk_setCell_other w p v k (by omega)).trans (h.block k hk)⟩
theorem u8_low (X : Nat) : ((X : Int) % 256) = ((UInt8.ofNat X).toNat : Int) := by simp
set_option maxRecDepth 100000 in
set_option maxHeartbeats 1000000 in
theorem mwFixed (v n : Nat) (w : World) (hv : v < 18446744073709551616) (hn : n ≤ 8) :
    Calls Try.prog 53 #[.int .u64 v, .int .i64 n] w fun e w' => e = .returned (.string ⟨(fixB v n).toArray⟩) ∧ Below w.heap.size w w' := by
  have hmk := run_make_row' (P := Try.prog) 104 5 (.int .u8 0) 1 Try.underlying104 info5 rfl .i64 .i64 n (by omega) (by omega)
  have HR := hide (Row.made w n 5)
  have HB : Hid (Below w.heap.size w (w.alloc (.cells (madeCells #[.int .u8 0] n) 5))) := (Below.refl _ _).alloc (Nat.le_refl _) _
  go_enter Try.func53, Try.ntmps53
  go_wp2
  clear hmk
  go_loopw [0, 6] (fun x i wr => ∃ (k : Nat) (bs : List UInt8), k ≤ n ∧ x = .int .u64 (v / 256 ^ (n - k) : Nat) ∧ i = .int .i64 ((k : Int) - 1) ∧ Hid (bs.length = n ∧ Row wr w.heap.size bs ∧ Below w.heap.size w wr ∧ ∀ j, k ≤ j → j < n → bs[j]? = some (UInt8.ofNat (v / 256 ^ (n - 1 - j))))) (fun _ i _ => (intOf i + 1).toNat)
  case atStart => exact ⟨n, List.replicate n 0, Nat.le_refl _, by simp, by go_num, hide ⟨by simp, unhide HR, unhide HB, fun j h1 h2 => absurd h1 (by omega)⟩⟩
  case round =>
    obtain ⟨k, bs, hk, rfl, rfl, HI⟩ := hrel
    clear HR HB
    cases k with
    | zero =>
      have hrun := row_run (cap := n) (unhide HI).2.1 (unhide HI).1
      have HD := hide (fix_done v n bs (unhide HI).1 (unhide HI).2.2.2)
      go_wp2
      go_ret
      rw [← unhide HD]
      exact ⟨rfl, (unhide HI).2.2.1⟩
    | succ m =>
      have hmn : m < n := by omega
      have hmi : ((m + 1 : Nat) : Int) - 1 = (m : Int) := by omega
      rw [hmi]
      have hX : v / 256 ^ (n - (m + 1)) < 18446744073709551616 := Nat.lt_of_le_of_lt (Nat.div_le_self _ _) hv
      have hdv := fix_div v n m hmn
      have hc := (unhide HI).2.1.cell m (by rw [(unhide HI).1]; exact hmn)
      have hf := (unhide HI).2.1.frozen m (by rw [(unhide HI).1]; exact hmn)
      have hE : ∀ j, m ≤ j → j < n → (bs.set m (UInt8.ofNat (v / 256 ^ (n - (m + 1)))))[j]? = some (UInt8.ofNat (v / 256 ^ (n - 1 - j))) := by
        intro j h1 h2
        by_cases e : m = j
        · subst e
          rw [List.getElem?_set_self (by rw [(unhide HI).1]; exact hmn), show n - (m + 1) = n - 1 - m from by omega]
        · rw [List.getElem?_set_ne e]
          exact (unhide HI).2.2.2 j (by omega) h2
      have HE := hide hE
      have hmi2 : (m : Int) < (n : Int) := by omega
      generalize v / 256 ^ (n - (m + 1)) = X at *
      have hu := u8_low X
      have HN := hide ((unhide HI).2.1.set m (UInt8.ofNat X) (by rw [(unhide HI).1]; exact hmn))
      rw [← hu] at HN
      have hX0 : (0 : Int) ≤ X := by omega
      have hXi : (X : Int) < 18446744073709551616 := by omega
      have HDV := hide hdv
      clear hE hdv hu hX hv
      go_wp2
      go_roundw
      case rel => exact ⟨m, bs.set m (UInt8.ofNat X), by omega, by rw [← unhide HDV]; rfl, rfl, hide ⟨by rw [List.length_set]; exact (unhide HI).1, unhide HN, below_set (unhide HI).2.2.1 (Nat.le_refl _) _, unhide HE⟩⟩
      case measure => simp [intOf]
theorem mwBits (b : Nat) (w : World) :
    Calls Try.prog 54 #[.float .f64 b] w fun e w' => e = .returned (.int .u64 (fltB b : Nat)) ∧ w' = w := by
  by_cases ha : isNan b = true
  · have hf : fltB b = 9221120237041090560 := if_pos ha
    rw [hf]
    unfold isNan at ha
    clear hf
    go_enter Try.func54, Try.ntmps54
    go_wp2
    go_ret
    exact ⟨rfl, rfl⟩
  · have hf : fltB b = b := if_neg ha
    rw [hf]
    have ha : isNan b = false := by simpa using ha
    unfold isNan at ha
    clear hf
    go_enter Try.func54, Try.ntmps54
    go_wp2
    go_ret
    exact ⟨rfl, rfl⟩
theorem fltB_lt (b : Nat) (hb : b < 18446744073709551616) : fltB b < 18446744073709551616 := by unfold fltB; split <;> omega
theorem mwFloat (b : Nat) (w : World) (hb : b < 18446744073709551616) :
    Calls Try.prog 30 #[.float .f64 b] w fun e w' => e = .returned (.string ⟨(fixB (fltB b) 8).toArray⟩) ∧ Below w.heap.size w w' := by
  have HZ := hide (mwBits b w)
  have HU := hide (mwFixed (fltB b) 8 w (fltB_lt b hb) (by omega))
  generalize fixB (fltB b) 8 = F at *
  generalize fltB b = Z at *
  clear hb
  go_enter Try.func30, Try.ntmps30
  go_wp2_with fail
  refine (unhide HZ).mono ?_
  rintro e w1 ⟨rfl, rfl⟩
  go_wp2_with fail
  refine (unhide HU).mono ?_
  rintro e w1 ⟨rfl, hb⟩
  have HB := hide hb
  clear hb
  go_wp2
  go_ret
  exact ⟨rfl, unhide HB⟩
/-- the same float, bit by bit; any NaN for any -/
def sameB (a b : Nat) : Bool := if isNan a = true ∨ isNan b = true then (isNan a && isNan b) else ((a : Int) == (b : Int))
theorem same_walk (a b : Nat) (w : World) : Calls Try.prog 25 #[.float .f64 a, .float .f64 b] w fun e w' => e = .returned (.bool (sameB a b)) ∧ w' = w := by
  by_cases ha : isNan a = true
  · have hs : sameB a b = isNan b := by unfold sameB; rw [if_pos (.inl ha), ha]; rfl
    rw [hs]
    by_cases hb : isNan b = true
    · rw [hb]
      unfold isNan at ha hb
      clear hs
      go_enter Try.func25, Try.ntmps25
      go_wp2
      go_ret
      exact ⟨rfl, rfl⟩
    · have hb : isNan b = false := by simpa using hb
      rw [hb]
      unfold isNan at ha hb
      clear hs
      go_enter Try.func25, Try.ntmps25
      go_wp2
      go_ret
      exact ⟨rfl, rfl⟩
  · have ha : isNan a = false := by simpa using ha
    by_cases hb : isNan b = true
    · have hs : sameB a b = false := by unfold sameB; rw [if_pos (.inr hb), ha]; rfl
      rw [hs]
      unfold isNan at ha hb
      clear hs
      go_enter Try.func25, Try.ntmps25
      go_wp2
      go_ret
      exact ⟨rfl, rfl⟩
    · have hb : isNan b = false := by simpa using hb
      have hs : sameB a b = ((a : Int) == (b : Int)) := by unfold sameB; rw [if_neg (by simp [ha, hb])]
      rw [hs]
      unfold isNan at ha hb
      clear hs
      go_enter Try.func25, Try.ntmps25
      go_wp2
      go_ret
      exact ⟨rfl, rfl⟩

end W
open Go.RowKit Go.Lib
theorem same_flt (x : Nat) : W.sameB (W.fltB x) x = true := by
  unfold W.sameB W.fltB
  by_cases h : W.isNan x = true
  · rw [if_pos h, if_pos (.inl W.nanC), h, W.nanC]; rfl
  · rw [if_neg h, if_neg (by simp [h])]; simp
theorem ba_inj {a b : ByteArray} (h : a.data.toList = b.data.toList) : a = b := ByteArray.ext (Array.toList_inj.1 h)
set_option maxRecDepth 100000 in
set_option maxHeartbeats 8000000 in
theorem floats12_walk (x y : Nat) (hx : x < 18446744073709551616) (hy : y < 18446744073709551616) (u : World) : Calls Try.prog 5 #[.int .u64 (x : Int), .int .u64 (y : Int)] u fun e u' => e = .returned (.bool true) ∧ Below u.heap.size u u' := by
  have HR := hide (fun (w : World) => kReal x hx w)
  have HC := hide (fun (w : World) => kCorner x y hx hy w)
  have HAR := hide (fun (w : World) => kAsReal (tS (rT x)) (rT x) rfl (W.fltB x) rfl (takes_r hx) w)
  have HAC := hide (fun (w : World) => kAsCorner (tS (cT x y)) (cT x y) rfl (W.fltB x) (W.fltB y) rfl (takes_c hx hy) w)
  have HKR : Hid (∀ w : World, Calls Try.prog 13 #[.string (tS (rT x))] w fun z u' => z = .returned (.int .u8 2) ∧ Below w.heap.size w u') := fun w => kKind (tS (rT x)) (some (rT x)) (takes_r hx) w
  have HKC : Hid (∀ w : World, Calls Try.prog 13 #[.string (tS (cT x y))] w fun z u' => z = .returned (.int .u8 5) ∧ Below w.heap.size w u') := fun w => kKind (tS (cT x y)) (some (cT x y)) (takes_c hx hy) w
  have HFX := hide (fun (w : World) => W.mwFloat x w hx)
  have HFY := hide (fun (w : World) => W.mwFloat y w hy)
  have HSX : Hid (∀ w : World, Calls Try.prog 25 #[.float .f64 (W.fltB x), .float .f64 x] w fun e w' => e = .returned (.bool true) ∧ w' = w) := fun w => by have := W.same_walk (W.fltB x) x w; rw [same_flt] at this; exact this
  have HSY : Hid (∀ w : World, Calls Try.prog 25 #[.float .f64 (W.fltB y), .float .f64 y] w fun e w' => e = .returned (.bool true) ∧ w' = w) := fun w => by have := W.same_walk (W.fltB y) y w; rw [same_flt] at this; exact this
  have HE1 : Hid ((⟨#[2]⟩ : ByteArray) ++ (⟨(W.fixB (W.fltB x) 8).toArray⟩ : ByteArray) = tS (rT x)) := by
    apply ba_inj
    rw [tS_list, told_r]
    simp
  have HE2 : Hid ((⟨#[5]⟩ : ByteArray) ++ (⟨(W.fixB (W.fltB x) 8).toArray⟩ : ByteArray) ++ (⟨(W.fixB (W.fltB y) 8).toArray⟩ : ByteArray) = tS (cT x y)) := by
    apply ba_inj
    rw [tS_list, told_c]
    simp
  have HL1 : Hid ((⟨(W.fixB (W.fltB x) 8).toArray⟩ : ByteArray).size = 8) := by show _ = _; simp [ByteArray.size, W.fixB_length]
  have HL2 : Hid ((⟨(W.fixB (W.fltB y) 8).toArray⟩ : ByteArray).size = 8) := by show _ = _; simp [ByteArray.size, W.fixB_length]
  generalize (⟨(W.fixB (W.fltB x) 8).toArray⟩ : ByteArray) = SX at *
  generalize (⟨(W.fixB (W.fltB y) 8).toArray⟩ : ByteArray) = SY at *
  generalize W.fltB x = fx at *
  generalize W.fltB y = fy at *
  generalize tS (rT x) = RS at *
  generalize tS (cT x y) = CS at *
  clear hx hy
  have hq1 : (RS.toList == RS.toList) = true := by simp
  have hq2 : (CS.toList == CS.toList) = true := by simp
  obtain ⟨S5, hS5⟩ : ∃ S, S = (⟨#[5]⟩ : ByteArray) ++ SX := ⟨_, rfl⟩
  have hc1 : ∀ W : World, (Op.stringOp .add ⟨#[2]⟩ SX).run Try.prog W = .ok (.string RS) W := fun W => by rw [← unhide HE1]; exact run_string_add_sum W _ _ (by rw [unhide HL1]; decide)
  have hc2 : ∀ W : World, (Op.stringOp .add ⟨#[5]⟩ SX).run Try.prog W = .ok (.string S5) W := fun W => by rw [hS5]; exact run_string_add_sum W _ _ (by rw [unhide HL1]; decide)
  have hc3 : ∀ W : World, (Op.stringOp .add S5 SY).run Try.prog W = .ok (.string CS) W := fun W => by rw [← unhide HE2, ← hS5]; exact run_string_add_sum W _ _ (by rw [hS5, ByteArray.size_append, unhide HL1, unhide HL2]; decide)
  clear hS5 HE1 HE2 HL1 HL2
  have HB : Hid (Below u.heap.size u u) := Below.refl _ _
  go_enter Try.func5, Try.ntmps5
  go_wp2_with (first
    | (go_at_call 28; (with_reducible refine (unhide HR _).mono ?_); rintro e Wn ⟨rfl, hb⟩; replace HB := hide (Below.trans (unhide HB) (hb.mono (unhide HB).size)); clear hb)
    | (go_at_call 29; (with_reducible refine (unhide HC _).mono ?_); rintro e Wn ⟨rfl, hb⟩; replace HB := hide (Below.trans (unhide HB) (hb.mono (unhide HB).size)); clear hb)
    | (go_at_call 20; (with_reducible refine (unhide HAR _).mono ?_); rintro e Wn ⟨rfl, hb⟩; replace HB := hide (Below.trans (unhide HB) (hb.mono (unhide HB).size)); clear hb)
    | (go_at_call 21; (with_reducible refine (unhide HAC _).mono ?_); rintro e Wn ⟨rfl, hb⟩; replace HB := hide (Below.trans (unhide HB) (hb.mono (unhide HB).size)); clear hb)
    | (go_at_call 30; (with_reducible refine (unhide HFX _).mono ?_); rintro e Wn ⟨rfl, hb⟩; replace HB := hide (Below.trans (unhide HB) (hb.mono (unhide HB).size)); clear hb)
    | (go_at_call 30; (with_reducible refine (unhide HFY _).mono ?_); rintro e Wn ⟨rfl, hb⟩; replace HB := hide (Below.trans (unhide HB) (hb.mono (unhide HB).size)); clear hb)
    | (go_at_call 13; (with_reducible refine (unhide HKR _).mono ?_); rintro e Wn ⟨rfl, hb⟩; replace HB := hide (Below.trans (unhide HB) (hb.mono (unhide HB).size)); clear hb)
    | (go_at_call 13; (with_reducible refine (unhide HKC _).mono ?_); rintro e Wn ⟨rfl, hb⟩; replace HB := hide (Below.trans (unhide HB) (hb.mono (unhide HB).size)); clear hb)
    | (go_at_call 25; (with_reducible refine (unhide HSX _).mono ?_); rintro e Wn ⟨rfl, hw⟩; subst hw)
    | (go_at_call 25; (with_reducible refine (unhide HSY _).mono ?_); rintro e Wn ⟨rfl, hw⟩; subst hw)
    | fail)
  go_ret
  exact ⟨rfl, unhide HB⟩
theorem floats12_any (a b : Int) (ha : 0 ≤ a ∧ a ≤ 18446744073709551615) (hb : 0 ≤ b ∧ b ≤ 18446744073709551615) (u : World) : Calls Try.prog 5 #[.int .u64 a, .int .u64 b] u fun e u' => e = .returned (.bool true) ∧ Below u.heap.size u u' := by
  obtain ⟨x, rfl⟩ := Int.eq_ofNat_of_zero_le ha.1
  obtain ⟨y, rfl⟩ := Int.eq_ofNat_of_zero_le hb.1
  exact floats12_walk x y (by omega) (by omega) u
end Go.Proofs.Ytpepgealeanecaa
