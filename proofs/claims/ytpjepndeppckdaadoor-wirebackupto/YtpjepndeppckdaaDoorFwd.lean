/- What was written is read back; what was cut off is told. -/
import Derived.Test.YtpjepndeppckdaaDoorInv
namespace Go.Proofs.YtpjepndeppckdaaDoor
open Go.Lib

theorem ofNat_toNat (y : Nat) (h : y < 256) : (UInt8.ofNat y).toNat = y := by simp; omega
theorem dg_fwd (rest : List UInt8) : ∀ (f i v y : Nat), i + f = 9 → y < 2 * 128 ^ f → (0 < i → 0 < y) → dg (uintB f y ++ rest) i v = (v + y * 128 ^ i, i + (uintB f y).length, 0) := by
  intro f
  induction f with
  | zero =>
    intro i v y hi hy h0
    have hy1 : y < 2 := by simpa using hy
    have := h0 (by omega)
    have e : (UInt8.ofNat y).toNat = y := ofNat_toNat y (by omega)
    rw [uintB, List.singleton_append, dg, e, if_neg (by omega), if_neg (by omega), if_neg (by omega), if_neg (by omega), Nat.mod_eq_of_lt (by omega)]
    rfl
  | succ f ih =>
    intro i v y hi hy h0
    rw [uintB]
    by_cases h : y < 128
    · have e : (UInt8.ofNat y).toNat = y := ofNat_toNat y (by omega)
      rw [if_pos h, List.singleton_append, dg, e, if_neg (by omega), if_neg (by omega), if_neg (by omega), if_neg (by omega), Nat.mod_eq_of_lt (by omega)]
      rfl
    · have e : (UInt8.ofNat (y % 128 + 128)).toNat = y % 128 + 128 := ofNat_toNat _ (by omega)
      rw [if_neg h, List.cons_append, dg, e, if_neg (by omega), if_neg (by omega), if_pos (by omega)]
      rw [ih (i + 1) _ (y / 128) (by omega) (by rw [Nat.pow_succ] at hy; omega) (by omega)]
      rw [show (y % 128 + 128) % 128 = y % 128 from by omega, Nat.pow_succ, List.length_cons]
      refine Prod.ext ?_ (Prod.ext ?_ rfl)
      · show v + y % 128 * 128 ^ i + y / 128 * (128 ^ i * 128) = v + y * 128 ^ i
        have e2 : y = y % 128 + 128 * (y / 128) := by omega
        conv => rhs; rw [e2]
        rw [Nat.add_mul, Nat.mul_comm (128 ^ i) 128, ← Nat.mul_assoc, Nat.mul_comm (y / 128) 128]
        omega
      · show i + 1 + _ = i + (_ + 1)
        omega
theorem dg_cut : ∀ (f i v y m : Nat), i + f = 9 → y < 2 * 128 ^ f → m < (uintB f y).length → dg ((uintB f y).take m) i v = (0, 0, 10) := by
  intro f
  induction f with
  | zero =>
    intro i v y m hi hy hm
    have : m = 0 := by simpa [uintB] using hm
    subst this; rfl
  | succ f ih =>
    intro i v y m hi hy hm
    rw [uintB] at hm ⊢
    by_cases h : y < 128
    · rw [if_pos h] at hm ⊢
      have : m = 0 := by simpa using hm
      subst this; rfl
    · have e : (UInt8.ofNat (y % 128 + 128)).toNat = y % 128 + 128 := ofNat_toNat _ (by omega)
      rw [if_neg h] at hm ⊢
      cases m with
      | zero => rfl
      | succ m =>
        rw [List.take_succ_cons, dg, e, if_neg (by omega), if_neg (by omega), if_pos (by omega)]
        exact ih (i + 1) _ (y / 128) m (by omega) (by rw [Nat.pow_succ] at hy; omega) (by simpa using hm)
section
variable {s : ByteArray} {p : Nat}
theorem drop_len (_h : p ≤ s.size) : (s.data.toList.drop p).length = s.size - p := by rw [List.length_drop, size_toList]
theorem uint_fwd {v most : Nat} {t : List UInt8} (h : s.data.toList.drop p = uintB 9 v ++ t) (hv : v < 18446744073709551616) (hm : v ≤ most) : uintS s p 0 most = (v, p + (uintB 9 v).length, 0) := by
  unfold uintS
  rw [if_neg (by simp), h, dg_fwd t 9 0 0 v (by omega) (by omega) (by omega)]
  simp only [Nat.zero_add, Nat.pow_zero, Nat.mul_one, ne_eq, not_true_eq_false, if_false]
  rw [if_neg (by omega)]
theorem uint_cut {v most m : Nat} (h : s.data.toList.drop p = (uintB 9 v).take m) (hv : v < 18446744073709551616) (hm : m < (uintB 9 v).length) : uintS s p 0 most = (0, p, 10) := by
  unfold uintS
  rw [if_neg (by simp), h, dg_cut 9 0 0 v m (by omega) (by omega) hm]
  simp
theorem raw_fwd {u t : List UInt8} (hp : p ≤ s.size) (h : s.data.toList.drop p = u ++ t) : rawS s p 0 u.length = (⟨u.toArray⟩, p + u.length, 0) := by
  have hl := drop_len hp
  rw [h, List.length_append] at hl
  unfold rawS
  rw [if_neg (by simp), if_neg (by omega), if_neg (by omega), Int.toNat_natCast]
  refine Prod.ext ?_ rfl
  show s.extract p (p + u.length) = ⟨u.toArray⟩
  apply ByteArray.ext
  apply Array.toList_inj.1
  rw [extract_data, h, show p + u.length - p = u.length from by omega]
  simp
theorem raw_cut {n : Nat} (hp : p ≤ s.size) (h : (s.data.toList.drop p).length < n) : rawS s p 0 n = (⟨#[]⟩, p, 10) := by
  rw [drop_len hp] at h
  unfold rawS
  rw [if_neg (by simp), if_neg (by omega), if_pos (by omega)]
theorem fix_fwd {v n : Nat} {t : List UInt8} (hp : p ≤ s.size) (h : s.data.toList.drop p = fixB v n ++ t) (h1 : 1 ≤ n) (h8 : n ≤ 8) (hv : v < 256 ^ n) : fixS s p 0 n = (v, p + n, 0) := by
  have hr := raw_fwd hp h
  rw [fixB_length] at hr
  unfold fixS
  rw [if_neg (by omega), hr]
  simp only
  rw [numB_fixB, Nat.mod_eq_of_lt hv]
theorem fix_cut {n : Nat} (hp : p ≤ s.size) (h : (s.data.toList.drop p).length < n) (h1 : 1 ≤ n) (h8 : n ≤ 8) : fixS s p 0 n = (0, p, 10) := by
  unfold fixS
  rw [if_neg (by omega), raw_cut hp h]
  rfl
theorem nanC : isNan 9221120237041090560 = true := by kernel_rfl
theorem nan0 : isNan 0 = false := by kernel_rfl
theorem flt_fwd {v : Nat} {t : List UInt8} (hp : p ≤ s.size) (h : s.data.toList.drop p = fixB (fltB v) 8 ++ t) (hv : v < 18446744073709551616) : fltS s p 0 = (fltB v, p + 8, 0) := by
  have hb : fltB v < 256 ^ 8 := by unfold fltB; split <;> omega
  have hf := fix_fwd hp h (by decide) (by decide) hb
  rw [show ((8 : Nat) : Int) = 8 from rfl] at hf
  unfold fltS
  rw [hf]
  simp only
  rw [if_neg]
  rintro ⟨h1, h2⟩
  unfold fltB at h1 h2
  by_cases hn : isNan v = true
  · rw [if_pos hn] at h2; exact h2 rfl
  · rw [if_neg hn] at h1; exact hn h1
theorem flt_cut (hp : p ≤ s.size) (h : (s.data.toList.drop p).length < 8) : fltS s p 0 = (0, p, 10) := by
  have hf := fix_cut (n := 8) hp h (by decide) (by decide)
  rw [show ((8 : Nat) : Int) = 8 from rfl] at hf
  unfold fltS
  rw [hf]
  simp [nan0]
theorem text_fwd {u t : List UInt8} (hp : p ≤ s.size) (h : s.data.toList.drop p = uintB 9 u.length ++ (u ++ t)) (hu : u.length < 18446744073709551616) : textS s p 0 u.length = (⟨u.toArray⟩, p + ((uintB 9 u.length).length + u.length), 0) := by
  have hl := drop_len hp
  rw [h, List.length_append] at hl
  have h2 : s.data.toList.drop (p + (uintB 9 u.length).length) = u ++ t := by
    rw [← List.drop_drop, h, List.drop_left]
  have hr := raw_fwd (p := p + (uintB 9 u.length).length) (by omega) h2
  unfold textS
  rw [if_neg (by omega), Int.toNat_natCast, uint_fwd h hu (Nat.le_refl _)]
  simp only
  rw [hr]
  simp only [ne_eq, not_true_eq_false, if_false]
  rw [Nat.add_assoc]
theorem text_cut {u : List UInt8} {m : Nat} (hp : p ≤ s.size) (h : s.data.toList.drop p = (uintB 9 u.length ++ u).take m) (hm : m < (uintB 9 u.length).length + u.length) (hu : u.length < 18446744073709551616) : textS s p 0 u.length = (⟨#[]⟩, p, 10) := by
  unfold textS
  rw [if_neg (by omega), Int.toNat_natCast]
  by_cases hc : m < (uintB 9 u.length).length
  · rw [List.take_append_of_le_length (by omega)] at h
    rw [uint_cut h hu hc]
    simp [rawS]
  · have h' : s.data.toList.drop p = uintB 9 u.length ++ u.take (m - (uintB 9 u.length).length) := by
      rw [h, List.take_append, List.take_of_length_le (by omega)]
    have hl := drop_len hp
    rw [h', List.length_append, List.length_take] at hl
    have h2 : s.data.toList.drop (p + (uintB 9 u.length).length) = u.take (m - (uintB 9 u.length).length) := by
      rw [← List.drop_drop, h', List.drop_left]
    have hr := raw_cut (s := s) (n := u.length) (p := p + (uintB 9 u.length).length) (by omega) (by rw [h2, List.length_take]; omega)
    rw [uint_fwd h' hu (Nat.le_refl _)]
    simp only
    rw [hr]
    simp
end
theorem zag_zig (v : Int) : zag (zig v) = v := by
  unfold zag zig
  by_cases h : 0 ≤ v
  · rw [if_pos h, if_pos (by omega)]; omega
  · rw [if_neg h, if_neg (by omega)]; omega
theorem zig_lt (v : Int) (h0 : -9223372036854775808 ≤ v) (h1 : v < 9223372036854775808) : zig v < 18446744073709551616 := by
  unfold zig
  split <;> omega
end Go.Proofs.YtpjepndeppckdaaDoor
