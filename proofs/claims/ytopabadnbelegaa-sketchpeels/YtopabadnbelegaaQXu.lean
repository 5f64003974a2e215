/- Cut out of the texts of elder seats by cut.py and less.py. -/
import Derived.Test.YtopabadnbelegaaQ01
import Derived.Laws.BitsAllLaws
import Derived.Laws.IdiomStrings
import Derived.Lib.IndexBytes
namespace Go.Proofs.Ytopabadnbelegaa.W
open Go.RowKit Go.Lib
theorem dg_inv (l : List UInt8) : ∀ (i v x u : Nat), i ≤ 9 → dg l i v = (x, u, 0) → ∃ y, x = v + y * 128 ^ i ∧ i < u ∧ u ≤ i + l.length ∧ (0 < i → 0 < y) ∧ uintB (9 - i) y = l.take (u - i) := by
  induction l with
  | nil => intro i v x u hi h; simp [dg] at h
  | cons d l ih =>
    intro i v x u hi h
    rw [dg, if_neg (by omega)] at h
    have hd := d.toNat_lt
    have ofd : UInt8.ofNat d.toNat = d := by simp
    by_cases h1 : i = 9 ∧ 1 < d.toNat
    · rw [if_pos h1] at h; simp at h
    · rw [if_neg h1] at h
      by_cases h2 : 128 ≤ d.toNat
      · rw [if_pos h2] at h
        have hi9 : i < 9 := by omega
        obtain ⟨y, hx, hu, hul, hy0, hy⟩ := ih (i + 1) _ x u (by omega) h
        have hy1 := hy0 (by omega)
        refine ⟨d.toNat % 128 + 128 * y, ?_, by omega, by simp; omega, by omega, ?_⟩
        · rw [hx, Nat.pow_succ, Nat.add_mul, Nat.mul_comm 128 y, Nat.mul_assoc, Nat.mul_comm 128 (128 ^ i)]; omega
        · rw [show 9 - i = (9 - (i + 1)) + 1 from by omega, uintB, if_neg (by omega)]
          rw [show (d.toNat % 128 + 128 * y) / 128 = y from by omega, hy]
          rw [show u - i = (u - (i + 1)) + 1 from by omega, List.take_succ_cons]
          congr 1
          rw [show (d.toNat % 128 + 128 * y) % 128 + 128 = d.toNat from by omega]
          exact ofd
      · rw [if_neg h2] at h
        by_cases h3 : 0 < i ∧ d.toNat = 0
        · rw [if_pos h3] at h; simp at h
        · rw [if_neg h3] at h
          simp only [Prod.mk.injEq, and_true] at h
          obtain ⟨rfl, rfl⟩ := h
          refine ⟨d.toNat, by rw [Nat.mod_eq_of_lt (by omega)], by omega, by simp, by omega, ?_⟩
          rw [show i + 1 - i = 1 from by omega, List.take_succ_cons, List.take_zero]
          have : ∀ f, uintB f d.toNat = [d] := by
            intro f
            cases f with
            | zero => rw [uintB, ofd]
            | succ f => rw [uintB, if_pos (by omega), ofd]
          exact this _
/-- to the base 128 -/
theorem uint_ok (s : ByteArray) (p most : Nat) (h : (uintS s p 0 most).2.2 = 0) : p ≤ (uintS s p 0 most).2.1 ∧ ((uintS s p 0 most).2.1 ≤ s.size ∨ s.size < p) ∧ uintB 9 (uintS s p 0 most).1 = (s.data.toList.drop p).take ((uintS s p 0 most).2.1 - p) := by
  unfold uintS at h ⊢
  rw [if_neg (by simp)] at h ⊢
  by_cases h1 : (dg (s.data.toList.drop p) 0 0).2.2 ≠ 0
  · rw [if_pos h1] at h; exact absurd h h1
  · rw [if_neg h1] at h ⊢
    by_cases h2 : most < (dg (s.data.toList.drop p) 0 0).1
    · rw [if_pos h2] at h; cases h
    · rw [if_neg h2]
      have hz : (dg (s.data.toList.drop p) 0 0).2.2 = 0 := by simpa using h1
      obtain ⟨y, hx, hu, hul, _, hy⟩ := dg_inv (s.data.toList.drop p) 0 0 (dg (s.data.toList.drop p) 0 0).1 (dg (s.data.toList.drop p) 0 0).2.1 (by omega) (by rw [← hz])
      rw [List.length_drop, size_toList] at hul
      simp only at hx ⊢
      refine ⟨by omega, by omega, ?_⟩
      rw [hx]
      simp only [Nat.zero_add, Nat.pow_zero, Nat.mul_one, Nat.sub_zero] at hy ⊢
      rw [hy]
      congr 1
      omega
theorem ofNat_toNat (y : Nat) (h : y < 256) : (UInt8.ofNat y).toNat = y := by simp; omega
theorem dg_fwd (rest : List UInt8) : ∀ (f i v y : Nat), i + f = 9 → y < 2 * 128 ^ f → (0 < i → 0 < y) → dg (uintB f y ++ rest) i v = (v + y * 128 ^ i, i + (uintB f y).length, 0) := by
  intro f
  induction f with
  | zero =>
    intro i v y hi hy h0
    have hy1 : y < 2 := by simpa using hy
    have := h0 (by omega)
    have e : (UInt8.ofNat y).toNat = y := ofNat_toNat y (by omega)
    rw [uintB, List.singleton_append, dg, e, if_neg (by omega), if_neg (by omega), if_neg (by omega), if_neg (by omega), Nat.mod_eq_of_lt (by omega)]
    rfl
  | succ f ih =>
    intro i v y hi hy h0
    rw [uintB]
    by_cases h : y < 128
    · have e : (UInt8.ofNat y).toNat = y := ofNat_toNat y (by omega)
      rw [if_pos h, List.singleton_append, dg, e, if_neg (by omega), if_neg (by omega), if_neg (by omega), if_neg (by omega), Nat.mod_eq_of_lt (by omega)]
      rfl
    · have e : (UInt8.ofNat (y % 128 + 128)).toNat = y % 128 + 128 := ofNat_toNat _ (by omega)
      rw [if_neg h, List.cons_append, dg, e, if_neg (by omega), if_neg (by omega), if_pos (by omega)]
      rw [ih (i + 1) _ (y / 128) (by omega) (by rw [Nat.pow_succ] at hy; omega) (by omega)]
      rw [show (y % 128 + 128) % 128 = y % 128 from by omega, Nat.pow_succ, List.length_cons]
      refine Prod.ext ?_ (Prod.ext ?_ rfl)
      · show v + y % 128 * 128 ^ i + y / 128 * (128 ^ i * 128) = v + y * 128 ^ i
        have e2 : y = y % 128 + 128 * (y / 128) := by omega
        conv => rhs; rw [e2]
        rw [Nat.add_mul, Nat.mul_comm (128 ^ i) 128, ← Nat.mul_assoc, Nat.mul_comm (y / 128) 128]
        omega
      · show i + 1 + _ = i + (_ + 1)
        omega
theorem uint_fwd {s : ByteArray} {p v most : Nat} {t : List UInt8} (h : s.data.toList.drop p = uintB 9 v ++ t) (hv : v < 18446744073709551616) (hm : v ≤ most) : uintS s p 0 most = (v, p + (uintB 9 v).length, 0) := by
  unfold uintS
  rw [if_neg (by simp), h, dg_fwd t 9 0 0 v (by omega) (by omega) (by omega)]
  simp only [Nat.zero_add, Nat.pow_zero, Nat.mul_one, ne_eq, not_true_eq_false, if_false]
  rw [if_neg (by omega)]
end Go.Proofs.Ytopabadnbelegaa.W
