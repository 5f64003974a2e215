/- The numbers that Fill puts in: words. Of no program. -/
import Derived.Test.YtinfmomhbegfhaaDoorBx
namespace Go.Proofs.YtinfmomhbegfhaaDoor

namespace Bit
/-- the numbers from f on and below b -/
def span (f b : Nat) : Nat := (2 ^ b - 1) ^^^ (2 ^ f - 1)
theorem span_bit (f b j : Nat) (h : f ≤ b) : (span f b).testBit j = (decide (f ≤ j) && decide (j < b)) := by
  rw [span, Nat.testBit_xor, Nat.testBit_two_pow_sub_one, Nat.testBit_two_pow_sub_one]
  by_cases h1 : j < b <;> by_cases h2 : j < f <;> by_cases h3 : f ≤ j <;> simp [h1, h2, h3] <;> omega
theorem span_lt (f b : Nat) (h : f ≤ b) : span f b < 2 ^ b := by
  have h0 : 0 < 2 ^ b := Nat.pow_pos (by decide)
  have h1 : 2 ^ f ≤ 2 ^ b := Nat.pow_le_pow_right (by decide) h
  exact Nat.xor_lt_two_pow (by omega) (by omega)
/-- .. laid into the first k words -/
def fillK (S f b k : Nat) : Nat := S ||| span f b % 2 ^ (64 * k)
theorem fillK_zero (S f b : Nat) : fillK S f b 0 = S := by simp [fillK, Nat.mod_one]
theorem fillK_bit (S f b k j : Nat) (h : f ≤ b) : (fillK S f b k).testBit j = (S.testBit j || (decide (j < 64 * k) && (decide (f ≤ j) && decide (j < b)))) := by
  rw [fillK, Nat.testBit_or, Nat.testBit_mod_two_pow, span_bit _ _ _ h]
theorem fillK_all (S f b k : Nat) (h : f ≤ b) (hk : b ≤ 64 * k) : fillK S f b k = S ||| span f b := by
  rw [fillK, Nat.mod_eq_of_lt (Nat.lt_of_lt_of_le (span_lt f b h) (Nat.pow_le_pow_right (by decide) hk))]
theorem fillK_word (S f b k : Nat) (h : f ≤ b) : word (fillK S f b (k + 1)) k = word (fillK S f b k) k ||| ((2 ^ min (b - 64 * k) 64 - 1) &&& (18446744073709551615 - (2 ^ min (f - 64 * k) 64 - 1))) := by
  apply Nat.eq_of_testBit_eq
  intro j
  rw [word_bit, Nat.testBit_or, word_bit, Nat.testBit_and, mask_bit _ _ (Nat.min_le_right _ _), Nat.testBit_two_pow_sub_one, fillK_bit _ _ _ _ _ h, fillK_bit _ _ _ _ _ h]
  by_cases hj : j < 64
  · have e1 : 64 * k + j < 64 * (k + 1) := by omega
    have e2 : ¬ 64 * k + j < 64 * k := by omega
    have e3 : (j < min (b - 64 * k) 64) ↔ (64 * k + j < b) := by omega
    have e4 : (j < min (f - 64 * k) 64) ↔ ¬ (f ≤ 64 * k + j) := by omega
    simp only [hj, e1, e2, e3, e4, decide_true, decide_false, Bool.true_and, Bool.false_and, Bool.or_false]
    by_cases h5 : f ≤ 64 * k + j <;> by_cases h6 : 64 * k + j < b <;> simp [h5, h6]
  · have e3 : ¬ (j < min (b - 64 * k) 64) := by omega
    simp [hj, e3]
theorem fillK_other (S f b k i : Nat) (h : f ≤ b) (hi : i ≠ k) : word (fillK S f b (k + 1)) i = word (fillK S f b k) i := by
  apply Nat.eq_of_testBit_eq
  intro j
  rw [word_bit, word_bit, fillK_bit _ _ _ _ _ h, fillK_bit _ _ _ _ _ h]
  by_cases hj : j < 64
  · have e : (64 * i + j < 64 * (k + 1)) ↔ (64 * i + j < 64 * k) := by omega
    simp only [hj, e]
  · simp [hj]
end Bit
end Go.Proofs.YtinfmomhbegfhaaDoor
