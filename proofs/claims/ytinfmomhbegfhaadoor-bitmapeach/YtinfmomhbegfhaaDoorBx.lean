/- Bytes that are laid into words, and what is over. Of no program. -/
import Derived.Test.YtinfmomhbegfhaaDoorBn
namespace Go.Proofs.YtinfmomhbegfhaaDoor.Bit
theorem num_snoc : ∀ (l : List UInt8) (b : UInt8), num (l ++ [b]) = num l ||| b.toNat <<< (8 * l.length)
  | l, b => by
    have h : ∀ l : List UInt8, num (l ++ [b]) = num l + b.toNat * 2 ^ (8 * l.length) := by
      intro l
      induction l with
      | nil => simp [num]
      | cons a r ih =>
        rw [List.cons_append, num, ih, num, List.length_cons, show 8 * (r.length + 1) = 8 + 8 * r.length from by omega, Nat.pow_add, show 2 ^ 8 = 256 from rfl, Nat.mul_add, ← Nat.add_assoc]
        congr 1
        rw [Nat.mul_left_comm]
    rw [h, Nat.shiftLeft_eq, Nat.or_comm, Nat.mul_comm, ← Nat.two_pow_add_eq_or_of_lt (num_lt l), Nat.add_comm]
theorem word_byte (S k b : Nat) (hb : b < 256) : word (S ||| b <<< (8 * k)) (k / 8) = word S (k / 8) ||| b <<< (k % 8 * 8) := by
  apply Nat.eq_of_testBit_eq
  intro j
  rw [word_bit, Nat.testBit_or, Nat.testBit_or, word_bit, Nat.testBit_shiftLeft, Nat.testBit_shiftLeft]
  have hbit : ∀ i, 8 ≤ i → b.testBit i = false := fun i hi => Nat.testBit_lt_two_pow (Nat.lt_of_lt_of_le (show b < 2 ^ 8 from hb) (Nat.pow_le_pow_right (by decide) hi))
  by_cases hj : j < 64
  · have e : (64 * (k / 8) + j ≥ 8 * k) ↔ (j ≥ k % 8 * 8) := by omega
    have e2 : 64 * (k / 8) + j - 8 * k = j - k % 8 * 8 := by omega
    simp only [hj, decide_true, Bool.true_and, e, e2]
  · have e2 : b.testBit (j - k % 8 * 8) = false := hbit _ (by omega)
    simp [hj, e2]
theorem word_byte_other (S k b i : Nat) (hb : b < 256) (h : i ≠ k / 8) : word (S ||| b <<< (8 * k)) i = word S i := by
  apply Nat.eq_of_testBit_eq
  intro j
  rw [word_bit, word_bit, Nat.testBit_or, Nat.testBit_shiftLeft]
  have hbit : ∀ i, 8 ≤ i → b.testBit i = false := fun i hi => Nat.testBit_lt_two_pow (Nat.lt_of_lt_of_le (show b < 2 ^ 8 from hb) (Nat.pow_le_pow_right (by decide) hi))
  by_cases hj : j < 64
  · by_cases hg : 64 * i + j ≥ 8 * k
    · rw [hbit (64 * i + j - 8 * k) (by omega)]; simp
    · simp [hg]
  · simp [hj]
theorem mask_bit (r j : Nat) (hr : r ≤ 64) : (18446744073709551615 - (2 ^ r - 1)).testBit j = (decide (j < 64) && !decide (j < r)) := by
  have h1 : 2 ^ r ≤ 2 ^ 64 := Nat.pow_le_pow_right (by decide) hr
  have h0 : 0 < 2 ^ r := Nat.pow_pos (by decide)
  have h2 : (2 : Nat) ^ 64 = 18446744073709551616 := rfl
  rw [show 18446744073709551615 - (2 ^ r - 1) = 2 ^ 64 - ((2 ^ r - 1) + 1) from by omega, Nat.testBit_two_pow_sub_succ (by omega), Nat.testBit_two_pow_sub_one]
theorem over_none {W r : Nat} (hr : r ≤ 64) (h : W < 2 ^ r) : W &&& (18446744073709551615 - (2 ^ r - 1)) = 0 := by
  apply Nat.eq_of_testBit_eq
  intro j
  rw [Nat.testBit_and, mask_bit r j hr, Nat.zero_testBit]
  by_cases hj : j < r
  · simp [hj]
  · rw [Nat.testBit_lt_two_pow (Nat.lt_of_lt_of_le h (Nat.pow_le_pow_right (by decide) (by omega)))]; simp
theorem over_some {W r : Nat} (hr : r ≤ 64) (hW : W < 18446744073709551616) (h : ¬ W < 2 ^ r) : W &&& (18446744073709551615 - (2 ^ r - 1)) ≠ 0 := by
  intro h0
  obtain ⟨j, hj, hb⟩ := Nat.exists_ge_and_testBit_of_ge_two_pow (Nat.le_of_not_lt h)
  have h1 := congrArg (fun z => z.testBit j) h0
  have hj64 : j < 64 := by
    rcases Nat.lt_or_ge j 64 with h | h
    · exact h
    · rw [Nat.testBit_lt_two_pow (Nat.lt_of_lt_of_le (show W < 2 ^ 64 from hW) (Nat.pow_le_pow_right (by decide) h))] at hb
      cases hb
  simp only [Nat.testBit_and, mask_bit r j hr, Nat.zero_testBit, hb, hj64] at h1
  have : ¬ j < r := by omega
  simp [this] at h1
/-- the last word tells whether the set is below its bound -/
theorem last_word {S n m : Nat} (hS : S < 2 ^ (64 * (m + 1))) (h1 : 64 * m ≤ n) : word S m < 2 ^ (n - 64 * m) ↔ S < 2 ^ n := by
  have e : word S m = S / 2 ^ (64 * m) := by
    rw [word]
    apply Nat.mod_eq_of_lt
    rw [Nat.div_lt_iff_lt_mul (Nat.pow_pos (by decide)), ← Nat.pow_add]
    rwa [show 64 + 64 * m = 64 * (m + 1) from by omega]
  rw [e, Nat.div_lt_iff_lt_mul (Nat.pow_pos (by decide)), ← Nat.pow_add, show n - 64 * m + 64 * m = n from by omega]
end Go.Proofs.YtinfmomhbegfhaaDoor.Bit
