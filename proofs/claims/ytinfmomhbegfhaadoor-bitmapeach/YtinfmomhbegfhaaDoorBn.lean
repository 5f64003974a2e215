/- A set as one number: its words and its bytes. Of no program. -/
namespace Go.Proofs.YtinfmomhbegfhaaDoor.Bit
/-- the word i -/
def word (S i : Nat) : Nat := S / 2 ^ (64 * i) % 2 ^ 64
/-- the byte i -/
def byte (S i : Nat) : Nat := S / 2 ^ (8 * i) % 2 ^ 8
theorem word_lt (S i : Nat) : word S i < 18446744073709551616 := Nat.mod_lt _ (by decide)
theorem byte_lt (S i : Nat) : byte S i < 256 := Nat.mod_lt _ (by decide)
theorem word_bit (S i j : Nat) : (word S i).testBit j = (decide (j < 64) && S.testBit (64 * i + j)) := by
  rw [word, Nat.testBit_mod_two_pow, Nat.testBit_div_two_pow, Nat.add_comm]
theorem byte_bit (S i j : Nat) : (byte S i).testBit j = (decide (j < 8) && S.testBit (8 * i + j)) := by
  rw [byte, Nat.testBit_mod_two_pow, Nat.testBit_div_two_pow, Nat.add_comm]
theorem word_zero (i : Nat) : word 0 i = 0 := by simp [word]
/-- a number put in -/
theorem word_put (S x : Nat) : word (S ||| 2 ^ x) (x / 64) = word S (x / 64) ||| 2 ^ (x % 64) := by
  apply Nat.eq_of_testBit_eq
  intro j
  rw [word_bit, Nat.testBit_or, Nat.testBit_or, word_bit, Nat.testBit_two_pow, Nat.testBit_two_pow]
  by_cases hj : j < 64
  · simp only [hj, decide_true, Bool.true_and]
    congr 1
    apply decide_eq_decide.2
    constructor <;> intro h <;> omega
  · have : x % 64 ≠ j := by omega
    simp [hj, this]
theorem word_put_other (S x i : Nat) (h : i ≠ x / 64) : word (S ||| 2 ^ x) i = word S i := by
  apply Nat.eq_of_testBit_eq
  intro j
  rw [word_bit, word_bit, Nat.testBit_or, Nat.testBit_two_pow]
  by_cases hj : j < 64
  · have : x ≠ 64 * i + j := by omega
    simp [this]
  · simp [hj]
theorem put_lt {S n x : Nat} (h : S < 2 ^ n) (hx : x < n) : S ||| 2 ^ x < 2 ^ n := Nat.or_lt_two_pow h (Nat.pow_lt_pow_right (by decide) hx)
/-- a byte of a word -/
theorem byte_word (S i : Nat) : word S (i / 8) / 2 ^ (i % 8 * 8) % 256 = byte S i := by
  apply Nat.eq_of_testBit_eq
  intro j
  rw [show 256 = 2 ^ 8 from rfl, Nat.testBit_mod_two_pow, Nat.testBit_div_two_pow, word_bit, byte_bit]
  by_cases hj : j < 8
  · have h1 : j + i % 8 * 8 < 64 := by omega
    have h2 : 64 * (i / 8) + (j + i % 8 * 8) = 8 * i + j := by omega
    simp [hj, h1, h2]
  · simp [hj]
/-- like words: like sets -/
theorem ext_words {S T n : Nat} (hS : S < 2 ^ n) (hT : T < 2 ^ n) (h : ∀ i, i < (n + 63) / 64 → word S i = word T i) : S = T := by
  apply Nat.eq_of_testBit_eq
  intro j
  by_cases hj : j < n
  · have h1 := h (j / 64) (by omega)
    have h2 := word_bit S (j / 64) (j % 64)
    have h3 := word_bit T (j / 64) (j % 64)
    have h4 : j % 64 < 64 := by omega
    have h5 : 64 * (j / 64) + j % 64 = j := by omega
    rw [h1, h3, h5] at h2
    simpa [h4] using h2.symm
  · rw [Nat.testBit_lt_two_pow (Nat.lt_of_lt_of_le hS (Nat.pow_le_pow_right (by decide) (by omega))), Nat.testBit_lt_two_pow (Nat.lt_of_lt_of_le hT (Nat.pow_le_pow_right (by decide) (by omega)))]
theorem ext_bytes {S T n : Nat} (hS : S < 2 ^ n) (hT : T < 2 ^ n) (h : ∀ i, i < (n + 7) / 8 → byte S i = byte T i) : S = T := by
  apply Nat.eq_of_testBit_eq
  intro j
  by_cases hj : j < n
  · have h1 := h (j / 8) (by omega)
    have h2 := byte_bit S (j / 8) (j % 8)
    have h3 := byte_bit T (j / 8) (j % 8)
    have h4 : j % 8 < 8 := by omega
    have h5 : 8 * (j / 8) + j % 8 = j := by omega
    rw [h1, h3, h5] at h2
    simpa [h4] using h2.symm
  · rw [Nat.testBit_lt_two_pow (Nat.lt_of_lt_of_le hS (Nat.pow_le_pow_right (by decide) (by omega))), Nat.testBit_lt_two_pow (Nat.lt_of_lt_of_le hT (Nat.pow_le_pow_right (by decide) (by omega)))]
/-- the set as bytes -/
def told (S n : Nat) : List UInt8 := (List.range ((n + 7) / 8)).map fun i => UInt8.ofNat (byte S i)
theorem told_length (S n : Nat) : (told S n).length = (n + 7) / 8 := by simp [told]
theorem told_at (S n i : Nat) (h : i < (n + 7) / 8) : (told S n)[i]? = some (UInt8.ofNat (byte S i)) := by simp [told, h]
theorem told_inj {S T n : Nat} (hS : S < 2 ^ n) (hT : T < 2 ^ n) (h : told S n = told T n) : S = T := by
  refine ext_bytes hS hT fun i hi => ?_
  have h1 := told_at S n i hi
  rw [h, told_at T n i hi, Option.some.injEq] at h1
  have h2 := congrArg UInt8.toNat h1
  have a := byte_lt S i
  have b := byte_lt T i
  rw [UInt8.toNat_ofNat', UInt8.toNat_ofNat'] at h2
  omega
/-- the number of these bytes -/
def num : List UInt8 → Nat
  | [] => 0
  | b :: r => b.toNat + 256 * num r
theorem num_lt : ∀ l : List UInt8, num l < 2 ^ (8 * l.length)
  | [] => by decide
  | b :: r => by
    have h := num_lt r
    have h1 := b.toNat_lt
    rw [num, List.length_cons, show 8 * (r.length + 1) = 8 + 8 * r.length from by omega, Nat.pow_add]
    have : 2 ^ 8 = 256 := rfl
    omega
theorem num_byte : ∀ (l : List UInt8) (i : Nat), byte (num l) i = (l.getD i 0).toNat
  | [], i => by simp [num, byte]
  | b :: r, 0 => by
    have h1 := b.toNat_lt
    simp only [byte, num, Nat.mul_zero, Nat.pow_zero, Nat.div_one, List.getD_cons_zero]
    omega
  | b :: r, i + 1 => by
    have h1 := b.toNat_lt
    rw [List.getD_cons_succ, ← num_byte r i, byte, byte, num, show 8 * (i + 1) = 8 + 8 * i from by omega, Nat.pow_add, ← Nat.div_div_eq_div_mul]
    congr 2
    have : 2 ^ 8 = 256 := rfl
    omega
/-- there and back -/
theorem num_told {S n : Nat} (hS : S < 2 ^ n) : num (told S n) = S := by
  have hk : ∀ k, n ≤ k → S < 2 ^ k := fun k h => Nat.lt_of_lt_of_le hS (Nat.pow_le_pow_right (by decide) h)
  refine ext_bytes (n := 8 * ((n + 7) / 8)) ?_ (hk _ (by omega)) fun i hi => ?_
  · have := num_lt (told S n)
    rwa [told_length] at this
  · rw [num_byte, List.getD_eq_getElem?_getD, told_at S n i (by omega), Option.getD_some]
    have := byte_lt S i
    rw [UInt8.toNat_ofNat']
    omega
end Go.Proofs.YtinfmomhbegfhaaDoor.Bit
