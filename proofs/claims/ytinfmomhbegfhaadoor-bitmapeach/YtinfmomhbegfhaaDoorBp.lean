/- How many bits are set: by halves, and one by one. Of no program. -/
import Derived.Test.YtinfmomhbegfhaaDoorBn
namespace Go.Proofs.YtinfmomhbegfhaaDoor.Bit
/-- how many of the numbers below n are in -/
def count (S : Nat) : Nat → Nat
  | 0 => 0
  | n + 1 => count S n + (S.testBit n).toNat
theorem count_le (S : Nat) : ∀ n, count S n ≤ n
  | 0 => Nat.le_refl _
  | n + 1 => by
    have := count_le S n
    have := Bool.toNat_le (S.testBit n)
    rw [count]; omega
theorem count_congr {S T : Nat} : ∀ n, (∀ i, i < n → S.testBit i = T.testBit i) → count S n = count T n
  | 0, _ => rfl
  | n + 1, h => by rw [count, count, count_congr n (fun i hi => h i (by omega)), h n (by omega)]
theorem count_add (S a : Nat) : ∀ b, count S (a + b) = count S a + count (S / 2 ^ a) b
  | 0 => rfl
  | b + 1 => by rw [← Nat.add_assoc, count, count_add S a b, count, Nat.testBit_div_two_pow, Nat.add_comm b a, Nat.add_assoc]
theorem count_zero : ∀ n, count 0 n = 0
  | 0 => rfl
  | n + 1 => by rw [count, count_zero n]; simp
theorem count_high {S n m : Nat} (h : S < 2 ^ n) (hm : n ≤ m) : count S m = count S n := by
  obtain ⟨d, rfl⟩ : ∃ d, m = n + d := ⟨m - n, by omega⟩
  rw [count_add, Nat.div_eq_of_lt h, count_zero, Nat.add_zero]
theorem count_or_and (S T : Nat) : ∀ n, count (S ||| T) n + count (S &&& T) n = count S n + count T n
  | 0 => rfl
  | n + 1 => by
    have h := count_or_and S T n
    simp only [count, Nat.testBit_or, Nat.testBit_and]
    cases S.testBit n <;> cases T.testBit n <;> simp <;> omega
/-- what is in the one and not in the other -/
def minus (S T : Nat) : Nat := S ^^^ (S &&& T)
theorem minus_bit (S T j : Nat) : (minus S T).testBit j = (S.testBit j && !T.testBit j) := by
  rw [minus, Nat.testBit_xor, Nat.testBit_and]
  cases S.testBit j <;> cases T.testBit j <;> rfl
theorem minus_lt {S n : Nat} (h : S < 2 ^ n) (T : Nat) : minus S T < 2 ^ n := Nat.xor_lt_two_pow h (Nat.lt_of_le_of_lt Nat.and_le_left h)
theorem minus_self (S : Nat) : minus S S = 0 := by rw [minus, Nat.and_self, Nat.xor_self]
theorem count_minus (S T : Nat) : ∀ n, count (minus S T) n + count (S &&& T) n = count S n
  | 0 => rfl
  | n + 1 => by
    have h := count_minus S T n
    simp only [count, minus_bit, Nat.testBit_and]
    cases S.testBit n <;> cases T.testBit n <;> simp <;> omega

/-- a byte, again and again -/
def mask (b : Nat) : Nat → Nat
  | 0 => 0
  | k + 1 => b + 256 * mask b k
theorem and_split (a b c e s : Nat) (ha : a < 256) (hc : c < 2 ^ (8 - s)) (hs : s ≤ 8) : (a + 256 * b) / 2 ^ s &&& (c + 256 * e) = (a / 2 ^ s &&& c) + 256 * (b / 2 ^ s &&& e) := by
  have hc8 : c < 2 ^ 8 := Nat.lt_of_lt_of_le hc (Nat.pow_le_pow_right (by decide) (by omega))
  have hx : (a / 2 ^ s &&& c) < 2 ^ 8 := Nat.lt_of_le_of_lt Nat.and_le_right hc8
  apply Nat.eq_of_testBit_eq
  intro i
  rw [show 256 = 2 ^ 8 from rfl, Nat.add_comm a, Nat.add_comm c, Nat.add_comm (a / 2 ^ s &&& c), Nat.testBit_and, Nat.testBit_div_two_pow, Nat.testBit_two_pow_mul_add _ ha, Nat.testBit_two_pow_mul_add _ hc8, Nat.testBit_two_pow_mul_add _ hx]
  by_cases h1 : i < 8
  · rw [if_pos h1, if_pos h1, Nat.testBit_and, Nat.testBit_div_two_pow]
    by_cases h2 : i + s < 8
    · rw [if_pos h2]
    · have : c.testBit i = false := Nat.testBit_lt_two_pow (Nat.lt_of_lt_of_le hc (Nat.pow_le_pow_right (by decide) (by omega)))
      rw [this, Bool.and_false, Bool.and_false]
  · rw [if_neg h1, if_neg h1, if_neg (by omega), Nat.testBit_and, Nat.testBit_div_two_pow, show i + s - 8 = i - 8 + s from by omega]
/-- the bits two by two, the pairs two by two -/
def s1 (k x : Nat) : Nat := (x / 2 ^ 1 &&& mask 85 k) + (x / 2 ^ 0 &&& mask 85 k)
def s2 (k x : Nat) : Nat := (x / 2 ^ 2 &&& mask 51 k) + (x / 2 ^ 0 &&& mask 51 k)
def s3 (k x : Nat) : Nat := (x / 2 ^ 4 + x) / 2 ^ 0 &&& mask 15 k
theorem s1_split (k a b : Nat) (ha : a < 256) : s1 (k + 1) (a + 256 * b) = s1 1 a + 256 * s1 k b := by
  have h1 := and_split a b 85 (mask 85 k) 1 ha (by decide) (by decide)
  have h2 := and_split a b 85 (mask 85 k) 0 ha (by decide) (by decide)
  rw [s1, mask, h1, h2, s1, s1, mask, mask, Nat.mul_zero, Nat.add_zero]
  omega
theorem s2_split (k a b : Nat) (ha : a < 256) : s2 (k + 1) (a + 256 * b) = s2 1 a + 256 * s2 k b := by
  have h1 := and_split a b 51 (mask 51 k) 2 ha (by decide) (by decide)
  have h2 := and_split a b 51 (mask 51 k) 0 ha (by decide) (by decide)
  rw [s2, mask, h1, h2, s2, s2, mask, mask, Nat.mul_zero, Nat.add_zero]
  omega
theorem byte_facts : ∀ a : Fin 256, s1 1 a.1 < 256 ∧ s2 1 (s1 1 a.1) < 69 ∧ s2 1 (s1 1 a.1) % 16 ≤ 4 ∧ s3 1 (s2 1 (s1 1 a.1)) = count a.1 8 := by decide +kernel
theorem s12_split (k a b : Nat) (ha : a < 256) : s2 (k + 1) (s1 (k + 1) (a + 256 * b)) = s2 1 (s1 1 a) + 256 * s2 k (s1 k b) := by
  rw [s1_split k a b ha, s2_split k _ _ (byte_facts ⟨a, ha⟩).1]
theorem s12_low : ∀ k x, s2 k (s1 k x) % 16 ≤ 4
  | 0, x => by simp [s2, s1, mask]
  | k + 1, x => by
    have h := s12_split k (x % 256) (x / 256) (Nat.mod_lt _ (by decide))
    have h1 := (byte_facts ⟨x % 256, Nat.mod_lt _ (by decide)⟩).2.2.1
    simp only at h1
    rw [show x % 256 + 256 * (x / 256) = x from by omega] at h
    omega
theorem s3_split (k a b : Nat) (ha : a < 69) (hb : b % 16 ≤ 4) : s3 (k + 1) (a + 256 * b) = s3 1 a + 256 * s3 k b := by
  have e : (a + 256 * b) / 2 ^ 4 + (a + 256 * b) = (a / 16 + a + 16 * (b % 16)) + 256 * (b / 2 ^ 4 + b) := by omega
  have h := and_split (a / 16 + a + 16 * (b % 16)) (b / 2 ^ 4 + b) 15 (mask 15 k) 0 (by omega) (by decide) (by decide)
  rw [s3, mask, e, h, s3, s3, mask, mask]
  congr 1
  rw [show 15 + 256 * 0 = 2 ^ 4 - 1 from rfl, show 15 = 2 ^ 4 - 1 from rfl, Nat.and_two_pow_sub_one_eq_mod, Nat.and_two_pow_sub_one_eq_mod]
  omega
theorem halves_split (k x : Nat) : s3 (k + 1) (s2 (k + 1) (s1 (k + 1) x)) = count x 8 + 256 * s3 k (s2 k (s1 k (x / 256))) := by
  have h := s12_split k (x % 256) (x / 256) (Nat.mod_lt _ (by decide))
  have h1 := byte_facts ⟨x % 256, Nat.mod_lt _ (by decide)⟩
  rw [show x % 256 + 256 * (x / 256) = x from by omega] at h
  rw [h, s3_split k _ _ h1.2.1 (s12_low k _), h1.2.2.2]
  congr 1
  refine count_congr 8 fun i hi => ?_
  show (x % 2 ^ 8).testBit i = _
  rw [Nat.testBit_mod_two_pow]
  simp [hi]
theorem count_eight (x : Nat) : count x 64 = count x 8 + (count (x / 2 ^ 8) 8 + (count (x / 2 ^ 16) 8 + (count (x / 2 ^ 24) 8 + (count (x / 2 ^ 32) 8 + (count (x / 2 ^ 40) 8 + (count (x / 2 ^ 48) 8 + count (x / 2 ^ 56) 8)))))) := by
  rw [show 64 = 8 + (8 + (8 + (8 + (8 + (8 + (8 + 8)))))) from rfl]
  simp only [count_add, Nat.div_div_eq_div_mul, ← Nat.pow_add]
theorem halves (x : Nat) : s3 8 (s2 8 (s1 8 x)) = count x 8 + 256 * (count (x / 2 ^ 8) 8 + 256 * (count (x / 2 ^ 16) 8 + 256 * (count (x / 2 ^ 24) 8 + 256 * (count (x / 2 ^ 32) 8 + 256 * (count (x / 2 ^ 40) 8 + 256 * (count (x / 2 ^ 48) 8 + 256 * count (x / 2 ^ 56) 8)))))) := by
  have e : ∀ k, x / 2 ^ k / 256 = x / 2 ^ (k + 8) := fun k => by rw [Nat.div_div_eq_div_mul, show 256 = 2 ^ 8 from rfl, ← Nat.pow_add]
  have e0 : x / 256 = x / 2 ^ 8 := rfl
  have z : ∀ y, s3 0 y = 0 := fun y => by simp [s3, mask]
  simp only [halves_split, e0, e, z]
  rfl
theorem sum_digits (e0 e1 e2 e3 e4 e5 e6 e7 V a b c : Nat) (h0 : e0 ≤ 8) (h1 : e1 ≤ 8) (h2 : e2 ≤ 8) (h3 : e3 ≤ 8) (h4 : e4 ≤ 8) (h5 : e5 ≤ 8) (h6 : e6 ≤ 8) (h7 : e7 ≤ 8)
    (hV : V = e0 + 256 * (e1 + 256 * (e2 + 256 * (e3 + 256 * (e4 + 256 * (e5 + 256 * (e6 + 256 * e7)))))))
    (ha : a = V + V / 256) (hb : b = a + a / 65536) (hc : c = b + b / 4294967296) : c % 128 = e0 + (e1 + (e2 + (e3 + (e4 + (e5 + (e6 + e7)))))) ∧ c < 9223372036854775808 ∧ a < 18446744073709551616 ∧ b < 18446744073709551616 := by
  have ha' : a = (e0 + e1) + 256 * ((e1 + e2) + 256 * ((e2 + e3) + 256 * ((e3 + e4) + 256 * ((e4 + e5) + 256 * ((e5 + e6) + 256 * ((e6 + e7) + 256 * e7)))))) := by omega
  have hb' : b = (e0 + e1 + (e2 + e3)) + 256 * ((e1 + e2 + (e3 + e4)) + 256 * ((e2 + e3 + (e4 + e5)) + 256 * ((e3 + e4 + (e5 + e6)) + 256 * ((e4 + e5 + (e6 + e7)) + 256 * ((e5 + e6 + e7) + 256 * ((e6 + e7) + 256 * e7)))))) := by clear hV ha; omega
  have hd : b / 4294967296 = (e4 + e5 + (e6 + e7)) + 256 * ((e5 + e6 + e7) + 256 * ((e6 + e7) + 256 * e7)) := by clear hV ha hb ha' hc; omega
  refine ⟨?_, ?_, ?_, ?_⟩
  · rw [hd, hb'] at hc
    clear hV ha hb ha' hd hb'
    omega
  · rw [hd, hb'] at hc
    clear hV ha hb ha' hd hb'
    omega
  · clear hV ha hb hb' hd hc
    omega
  · clear hV ha hb ha' hd hc
    omega
theorem mask85 : mask 85 8 = 6148914691236517205 := by decide
theorem mask51 : mask 51 8 = 3689348814741910323 := by decide
theorem mask15 : mask 15 8 = 1085102592571150095 := by decide
/-- by halves: what each step makes -/
theorem pops (x : Nat) : ∃ a1 b1 x1 a2 b2 x2 y3 x3 x4 x5 x6 : Nat,
    (x / 2 &&& 6148914691236517205) = a1 ∧ (x &&& 6148914691236517205) = b1 ∧ a1 + b1 = x1 ∧ x1 < 18446744073709551616 ∧
    (x1 / 4 &&& 3689348814741910323) = a2 ∧ (x1 &&& 3689348814741910323) = b2 ∧ a2 + b2 = x2 ∧ x2 < 9223372036854775808 ∧
    x2 / 16 + x2 = y3 ∧ y3 < 18446744073709551616 ∧ (y3 &&& 1085102592571150095) = x3 ∧ x3 + x3 / 256 = x4 ∧ x4 < 18446744073709551616 ∧ x4 + x4 / 65536 = x5 ∧ x5 < 18446744073709551616 ∧ x5 + x5 / 4294967296 = x6 ∧ x6 < 9223372036854775808 ∧
    x6 % 128 = count x 64 := by
  have h1 : s1 8 x = (x / 2 &&& 6148914691236517205) + (x &&& 6148914691236517205) := by rw [s1, mask85]; simp
  have h2 : s2 8 (s1 8 x) = (s1 8 x / 4 &&& 3689348814741910323) + (s1 8 x &&& 3689348814741910323) := by rw [s2, mask51]; simp
  have h3 : s3 8 (s2 8 (s1 8 x)) = (s2 8 (s1 8 x) / 16 + s2 8 (s1 8 x)) &&& 1085102592571150095 := by rw [s3, mask15]; simp
  have hV := halves x
  have c := count_eight x
  have l := fun k => count_le (x / 2 ^ k) 8
  have l0 := count_le x 8
  have r1 : ∀ y m : Nat, (y &&& m) ≤ m := fun y m => Nat.and_le_right
  have b1 := r1 (x / 2) 6148914691236517205
  have b2 := r1 x 6148914691236517205
  have b3 := r1 (s1 8 x / 4) 3689348814741910323
  have b4 := r1 (s1 8 x) 3689348814741910323
  obtain ⟨g1, g2, g3, g4⟩ := sum_digits _ _ _ _ _ _ _ _ _ _ _ _ l0 (l 8) (l 16) (l 24) (l 32) (l 40) (l 48) (l 56) hV rfl rfl rfl
  rw [← c] at g1
  refine ⟨_, _, s1 8 x, _, _, s2 8 (s1 8 x), _, s3 8 (s2 8 (s1 8 x)), _, _, _, rfl, rfl, h1.symm, by omega, rfl, rfl, h2.symm, by omega, rfl, by omega, h3.symm, rfl, g3, rfl, g4, rfl, g2, g1⟩
end Go.Proofs.YtinfmomhbegfhaaDoor.Bit
