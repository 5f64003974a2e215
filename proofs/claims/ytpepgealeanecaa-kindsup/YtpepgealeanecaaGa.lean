/- The order of floats, by their bits. Mathematics alone. -/
import Derived.Test.YtpepgealeanecaaGw
namespace Go.Proofs.Ytpepgealeanecaa
open Go.RowKit
/-- what a rung is worth, in units of the least place -/
def mag (r : Nat) : Nat := if r < 4503599627370496 then r else (4503599627370496 + r % 4503599627370496) * 2 ^ (r / 4503599627370496 - 1)
theorem mag_succ (r : Nat) : mag r < mag (r + 1) := by
  unfold mag
  by_cases h1 : r + 1 < 4503599627370496
  · rw [if_pos (by omega), if_pos h1]; omega
  · by_cases h2 : r < 4503599627370496
    · have : r = 4503599627370495 := by omega
      subst this
      decide
    · rw [if_neg h2, if_neg h1]
      have hq : 1 ≤ r / 4503599627370496 := by omega
      by_cases h3 : r % 4503599627370496 + 1 < 4503599627370496
      · have e1 : (r + 1) / 4503599627370496 = r / 4503599627370496 := by omega
        have e2 : (r + 1) % 4503599627370496 = r % 4503599627370496 + 1 := by omega
        rw [e1, e2]
        exact Nat.mul_lt_mul_of_pos_right (by omega) (Nat.two_pow_pos _)
      · have e1 : (r + 1) / 4503599627370496 = r / 4503599627370496 + 1 := by omega
        have e2 : (r + 1) % 4503599627370496 = 0 := by omega
        rw [e1, e2]
        obtain ⟨q, hq'⟩ : ∃ q, r / 4503599627370496 = q + 1 := ⟨r / 4503599627370496 - 1, by omega⟩
        rw [hq']
        simp only [Nat.add_sub_cancel, Nat.add_zero]
        rw [Nat.pow_succ]
        have hp : 0 < 2 ^ q := Nat.two_pow_pos _
        generalize 2 ^ q = z at hp
        have hf : r % 4503599627370496 < 4503599627370496 := Nat.mod_lt _ (by decide)
        generalize r % 4503599627370496 = f at hf
        have : (4503599627370496 + f) * z < 9007199254740992 * z := Nat.mul_lt_mul_of_pos_right (by omega) hp
        omega
theorem mag_mono {r s : Nat} (h : r < s) : mag r < mag s := by
  induction s with
  | zero => omega
  | succ s ih =>
    rcases Nat.lt_or_ge r s with h1 | h1
    · exact Nat.lt_trans (ih h1) (mag_succ s)
    · have : r = s := by omega
      subst this
      exact mag_succ r
/-- a float's place in the order of all that are numbers -/
def key (b : Nat) : Int := if b / 9223372036854775808 % 2 = 1 then -((b % 9223372036854775808 : Nat) : Int) else ((b % 9223372036854775808 : Nat) : Int)
def rung (b : Nat) : Nat := b % 9223372036854775808
def sg (b : Nat) : Bool := b / 9223372036854775808 % 2 == 1
theorem key_eq (b : Nat) : key b = if sg b = true then -((rung b : Nat) : Int) else ((rung b : Nat) : Int) := by
  unfold key sg rung
  by_cases h : b / 9223372036854775808 % 2 = 1
  · simp [h]
  · simp [h]
theorem cmp_key (a b : Int) : (compare a b == .eq) = decide (a = b) := by
  rw [Bool.eq_iff_iff]
  simp [compare, compareOfLessAndEq]
  by_cases h : a < b
  · simp [h]; omega
  · simp [h]
/-- signs and strictly rising sizes -/
def sgn (s : Bool) (n : Nat) : Int := if s = true then -(n : Int) else (n : Int)
theorem cmp_int (a b c d : Int) (h1 : a < b ↔ c < d) (h2 : a = b ↔ c = d) : compare a b = compare c d := by
  simp only [compare, compareOfLessAndEq]
  by_cases ha : a < b
  · rw [if_pos ha, if_pos (h1.1 ha)]
  · rw [if_neg ha, if_neg (fun h => ha (h1.2 h))]
    by_cases hb : a = b
    · rw [if_pos hb, if_pos (h2.1 hb)]
    · rw [if_neg hb, if_neg (fun h => hb (h2.2 h))]
theorem mag_zero : mag 0 = 0 := by decide
theorem mag_lt_iff (r s : Nat) : mag r < mag s ↔ r < s :=
  ⟨fun h => by
    rcases Nat.lt_or_ge r s with k | k
    · exact k
    · rcases Nat.lt_or_eq_of_le k with k | k
      · have := mag_mono k; omega
      · subst k; omega, mag_mono⟩
theorem mag_inj {r s : Nat} (h : mag r = mag s) : r = s := by
  have h1 := mag_lt_iff r s
  have h2 := mag_lt_iff s r
  omega
theorem cmp_mag (s t : Bool) (r q : Nat) : compare (sgn s (mag r)) (sgn t (mag q)) = compare (sgn s r) (sgn t q) := by
  have h0 := mag_zero
  have h1 := mag_lt_iff r q
  have h2 := mag_lt_iff q r
  have h3 := mag_lt_iff 0 r
  have h4 := mag_lt_iff 0 q
  have h5 : mag r = mag q ↔ r = q := ⟨mag_inj, fun h => by rw [h]⟩
  rw [h0] at h3 h4
  refine cmp_int _ _ _ _ ?_ ?_
  · cases s <;> cases t <;> simp [sgn] <;> omega
  · cases s <;> cases t <;> simp [sgn] <;> omega
/-- scaling both by one power of two -/
theorem cmp_scale (s t : Bool) (m n k : Nat) : compare (sgn s (m * 2 ^ k)) (sgn t (n * 2 ^ k)) = compare (sgn s m) (sgn t n) := by
  have hp : 0 < 2 ^ k := Nat.two_pow_pos _
  generalize 2 ^ k = z at hp
  have h1 : m * z < n * z ↔ m < n := ⟨fun h => Nat.lt_of_mul_lt_mul_right h, fun h => Nat.mul_lt_mul_of_pos_right h hp⟩
  have h2 : n * z < m * z ↔ n < m := ⟨fun h => Nat.lt_of_mul_lt_mul_right h, fun h => Nat.mul_lt_mul_of_pos_right h hp⟩
  have h3 : 0 < m * z ↔ 0 < m := ⟨fun h => Nat.pos_of_ne_zero (by rintro rfl; simp at h), fun h => Nat.mul_pos h hp⟩
  have h4 : 0 < n * z ↔ 0 < n := ⟨fun h => Nat.pos_of_ne_zero (by rintro rfl; simp at h), fun h => Nat.mul_pos h hp⟩
  generalize m * z = M at h1 h2 h3
  generalize n * z = N at h1 h2 h4
  refine cmp_int _ _ _ _ ?_ ?_
  · cases s <;> cases t <;> simp [sgn] <;> omega
  · cases s <;> cases t <;> simp [sgn] <;> omega
theorem signed_sgn (s : Bool) (m k : Nat) : Ieee.signed s m k = sgn s (m * 2 ^ k) := by
  unfold Ieee.signed sgn
  rw [Nat.shiftLeft_eq]
/-- a number's datum: its size times a power of two is the rung's worth -/
def fr (r : Nat) : Nat := if r < 4503599627370496 then r else 4503599627370496 + r % 4503599627370496
def ex (r : Nat) : Nat := if r < 4503599627370496 then 0 else r / 4503599627370496 - 1
theorem mag_fr (r : Nat) : mag r = fr r * 2 ^ ex r := by
  unfold mag fr ex
  split <;> simp
theorem read_num (b : Nat) (h : rung b < 9218868437227405312) : Ieee.double.read b = .number (sg b) (fr (rung b)) (-1074 + (ex (rung b) : Int)) := by
  have hs : Ieee.double.signWeight = 9223372036854775808 := by decide
  have hb : Ieee.double.binade = 4503599627370496 := by decide
  have hi : Ieee.double.infRung = 9218868437227405312 := by decide
  have hl : Ieee.double.leastPlace = -1074 := by decide
  unfold rung at h
  unfold Ieee.Format.read sg fr ex rung
  simp only [hs, hb, hi, hl]
  by_cases h1 : b % 9223372036854775808 < 4503599627370496
  · rw [if_pos h1, if_pos h1, if_pos h1]; simp
  · rw [if_neg h1, if_neg h1, if_neg h1, if_pos h]
theorem read_inf (b : Nat) (h : rung b = 9218868437227405312) : Ieee.double.read b = .infinity (sg b) := by
  have hs : Ieee.double.signWeight = 9223372036854775808 := by decide
  have hb : Ieee.double.binade = 4503599627370496 := by decide
  have hi : Ieee.double.infRung = 9218868437227405312 := by decide
  unfold rung at h
  unfold Ieee.Format.read sg
  simp only [hs, hb, hi]
  rw [if_neg (by omega), if_neg (by omega), if_pos h]
theorem read_nan (b : Nat) (h : 9218868437227405312 < rung b) : ∃ s t, Ieee.double.read b = .nan s t := by
  have hs : Ieee.double.signWeight = 9223372036854775808 := by decide
  have hb : Ieee.double.binade = 4503599627370496 := by decide
  have hi : Ieee.double.infRung = 9218868437227405312 := by decide
  unfold rung at h
  unfold Ieee.Format.read
  simp only [hs, hb, hi]
  rw [if_neg (by omega), if_neg (by omega), if_neg (by omega)]
  exact ⟨_, _, rfl⟩
theorem order_key (a b : Nat) (ha : rung a ≤ 9218868437227405312) (hb : rung b ≤ 9218868437227405312) : Ieee.double.order a b = some (compare (key a) (key b)) := by
  rw [key_eq, key_eq]
  change _ = some (compare (sgn (sg a) (rung a)) (sgn (sg b) (rung b)))
  unfold Ieee.Format.order
  rcases Nat.lt_or_eq_of_le ha with ha | ha
  · rw [read_num a ha]
    rcases Nat.lt_or_eq_of_le hb with hb | hb
    · rw [read_num b hb]
      simp only [Ieee.Datum.order]
      rw [signed_sgn, signed_sgn]
      rw [← cmp_mag (sg a) (sg b) (rung a) (rung b), mag_fr, mag_fr]
      generalize ex (rung a) = i
      generalize ex (rung b) = j
      rw [← cmp_scale (sg a) (sg b) _ _ (min i j)]
      congr 2
      · rw [Nat.mul_assoc, ← Nat.pow_add]; congr 3; omega
      · rw [Nat.mul_assoc, ← Nat.pow_add]; congr 3; omega
    · rw [read_inf b hb]
      simp only [Ieee.Datum.order]
      congr 1
      rw [hb]
      cases hs : sg b
      · have h : sgn (sg a) (rung a) < sgn false 9218868437227405312 := by unfold sgn; split <;> simp <;> omega
        simp only [compare, compareOfLessAndEq, if_pos h]; rfl
      · have h : ¬ sgn (sg a) (rung a) < sgn true 9218868437227405312 := by unfold sgn; split <;> simp <;> omega
        have h' : ¬ sgn (sg a) (rung a) = sgn true 9218868437227405312 := by unfold sgn; split <;> simp <;> omega
        simp only [compare, compareOfLessAndEq, if_neg h, if_neg h']; rfl
  · rw [read_inf a ha]
    rcases Nat.lt_or_eq_of_le hb with hb | hb
    · rw [read_num b hb]
      simp only [Ieee.Datum.order]
      congr 1
      rw [ha]
      cases hs : sg a
      · have h : ¬ sgn false 9218868437227405312 < sgn (sg b) (rung b) := by cases sg b <;> simp [sgn] <;> omega
        have h' : ¬ sgn false 9218868437227405312 = sgn (sg b) (rung b) := by cases sg b <;> simp [sgn] <;> omega
        simp only [compare, compareOfLessAndEq, if_neg h, if_neg h']; rfl
      · have h : sgn true 9218868437227405312 < sgn (sg b) (rung b) := by cases sg b <;> simp [sgn] <;> omega
        simp only [compare, compareOfLessAndEq, if_pos h]; rfl
    · rw [read_inf b hb, ha, hb]
      simp only [Ieee.Datum.order]
      cases sg a <;> cases sg b <;> decide
theorem order_nan (a b : Nat) (h : 9218868437227405312 < rung a ∨ 9218868437227405312 < rung b) : Ieee.double.order a b = none := by
  unfold Ieee.Format.order
  rcases h with h | h
  · obtain ⟨s, t, e⟩ := read_nan a h
    rw [e]; cases Ieee.double.read b <;> rfl
  · obtain ⟨s, t, e⟩ := read_nan b h
    rw [e]; cases Ieee.double.read a <;> rfl
theorem nan_iff (b : Nat) : W.isNan b = decide (9218868437227405312 < rung b) := by
  unfold W.isNan
  show (Ieee.double.order b b != some .eq) = _
  by_cases h : 9218868437227405312 < rung b
  · rw [order_nan b b (.inl h), decide_eq_true h]; rfl
  · rw [order_key b b (by omega) (by omega), decide_eq_false h]
    have : compare (key b) (key b) = .eq := by simp [compare, compareOfLessAndEq]
    rw [this]; rfl
theorem ord_lt (a b : Nat) : (FloatKind.f64.format.order a b == some .lt) = decide (rung a ≤ 9218868437227405312 ∧ rung b ≤ 9218868437227405312 ∧ key a < key b) := by
  show (Ieee.double.order a b == some .lt) = _
  by_cases h : 9218868437227405312 < rung a ∨ 9218868437227405312 < rung b
  · rw [order_nan a b h, decide_eq_false (by omega)]; rfl
  · rw [order_key a b (by omega) (by omega)]
    by_cases k : key a < key b
    · rw [decide_eq_true (by omega)]
      simp only [compare, compareOfLessAndEq, if_pos k]; rfl
    · rw [decide_eq_false (fun h => k h.2.2)]
      simp only [compare, compareOfLessAndEq, if_neg k]; split <;> rfl
theorem ord_eq (a b : Nat) : (FloatKind.f64.format.order a b == some .eq) = decide (rung a ≤ 9218868437227405312 ∧ rung b ≤ 9218868437227405312 ∧ key a = key b) := by
  show (Ieee.double.order a b == some .eq) = _
  by_cases h : 9218868437227405312 < rung a ∨ 9218868437227405312 < rung b
  · rw [order_nan a b h, decide_eq_false (by omega)]; rfl
  · rw [order_key a b (by omega) (by omega)]
    by_cases k : key a = key b
    · rw [decide_eq_true (by omega)]
      simp only [compare, compareOfLessAndEq, if_neg (show ¬ key a < key b by omega), if_pos k]; rfl
    · rw [decide_eq_false (fun h => k h.2.2)]
      simp only [compare, compareOfLessAndEq, if_neg k]; split <;> rfl
theorem ord_gt (a b : Nat) : (FloatKind.f64.format.order a b == some .gt) = decide (rung a ≤ 9218868437227405312 ∧ rung b ≤ 9218868437227405312 ∧ key b < key a) := by
  show (Ieee.double.order a b == some .gt) = _
  by_cases h : 9218868437227405312 < rung a ∨ 9218868437227405312 < rung b
  · rw [order_nan a b h, decide_eq_false (by omega)]; rfl
  · rw [order_key a b (by omega) (by omega)]
    by_cases k : key b < key a
    · rw [decide_eq_true (by omega)]
      simp only [compare, compareOfLessAndEq, if_neg (show ¬ key a < key b by omega), if_neg (show ¬ key a = key b by omega)]; rfl
    · rw [decide_eq_false (fun h => k h.2.2)]
      simp only [compare, compareOfLessAndEq]; split
      · rfl
      · rw [if_pos (by omega)]; rfl
/-- a float's place in the order of floats: the noughts apart, what is no number above all -/
def rk (b : Nat) : Int := if 9218868437227405312 < rung b then 36893488147419103232 else if sg b = true then -(2 * (rung b : Int)) - 1 else 2 * (rung b : Int)
/-- the greater one -/
def grt (x y : Nat) : Nat := if rk x < rk y then y else x
theorem rk_nan {b : Nat} (h : W.isNan b = true) : rk b = 36893488147419103232 := by
  rw [nan_iff, decide_eq_true_eq] at h
  rw [rk, if_pos h]
theorem rk_num {b : Nat} (h : W.isNan b = false) : rk b ≤ 18437736874454810624 ∧ rk b = if sg b = true then -(2 * (rung b : Int)) - 1 else 2 * (rung b : Int) := by
  rw [nan_iff, decide_eq_false_iff_not] at h
  rw [rk, if_neg h]
  refine ⟨?_, rfl⟩
  split <;> omega
theorem rk_flt (b : Nat) : rk (W.fltB b) = rk b := by
  unfold W.fltB
  split
  · rename_i h
    rw [rk_nan h]; decide
  · rfl
theorem flt_flt (b : Nat) : W.fltB (W.fltB b) = W.fltB b := by
  unfold W.fltB
  by_cases h : W.isNan b = true
  · rw [if_pos h]; split <;> rfl
  · rw [if_neg h, if_neg h]
theorem flt_lt {b : Nat} (h : b < 18446744073709551616) : W.fltB b < 18446744073709551616 := by
  unfold W.fltB
  split <;> omega
theorem split_bits {b : Nat} (h : b < 18446744073709551616) : b = (if sg b = true then 9223372036854775808 else 0) + rung b := by
  unfold sg rung
  by_cases h1 : b / 9223372036854775808 % 2 = 1
  · simp [h1]; omega
  · simp [h1]; omega
theorem rk_inj {x y : Nat} (hx : x < 18446744073709551616) (hy : y < 18446744073709551616) : rk x = rk y ↔ W.fltB x = W.fltB y := by
  constructor
  · intro h
    by_cases nx : W.isNan x = true
    · by_cases ny : W.isNan y = true
      · unfold W.fltB; rw [if_pos nx, if_pos ny]
      · have := rk_nan nx; have := (rk_num (b := y) (by simpa using ny)).1; omega
    · by_cases ny : W.isNan y = true
      · have := rk_nan ny; have := (rk_num (b := x) (by simpa using nx)).1; omega
      · unfold W.fltB; rw [if_neg nx, if_neg ny]
        have e1 := (rk_num (b := x) (by simpa using nx)).2
        have e2 := (rk_num (b := y) (by simpa using ny)).2
        have s1 := split_bits hx
        have s2 := split_bits hy
        rw [e1, e2] at h
        cases a : sg x <;> cases b : sg y <;> simp [a, b] at h s1 s2 <;> omega
  · intro h
    rw [← rk_flt x, ← rk_flt y, h]
theorem key_num {b : Nat} : key b = if sg b = true then -((rung b : Nat) : Int) else ((rung b : Nat) : Int) := key_eq b
/-- the program's test: is x below y? -/
theorem rk_lt_num {x y : Nat} (nx : W.isNan x = false) (ny : W.isNan y = false) : (rk x < rk y) ↔ (key x < key y ∨ key x = key y ∧ sg x = true ∧ sg y = false) := by
  have e1 := (rk_num nx).2
  have e2 := (rk_num ny).2
  rw [e1, e2, key_eq, key_eq]
  cases sg x <;> cases sg y <;> simp <;> omega
end Go.Proofs.Ytpepgealeanecaa
