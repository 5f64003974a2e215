/- Numbers of a fixed width: there and back, and in order. -/
import Derived.Test.YtpjepndeppckdaaWrC
import Derived.Test.YtpjepndeppckdaaRdF
namespace Go.Proofs.Ytpjepndeppckdaa

theorem fixB_cons (v n : Nat) : fixB v (n + 1) = UInt8.ofNat (v / 256 ^ n) :: fixB v n := by
  unfold fixB
  rw [List.range_succ_eq_map, List.map_cons, List.map_map]
  congr 1
  apply List.map_congr_left
  intro i hi
  have hi : i < n := by simpa using hi
  show UInt8.ofNat (v / 256 ^ (n + 1 - 1 - (i + 1))) = _
  rw [show n + 1 - 1 - (i + 1) = n - 1 - i from by omega]
theorem fixB_snoc (v n : Nat) : fixB v (n + 1) = fixB (v / 256) n ++ [UInt8.ofNat v] := by
  unfold fixB
  rw [List.range_succ, List.map_append]
  congr 1
  · apply List.map_congr_left
    intro i hi
    have hi : i < n := by simpa using hi
    rw [Nat.div_div_eq_div_mul, Nat.mul_comm, ← Nat.pow_succ, show n + 1 - 1 - i = n - 1 - i + 1 from by omega]
  · simp
theorem numB_fixB (v n : Nat) : numB (fixB v n) = v % 256 ^ n := by
  induction n generalizing v with
  | zero => simp [fixB, numB, Nat.mod_one]
  | succ n ih =>
    rw [fixB_snoc, numB_snoc, ih, Nat.pow_succ, Nat.mul_comm (256 ^ n) 256, Nat.mod_mul]
    simp
    omega
theorem fixB_inj (a b n : Nat) (ha : a < 256 ^ n) (hb : b < 256 ^ n) : (fixB a n = fixB b n) ↔ a = b := by
  constructor
  · intro h
    have := congrArg numB h
    rw [numB_fixB, numB_fixB, Nat.mod_eq_of_lt ha, Nat.mod_eq_of_lt hb] at this
    exact this
  · intro h; rw [h]
theorem fixB_less (n : Nat) : ∀ a b : Nat, a < 256 ^ n → b < 256 ^ n → Op.bytesLess (fixB a n) (fixB b n) = decide (a < b) := by
  induction n with
  | zero =>
    intro a b ha hb
    have h1 : a = 0 := by simpa using ha
    have h2 : b = 0 := by simpa using hb
    subst h1 h2
    rfl
  | succ n ih =>
    intro a b ha hb
    have hP : 0 < 256 ^ n := Nat.pow_pos (by decide)
    have hA : a / 256 ^ n < 256 := by rw [Nat.div_lt_iff_lt_mul hP, Nat.mul_comm, ← Nat.pow_succ]; exact ha
    have hB : b / 256 ^ n < 256 := by rw [Nat.div_lt_iff_lt_mul hP, Nat.mul_comm, ← Nat.pow_succ]; exact hb
    rw [fixB_cons, fixB_cons, Op.bytesLess]
    rw [← fixB_mod a n, ← fixB_mod b n, ih _ _ (Nat.mod_lt _ hP) (Nat.mod_lt _ hP)]
    have ea := Nat.div_add_mod a (256 ^ n)
    have eb := Nat.div_add_mod b (256 ^ n)
    have hra := Nat.mod_lt a hP
    have hrb := Nat.mod_lt b hP
    generalize 256 ^ n = Q at *
    generalize a / Q = A at *
    generalize b / Q = B at *
    generalize a % Q = x at *
    generalize b % Q = y at *
    have h1 : (UInt8.ofNat A < UInt8.ofNat B) ↔ A < B := by rw [UInt8.lt_iff_toNat_lt]; simp; omega
    have h2 : (UInt8.ofNat A = UInt8.ofNat B) ↔ A = B := by
      constructor
      · intro h; have := congrArg UInt8.toNat h; simp at this; omega
      · intro h; rw [h]
    rw [Bool.eq_iff_iff]
    simp only [Bool.or_eq_true, Bool.and_eq_true, decide_eq_true_eq, beq_iff_eq, h1, h2]
    subst ea eb
    constructor
    · rintro (h | ⟨h, k⟩)
      · have : Q * (A + 1) ≤ Q * B := Nat.mul_le_mul_left _ h
        rw [Nat.mul_add] at this
        omega
      · subst h; omega
    · intro h
      rcases Nat.lt_trichotomy A B with k | k | k
      · exact .inl k
      · subst k; exact .inr ⟨rfl, by omega⟩
      · exfalso
        have : Q * (B + 1) ≤ Q * A := Nat.mul_le_mul_left _ k
        rw [Nat.mul_add] at this
        omega
end Go.Proofs.Ytpjepndeppckdaa
