/- The lowest bit of a word. -/
import Derived.Test.YtinfmomhbegfhaaDoorBp
import Derived.Test.YtinfmomhbegfhaaDoorBm
import Derived.Laws.BitsAllLaws
namespace Go.Proofs.YtinfmomhbegfhaaDoor
open Go.RowKit

namespace Bit
theorem odd_part : ∀ x : Nat, x ≠ 0 → ∃ t m, x = 2 ^ t * (2 * m + 1)
  | 0, h => absurd rfl h
  | x + 1, _ => by
    by_cases hp : (x + 1) % 2 = 1
    · exact ⟨0, (x + 1) / 2, by omega⟩
    · obtain ⟨t, m, h⟩ := odd_part ((x + 1) / 2) (by omega)
      refine ⟨t + 1, m, ?_⟩
      rw [Nat.pow_succ, Nat.mul_comm (2 ^ t) 2, Nat.mul_assoc, ← h]
      omega
theorem odd_bit (t m i : Nat) : (2 ^ t * (2 * m + 1)).testBit i = (decide (t ≤ i) && (decide (i = t) || m.testBit (i - t - 1))) := by
  have h := Nat.testBit_two_pow_mul_add (2 * m + 1) (i := t) (b := 0) (Nat.pow_pos (by decide)) i
  rw [Nat.add_zero] at h
  rw [h]
  by_cases hi : i < t
  · rw [if_pos hi, decide_eq_false (by omega)]
    simp
  · rw [if_neg hi, decide_eq_true (p := t ≤ i) (by omega), Bool.true_and]
    by_cases e : i = t
    · subst e
      rw [Nat.sub_self, Nat.testBit_zero]
      simp
    · rw [decide_eq_false e, Bool.false_or]
      obtain ⟨d, hd⟩ : ∃ d, i - t = d + 1 := ⟨i - t - 1, by omega⟩
      rw [hd, Nat.testBit_succ, show (2 * m + 1) / 2 = m from by omega]
      rfl
/-- t is the lowest bit of x -/
structure Low (x t : Nat) : Prop where
  bit : x.testBit t = true
  below : ∀ i, i < t → x.testBit i = false
theorem low_of {x : Nat} (hx : x ≠ 0) (hl : x < 18446744073709551616) : ∃ t, t < 64 ∧ Low x t ∧ (x &&& (18446744073709551616 - x)) = 2 ^ t := by
  obtain ⟨t, m, rfl⟩ := odd_part x hx
  have hp : 0 < 2 ^ t := Nat.pow_pos (by decide)
  have h64 : (18446744073709551616 : Nat) = 2 ^ 64 := rfl
  have hle : 2 ^ t ≤ 2 ^ t * (2 * m + 1) := Nat.le_mul_of_pos_right _ (by omega)
  have ht : t < 64 := by
    have : 2 ^ t < 2 ^ 64 := by omega
    exact (Nat.pow_lt_pow_iff_right (by decide)).1 this
  refine ⟨t, ht, ⟨by rw [odd_bit]; simp, fun i hi => by rw [odd_bit, decide_eq_false (by omega)]; rfl⟩, ?_⟩
  obtain ⟨y, hy⟩ : ∃ y, 2 ^ t * (2 * m + 1) = y + 1 := ⟨2 ^ t * (2 * m + 1) - 1, by omega⟩
  have hyb : ∀ i, y.testBit i = if i < t then true else (decide (i ≠ t) && m.testBit (i - t - 1)) := fun i => by
    have e : y = 2 ^ t * (2 * m) + (2 ^ t - 1) := by
      have : 2 ^ t * (2 * m + 1) = 2 ^ t * (2 * m) + 2 ^ t := by rw [Nat.mul_add, Nat.mul_one]
      omega
    rw [e, Nat.testBit_two_pow_mul_add _ (by omega)]
    by_cases hi : i < t
    · rw [if_pos hi, if_pos hi, Nat.testBit_two_pow_sub_one, decide_eq_true hi]
    · rw [if_neg hi, if_neg hi]
      by_cases e : i = t
      · subst e
        rw [Nat.sub_self, Nat.testBit_zero]
        simp
      · rw [decide_eq_true e, Bool.true_and]
        obtain ⟨d, hd⟩ : ∃ d, i - t = d + 1 := ⟨i - t - 1, by omega⟩
        rw [hd, Nat.testBit_succ, show 2 * m / 2 = m from by omega]
        rfl
  apply Nat.eq_of_testBit_eq
  intro i
  rw [Nat.testBit_and, odd_bit, hy, h64, Nat.testBit_two_pow_sub_succ (by omega), hyb, Nat.testBit_two_pow]
  by_cases hi : i < t
  · rw [decide_eq_false (p := t ≤ i) (by omega), decide_eq_false (p := t = i) (by omega)]; rfl
  · by_cases e : i = t
    · subst e
      simp [ht]
    · rw [if_neg hi, decide_eq_true (p := i ≠ t) e, decide_eq_false e, decide_eq_false (p := t = i) (fun h => e h.symm), Bool.false_or, Bool.true_and]
      cases m.testBit (i - t - 1) <;> simp
/-- the table of places -/
def places : List Nat := [0, 1, 56, 2, 57, 49, 28, 3, 61, 58, 42, 50, 38, 29, 17, 4, 62, 47, 59, 36, 45, 43, 51, 22, 53, 39, 33, 30, 24, 18, 12, 5, 63, 55, 48, 27, 60, 41, 37, 16, 46, 35, 44, 21, 52, 32, 23, 11, 54, 26, 40, 15, 34, 20, 31, 10, 25, 14, 19, 9, 13, 8, 7, 6]
theorem places_at : ∀ t : Fin 64, 2 ^ t.1 * 285870213051353865 % 18446744073709551616 / 288230376151711744 < 64 ∧ places.getD (2 ^ t.1 * 285870213051353865 % 18446744073709551616 / 288230376151711744) 0 = t.1 := by decide +kernel
end Bit
/-- the table lies where the program has it -/
def Tab (w : World) : Prop := ∀ i, i < 64 → w.cell? ⟨0, i, none⟩ = some (.int .u8 ((Bit.places.getD i 0 : Nat) : Int))
theorem Tab.below {B : Nat} {u u' : World} (h : Tab u) (hb : Below B u u') (hB : 0 < B) : Tab u' := fun i hi => (hb.cell (p := ⟨0, i, none⟩) hB).trans (h i hi)
theorem Tab.drewN {u : World} (h : Tab u) (k : Nat) : Tab (u.drewN k) := h
theorem bTz (x : Nat) (hx : x ≠ 0) (hl : x < 18446744073709551616) (w : World) (hT : Tab w) : Calls Tryd.prog 55 #[.int .u64 (x : Int)] w fun e w' => ∃ t, Bit.Low x t ∧ t < 64 ∧ e = .returned (.int .i64 (t : Int)) ∧ w' = w := by
  obtain ⟨t, ht, hlow, hand⟩ := Bit.low_of hx hl
  obtain ⟨hj, hp⟩ := Bit.places_at ⟨t, ht⟩
  simp only at hj hp
  have hneg : IntKind.u64.wrap (-(x : Int)) = ((18446744073709551616 - x : Nat) : Int) := by rw [IntKind.wrap_u64]; omega
  have hb := u64_and_nat x (18446744073709551616 - x) hl (by omega)
  rw [hand] at hb
  obtain ⟨P, hP⟩ : ∃ P, P = 2 ^ t := ⟨_, rfl⟩
  rw [← hP] at hb hj hp
  obtain ⟨N, hN⟩ : ∃ N, N = 18446744073709551616 - x := ⟨_, rfl⟩
  rw [← hN] at hb hneg
  obtain ⟨M, hM⟩ : ∃ M, M = P * 285870213051353865 % 18446744073709551616 := ⟨_, rfl⟩
  rw [← hM] at hj hp
  have hmul : IntKind.u64.wrap ((P : Int) * 285870213051353865) = (M : Int) := by rw [IntKind.wrap_u64]; omega
  obtain ⟨j, hjj⟩ : ∃ j, j = M / 288230376151711744 := ⟨_, rfl⟩
  rw [← hjj] at hj hp
  have hdiv : (M : Int) / 288230376151711744 = (j : Int) := by omega
  have hc := hT j hj
  rw [hp] at hc
  have hx0 : ¬ (x : Int) = 0 := by omega
  have hji : (j : Int) < 64 := by omega
  have HL := hide hlow
  have HT := hide ht
  clear hand hP hN hM hjj hp hT hx hl hlow
  go_enter Tryd.func55, Tryd.ntmps55
  go_wp2
  go_ret
  exact ⟨t, unhide HL, unhide HT, by congr 2, rfl⟩
end Go.Proofs.YtinfmomhbegfhaaDoor
