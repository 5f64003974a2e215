/- Has of any whole number (for the door seat; the plain seat has it in Bl). -/
import Derived.Test.YtloealcaagfehaaDoorBs
import Derived.Test.YtloealcaagfehaaDoorBk
namespace Go.Proofs.YtloealcaagfehaaDoor
open Go.RowKit

namespace Bit
/-- whether any whole number is in -/
def has (S n : Nat) (x : Int) : Bool := decide (0 ≤ x) && (decide (x < (n : Int)) && S.testBit x.toNat)
theorem has_or (S T n : Nat) (x : Int) : has (S ||| T) n x = (has S n x || has T n x) := by
  simp only [has, Nat.testBit_or]
  cases decide (0 ≤ x) <;> cases decide (x < (n : Int)) <;> cases S.testBit x.toNat <;> cases T.testBit x.toNat <;> rfl
theorem has_and (S T n : Nat) (x : Int) : has (S &&& T) n x = (has S n x && has T n x) := by
  simp only [has, Nat.testBit_and]
  cases decide (0 ≤ x) <;> cases decide (x < (n : Int)) <;> cases S.testBit x.toNat <;> cases T.testBit x.toNat <;> rfl
theorem has_minus (S T n : Nat) (x : Int) : has (minus S T) n x = (has S n x && !has T n x) := by
  simp only [has, minus_bit]
  cases decide (0 ≤ x) <;> cases decide (x < (n : Int)) <;> cases S.testBit x.toNat <;> cases T.testBit x.toNat <;> rfl
end Bit
theorem bHasAny {p q n S : Nat} {w : World} (h : Bm w p q n S) (x : Int) : Calls Tryd.prog 20 #[.pointer (some ⟨p, 0, none⟩), .int .i64 x] w fun e w' => e = .returned (.bool (Bit.has S n x)) ∧ w' = w := by
  by_cases h0 : x < 0 ∨ (n : Int) ≤ x
  · have e : Bit.has S n x = false := by
      rw [Bit.has]
      rcases h0 with h0 | h0
      · rw [decide_eq_false (by omega)]; rfl
      · rw [decide_eq_false (p := x < (n : Int)) (by omega), Bool.false_and, Bool.and_false]
    rw [e]
    exact bHasOut h x h0
  · obtain ⟨k, rfl⟩ : ∃ k : Nat, x = (k : Int) := ⟨x.toNat, by omega⟩
    have e : Bit.has S n (k : Int) = S.testBit k := by
      rw [Bit.has, decide_eq_true (p := (0 : Int) ≤ (k : Int)) (by omega), decide_eq_true (p := (k : Int) < (n : Int)) (by omega)]
      rfl
    rw [e]
    exact bHas h k (by omega)
end Go.Proofs.YtloealcaagfehaaDoor
