/- The document's set, with a row or without: what each call answers. -/
import Derived.Test.YtloealcaagfehaaDoorRu
import Derived.Test.YtloealcaagfehaaDoorBha
namespace Go.Proofs.YtloealcaagfehaaDoor
open Go.RowKit

/-- where a change may lie: in the set's own two blocks, and in new ones -/
structure U2 (w w' : World) (p q : Nat) : Prop where
  os : w'.os = w.os
  tape : w'.tape = w.tape
  output : w'.output = w.output
  size : w.heap.size ≤ w'.heap.size
  block : ∀ k, k < w.heap.size → k ≠ p → k ≠ q → w'.heap[k]? = w.heap[k]?
theorem U1.two {w w' : World} {q : Nat} (h : U1 w w' q) (p : Nat) : U2 w w' p q := ⟨h.os, h.tape, h.output, h.size, fun k hk _ h2 => h.block k hk h2⟩
theorem U1.two' {w w' : World} {p : Nat} (h : U1 w w' p) (q : Nat) : U2 w w' p q := ⟨h.os, h.tape, h.output, h.size, fun k hk h1 _ => h.block k hk h1⟩
theorem U2.refl (w : World) (p q : Nat) : U2 w w p q := ⟨rfl, rfl, rfl, Nat.le_refl _, fun _ _ _ _ => rfl⟩
theorem U2.below {w w' : World} {p q : Nat} (h : Below w.heap.size w w') : U2 w w' p q := ⟨h.os, h.tape, h.output, h.size, fun k hk _ _ => h.block k hk⟩
theorem U2.drewN {w w' : World} {p q : Nat} (h : U2 w w' p q) (c : Nat) : U2 w (w'.drewN c) p q := ⟨h.os, h.tape, h.output, h.size, h.block⟩
section
variable {p q n S : Nat} {w : World}
theorem Rn.le (h : Rn w p q n S) : n ≤ 65536 := by
  rcases h with h | ⟨rfl, _, _⟩
  · exact h.le
  · decide
theorem Rn.lt (h : Rn w p q n S) : S < 2 ^ n := by
  rcases h with h | ⟨rfl, rfl, _⟩
  · exact h.lt
  · decide
theorem Rn.plt (h : Rn w p q n S) : p < w.heap.size := by
  rcases h with h | ⟨_, _, h⟩
  · exact h.plt
  · exact (Array.getElem?_eq_some_iff.1 h).1
theorem Rn.z {u : World} (hd : u.heap[p]? = some (.cells #[.slice none 0 0] 72 (0, 0))) : u.cell? ⟨p, 0, none⟩ = some (.slice none 0 0) := by simp [World.cell?, hd]
/-- the length that the set's row has -/
theorem Rn.c0 (h : Rn w p q n S) : ∃ ao cap, w.cell? ⟨p, 0, none⟩ = some (.slice ao n cap) := by
  rcases h with h | ⟨rfl, _, hd⟩
  · obtain ⟨cap, hc⟩ := h.c0
    exact ⟨_, cap, hc⟩
  · exact ⟨none, 0, Rn.z hd⟩
theorem Rn.keep {u : World} (h : Rn w p q n S) (hp : u.heap[p]? = w.heap[p]?) (hq : u.heap[q]? = w.heap[q]?) : Rn u p q n S := by
  rcases h with h | ⟨h1, h2, hd⟩
  · exact .inl (h.keep hp hq)
  · exact .inr ⟨h1, h2, hp.trans hd⟩
theorem nLen (h : Rn w p q n S) : Calls Tryd.prog 12 #[.pointer (some ⟨p, 0, none⟩)] w fun e w' => e = .returned (.int .i64 (n : Int)) ∧ w' = w := by
  rcases h with h | ⟨rfl, rfl, hd⟩
  · exact rLen h
  · exact zLen (Rn.z hd)
theorem nEach (h : Rn w p q n S) : Calls Tryd.prog 15 #[.pointer (some ⟨p, 0, none⟩)] w fun e w' => ∃ v, e = .returned v ∧ w'.ownsRow w.heap.size 3 1 v (Bit.els S n 0).length ((Bit.els S n 0).map fun y => Value.int .i64 ((y : Nat) : Int)) ∧ Below w.heap.size w w' := by
  rcases h with h | ⟨rfl, rfl, hd⟩
  · exact rEach h
  · refine (zEach (Rn.z hd)).mono ?_
    rintro e w' ⟨rfl, rfl⟩
    exact ⟨_, rfl, World.ownsRow_nil _ _ _ _, Below.refl _ _⟩
theorem nTold (h : Rn w p q n S) : Calls Tryd.prog 10 #[.pointer (some ⟨p, 0, none⟩)] w fun e w' => e = .returned (.string ⟨(Bit.told S n).toArray⟩) ∧ Below w.heap.size w w' := by
  rcases h with h | ⟨rfl, rfl, hd⟩
  · exact rTold h
  · refine (zTold (Rn.z hd)).mono ?_
    rintro e w' ⟨rfl, rfl⟩
    exact ⟨rfl, Below.refl _ _⟩
theorem nHas (h : Rn w p q n S) (x : Int) : Calls Tryd.prog 62 #[.pointer (some ⟨p, 0, none⟩), .int .i64 x] w fun e w' => e = .returned (.bool (Bit.has S n x)) ∧ w' = w := by
  rcases h with h | ⟨rfl, rfl, hd⟩
  · by_cases h0 : x < 0 ∨ (n : Int) ≤ x
    · have e : Bit.has S n x = false := by
        rw [Bit.has]
        rcases h0 with h0 | h0
        · rw [decide_eq_false (by omega)]; rfl
        · rw [decide_eq_false (p := x < (n : Int)) (by omega), Bool.false_and, Bool.and_false]
      rw [e]
      exact rHasOut h x h0
    · obtain ⟨k, rfl⟩ : ∃ k : Nat, x = (k : Int) := ⟨x.toNat, by omega⟩
      have e : Bit.has S n (k : Int) = S.testBit k := by
        rw [Bit.has, decide_eq_true (p := (0 : Int) ≤ (k : Int)) (by omega), decide_eq_true (p := (k : Int) < (n : Int)) (by omega)]
        rfl
      rw [e]
      exact rHas h k (by omega)
  · have e : Bit.has 0 0 x = false := by rw [Bit.has]; simp
    rw [e]
    exact zHas (Rn.z hd) x
theorem nCount (h : Rn w p q n S) : Calls Tryd.prog 63 #[.pointer (some ⟨p, 0, none⟩)] w fun e w' => e = .returned (.int .i64 (Bit.count S n : Int)) ∧ Below w.heap.size w w' := by
  rcases h with h | ⟨rfl, rfl, hd⟩
  · exact rCount h
  · refine (zCount (Rn.z hd)).mono ?_
    rintro e w' ⟨rfl, rfl⟩
    exact ⟨rfl, Below.refl _ _⟩
theorem nNext (h : Rn w p q n S) (x : Int) (X : Nat) (hX : max x 0 = (X : Int)) : Calls Tryd.prog 64 #[.pointer (some ⟨p, 0, none⟩), .int .i64 x] w fun e w' => (∃ v, e = .returned v ∧ Nexts S n X v) ∧ Below w.heap.size w w' := by
  rcases h with h | ⟨rfl, rfl, hd⟩
  · exact rNext h x X hX
  · refine (zNext x (zEach (Rn.z hd))).mono ?_
    rintro e w' ⟨rfl, rfl⟩
    exact ⟨⟨_, rfl, .inr ⟨Bit.els_beyond (Nat.zero_le _), rfl⟩⟩, Below.refl _ _⟩
theorem nClear (h : Rn w p q n S) : Calls Tryd.prog 50 #[.pointer (some ⟨p, 0, none⟩)] w fun e w' => e = .returned (.tuple #[]) ∧ Rn w' p q n 0 ∧ U2 w w' p q := by
  rcases h with h | ⟨rfl, rfl, hd⟩
  · refine (rClear h).mono ?_
    rintro e w' ⟨rfl, h1, h2⟩
    exact ⟨rfl, .inl h1, h2.two p⟩
  · refine (zClear (Rn.z hd)).mono ?_
    rintro e w' ⟨rfl, rfl⟩
    exact ⟨rfl, .inr ⟨rfl, rfl, hd⟩, U2.refl _ _ _⟩
end
end Go.Proofs.YtloealcaagfehaaDoor
