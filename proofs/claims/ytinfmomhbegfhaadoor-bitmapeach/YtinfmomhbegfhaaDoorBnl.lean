/- What BitmapNext leans on. Of no program. -/
import Derived.Test.YtinfmomhbegfhaaDoorBea
import Derived.Test.YtinfmomhbegfhaaDoorBs
import Derived.Test.YtinfmomhbegfhaaDoorBpc
import Derived.Test.YtinfmomhbegfhaaDoorBri
namespace Go.Proofs.YtinfmomhbegfhaaDoor
open Go.RowKit

theorem setOf_keep (n : Nat) : ∀ (xs : List Int) (S j : Nat), S.testBit j = true → (xs.foldl (fun S x => if n = 0 then S else S ||| 2 ^ (x % (n : Int)).toNat) S).testBit j = true
  | [], _, _, h => h
  | x :: r, S, j, h => by
    rw [List.foldl_cons]
    refine setOf_keep n r _ j ?_
    by_cases h0 : n = 0
    · rw [if_pos h0]; exact h
    · rw [if_neg h0, Nat.testBit_or, h]; rfl
theorem setOf_mem' (n : Nat) (hn : n ≠ 0) : ∀ (xs : List Int) (S : Nat) (x : Int), x ∈ xs → (xs.foldl (fun S x => if n = 0 then S else S ||| 2 ^ (x % (n : Int)).toNat) S).testBit (x % (n : Int)).toNat = true
  | [], _, _, h => absurd h (by simp)
  | y :: r, S, x, h => by
    rw [List.foldl_cons]
    rcases List.mem_cons.1 h with rfl | h
    · refine setOf_keep n r _ _ ?_
      rw [if_neg hn, Nat.testBit_or, Nat.testBit_two_pow]
      simp
    · exact setOf_mem' n hn r _ x h
theorem setOf_mem {n : Nat} (hn : n ≠ 0) {xs : List Int} {x : Int} (h : x ∈ xs) : (setOf n xs).testBit (x % (n : Int)).toNat = true := setOf_mem' n hn xs 0 x h
namespace Bit
theorem count_els (S : Nat) : ∀ n, count S n = (els S n 0).length
  | 0 => rfl
  | n + 1 => by
    rw [count, count_els S n, els, els, Nat.sub_zero, Nat.sub_zero, List.range'_concat, List.filter_append, List.length_append]
    congr 1
    rw [Nat.one_mul, Nat.zero_add]
    cases h : S.testBit n <;> simp [h]
theorem els_length_le (S n : Nat) : (els S n 0).length ≤ n := by rw [← count_els]; exact count_le S n
theorem els_split (S n X : Nat) (hX : X ≤ n) : els S n 0 = els S X 0 ++ els S n X := by
  rw [els, els, els, ← List.filter_append, Nat.sub_zero, Nat.sub_zero]
  congr 1
  have h := List.range'_append (s := 0) (m := X) (n := n - X) (step := 1)
  rw [Nat.one_mul, Nat.zero_add] at h
  rw [h]
  congr 1
  omega
theorem els_beyond {S n X : Nat} (hX : n ≤ X) : els S n X = [] := els_none fun i h1 h2 => by omega
end Bit
/-- the first that is no less than f; else -1 -/
def leastOf (f : Int) : List Nat → Int
  | [] => -1
  | y :: r => if f ≤ (y : Int) then (y : Int) else leastOf f r
theorem leastOf_skip (f : Int) : ∀ (l m : List Nat), (∀ y ∈ l, ¬ f ≤ (y : Int)) → leastOf f (l ++ m) = leastOf f m
  | [], _, _ => rfl
  | y :: r, m, h => by
    rw [List.cons_append, leastOf, if_neg (h y (by simp)), leastOf_skip f r m (fun z hz => h z (by simp [hz]))]
/-- what Next says is what the row says -/
theorem least_next {S n X : Nat} {f : Int} (hX : max f 0 = (X : Int)) {i : Int} {ok : Bool} (h : Nx S n X i ok) : (ok = true ∧ leastOf f (Bit.els S n 0) = i ∧ 0 ≤ i) ∨ (ok = false ∧ i = 0 ∧ leastOf f (Bit.els S n 0) = -1) := by
  have hpre : leastOf f (Bit.els S n 0) = leastOf f (Bit.els S n X) := by
    by_cases hXn : X ≤ n
    · rw [Bit.els_split S n X hXn]
      exact leastOf_skip f _ _ fun y hy => by
        have := (Bit.els_mem.1 hy).2.1
        omega
    · have h1 : Bit.els S n X = [] := Bit.els_beyond (by omega)
      rw [h1]
      have := leastOf_skip f (Bit.els S n 0) [] (fun y hy => by have := (Bit.els_mem.1 hy).2.1; omega)
      rwa [List.append_nil] at this
  rw [hpre]
  rcases h with ⟨y, h1, h2, h3, rfl, rfl⟩ | ⟨h1, rfl, rfl⟩
  · refine .inl ⟨rfl, ?_, by omega⟩
    rw [h1, leastOf, if_pos (by omega)]
  · refine .inr ⟨rfl, rfl, ?_⟩
    rw [h1]
    rfl
theorem leastOf_drop (f : Int) (l : List Nat) (k : Nat) (hk : k < l.length) : leastOf f (l.drop k) = if f ≤ (l[k] : Int) then (l[k] : Int) else leastOf f (l.drop (k + 1)) := by
  rw [List.drop_eq_getElem_cons hk, leastOf]
theorem Ss.belowB {w u u' : World} {l : List At} {B : Nat} (h : Ss w u l) (hB : w.heap.size ≤ B) (hall : ∀ c ∈ l, c.p < B ∧ c.q < B) (hb : Below B u u') : Ss w u' l :=
  ⟨h.bel.trans (hb.mono hB), fun c hc => ⟨(h.all c hc).1.keep (hb.block c.p (hall c hc).1) (hb.block c.q (hall c hc).2), (h.all c hc).2⟩, h.pw⟩
end Go.Proofs.YtinfmomhbegfhaaDoor
