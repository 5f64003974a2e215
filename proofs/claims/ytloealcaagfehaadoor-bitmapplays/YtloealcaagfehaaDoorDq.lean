/- What both sides tell of a seat. -/
import Derived.Test.YtloealcaagfehaaDoorDt
import Derived.Test.YtloealcaagfehaaDoorRe
import Derived.Test.YtloealcaagfehaaDoorBha
namespace Go.Proofs.YtloealcaagfehaaDoor
open Go.RowKit

/-- one of three -/
def sm (i : Int) : Nat := (i % 3).toNat
theorem sm_lt (i : Int) : sm i < 3 := by rw [sm]; omega
theorem sm_eq (i : Int) : ((sm i : Nat) : Int) = if Int.tmod i 3 < 0 then Int.tmod i 3 + 3 else Int.tmod i 3 := by
  rw [sm]
  have h := Int.tmod_eq_emod (a := i) (b := 3)
  split at h <;> (split <;> omega)
theorem lSeat (i : Int) (w : World) : Calls Tryd.prog 41 #[.int .i64 i] w fun e w' => e = .returned (.int .i64 ((sm i : Nat) : Int)) ∧ w' = w := by
  have e := sm_eq i
  have hl := sm_lt i
  have HE := hide e
  by_cases h : Int.tmod i 3 < 0
  · rw [if_pos h] at e
    have hb : -3 ≤ Int.tmod i 3 := by omega
    clear e hl
    go_enter Tryd.func41, Tryd.ntmps41
    go_wp2
    go_ret
    rw [unhide HE, if_pos (by omega)]
    exact ⟨rfl, rfl⟩
  · rw [if_neg h] at e
    have hb : Int.tmod i 3 < 3 := by omega
    clear e hl
    go_enter Tryd.func41, Tryd.ntmps41
    go_wp2
    go_ret
    rw [unhide HE, if_neg (by omega)]
    exact ⟨rfl, rfl⟩
/-- both sides have the same -/
def Like (σ : Nat → Option Sq) : Prop := ∀ i s, σ i = some s → s.T = s.S
def hasR (x : Int) : Option Sq → Bool
  | none => false
  | some s => Bit.has s.S s.n x
def countR : Option Sq → Int
  | none => 0
  | some s => (Bit.count s.S s.n : Int)
def lenR : Option Sq → Int
  | none => 0
  | some s => (s.n : Int)
def toldR : Option Sq → ByteArray
  | none => ⟨#[]⟩
  | some s => ⟨(Bit.told s.S s.n).toArray⟩
def elsR : Option Sq → List Int
  | none => []
  | some s => (Bit.els s.S s.n 0).map fun y => ((y : Nat) : Int)
def sameR : Option Sq → Option Sq → Bool
  | some s, some t => decide (s.n = t.n) && decide (s.S = t.S)
  | _, _ => false
/-- what Next tells -/
def nextR (X : Nat) : Option Sq → Int × Bool
  | none => (0, false)
  | some s => match Bit.els s.S s.n X with
    | y :: _ => ((y : Nat), true)
    | [] => (0, false)
theorem elsR_len (o : Option Sq) (h : ∀ s, o = some s → s.n ≤ 65536) : (elsR o).length ≤ 65536 := by
  cases o with
  | none => exact Nat.zero_le _
  | some s => rw [elsR, List.length_map]; exact Nat.le_trans (Bit.els_length_le _ _) (h s rfl)
section
variable {w : World} {B D k j : Nat} {σ : Nat → Option Sq}
theorem Dk.rn (h : Dk w B D σ) (he : Like σ) (hk : k < 3) {s : Sq} (hs : σ k = some s) : Rn w s.p' s.q' s.n s.S := by
  have := (h.ok k hk s hs).1.b
  rwa [he k s hs] at this
theorem qHas (h : Dk w B D σ) (hk : k < 3) (x : Int) : Calls Tryd.prog 20 #[ownV (σ k), .int .i64 x] w fun e w' => e = .returned (.bool (hasR x (σ k))) ∧ w' = w := by
  cases hs : σ k with
  | none => exact bHasNil x w
  | some s => exact bHasAny (h.ok k hk s hs).1.a x
theorem rqHas (h : Dk w B D σ) (he : Like σ) (hk : k < 3) (x : Int) : Calls Tryd.prog 62 #[refV (σ k), .int .i64 x] w fun e w' => e = .returned (.bool (hasR x (σ k))) ∧ w' = w := by
  cases hs : σ k with
  | none => exact rHasNil x w
  | some s => exact nHas (h.rn he hk hs) x
theorem qCount (h : Dk w B D σ) (hk : k < 3) : Calls Tryd.prog 21 #[ownV (σ k)] w fun e w' => e = .returned (.int .i64 (countR (σ k))) ∧ w' = w := by
  cases hs : σ k with
  | none => exact bCountNil w
  | some s => exact bCount (h.ok k hk s hs).1.a
theorem rqCount (h : Dk w B D σ) (he : Like σ) (hk : k < 3) : Calls Tryd.prog 63 #[refV (σ k)] w fun e w' => e = .returned (.int .i64 (countR (σ k))) ∧ Below w.heap.size w w' := by
  cases hs : σ k with
  | none =>
    refine (rCountNil w).mono ?_
    rintro e w' ⟨rfl, rfl⟩
    exact ⟨rfl, Below.refl _ _⟩
  | some s => exact nCount (h.rn he hk hs)
theorem qLen (h : Dk w B D σ) (hk : k < 3) : Calls Tryd.prog 11 #[ownV (σ k)] w fun e w' => e = .returned (.int .i64 (lenR (σ k))) ∧ w' = w := by
  cases hs : σ k with
  | none => exact bLenNil w
  | some s => exact bLen (h.ok k hk s hs).1.a
theorem rqLen (h : Dk w B D σ) (he : Like σ) (hk : k < 3) : Calls Tryd.prog 12 #[refV (σ k)] w fun e w' => e = .returned (.int .i64 (lenR (σ k))) ∧ w' = w := by
  cases hs : σ k with
  | none => exact rLenNil w
  | some s => exact nLen (h.rn he hk hs)
theorem qTold (h : Dk w B D σ) (hk : k < 3) : Calls Tryd.prog 9 #[ownV (σ k)] w fun e w' => e = .returned (.string (toldR (σ k))) ∧ Below w.heap.size w w' := by
  cases hs : σ k with
  | none =>
    refine (bToldNil w).mono ?_
    rintro e w' ⟨rfl, rfl⟩
    exact ⟨rfl, Below.refl _ _⟩
  | some s => exact bTold (h.ok k hk s hs).1.a
theorem rqTold (h : Dk w B D σ) (he : Like σ) (hk : k < 3) : Calls Tryd.prog 10 #[refV (σ k)] w fun e w' => e = .returned (.string (toldR (σ k))) ∧ Below w.heap.size w w' := by
  cases hs : σ k with
  | none =>
    refine (rToldNil w).mono ?_
    rintro e w' ⟨rfl, rfl⟩
    exact ⟨rfl, Below.refl _ _⟩
  | some s => exact nTold (h.rn he hk hs)
theorem qGone (h : Dk w B D σ) (hT : Tab w) (hk : k < 3) : Calls Tryd.prog 14 #[ownV (σ k)] w fun e w' => (∃ ao cap, e = .returned (.slice ao (elsR (σ k)).length cap) ∧ LiesI w' ao (elsR (σ k))) ∧ Below w.heap.size w w' := by
  cases hs : σ k with
  | none =>
    refine (lGoneNil w).mono ?_
    rintro e w' ⟨rfl, hb⟩
    exact ⟨⟨none, 0, rfl, fun h => absurd h (by simp [elsR])⟩, hb⟩
  | some s =>
    refine (lGone (h.ok k hk s hs).1.a hT).mono ?_
    rintro e w' ⟨v, rfl, h1, h2⟩
    obtain ⟨ao, cap, rfl, h3⟩ := lies_of_own h1
    exact ⟨⟨ao, cap, rfl, h3⟩, h2⟩
theorem rqEach (h : Dk w B D σ) (he : Like σ) (hk : k < 3) : Calls Tryd.prog 15 #[refV (σ k)] w fun e w' => (∃ ao cap, e = .returned (.slice ao (elsR (σ k)).length cap) ∧ LiesI w' ao (elsR (σ k))) ∧ Below w.heap.size w w' := by
  cases hs : σ k with
  | none =>
    refine (rEachNil w).mono ?_
    rintro e w' ⟨rfl, rfl⟩
    exact ⟨⟨none, 0, rfl, fun h => absurd h (by simp [elsR])⟩, Below.refl _ _⟩
  | some s =>
    refine (nEach (h.rn he hk hs)).mono ?_
    rintro e w' ⟨v, rfl, h1, h2⟩
    obtain ⟨ao, cap, rfl, h3⟩ := lies_of_own h1
    exact ⟨⟨ao, cap, rfl, h3⟩, h2⟩
theorem qSame (h : Dk w B D σ) (hk : k < 3) (hj : j < 3) : Calls Tryd.prog 37 #[ownV (σ k), ownV (σ j)] w fun e w' => e = .returned (.bool (sameR (σ k) (σ j))) ∧ ∃ c, w' = w.drewN c := by
  cases hs : σ k with
  | none =>
    cases ht : σ j with
    | none => exact bSameNone none w
    | some t => exact bSameNone _ w
  | some s =>
    cases ht : σ j with
    | none => exact bSameNil s.p w
    | some t => exact aSame (h.ok k hk s hs).1.a (h.ok j hj t ht).1.a
theorem rqSame (h : Dk w B D σ) (he : Like σ) (hk : k < 3) (hj : j < 3) : Calls Tryd.prog 65 #[refV (σ k), refV (σ j)] w fun e w' => e = .returned (.bool (sameR (σ k) (σ j))) ∧ ∃ c, w' = w.drewN c := by
  cases hs : σ k with
  | none =>
    cases ht : σ j with
    | none => exact rSameNilL none w
    | some t => exact rSameNilL _ w
  | some s =>
    cases ht : σ j with
    | none => exact rSameNilR s.p' w
    | some t => exact nSame (h.rn he hk hs) (h.rn he hj ht)
theorem nextR_of {s : Sq} {X : Nat} {v : Value} (h : Nexts s.S s.n X v) : v = .tuple #[.int .i64 (nextR X (some s)).1, .bool (nextR X (some s)).2] := by
  rcases h with ⟨y, h1, _, _, rfl⟩ | ⟨h1, rfl⟩
  · simp only [nextR, h1]
  · simp only [nextR, h1]
theorem qNext (h : Dk w B D σ) (hT : Tab w) (hk : k < 3) (x : Int) (X : Nat) (hX : max x 0 = (X : Int)) (hX2 : X ≤ 9223372036854775807) : Calls Tryd.prog 29 #[ownV (σ k), .int .i64 x] w fun e w' => e = .returned (.tuple #[.int .i64 (nextR X (σ k)).1, .bool (nextR X (σ k)).2]) ∧ ∃ c, w' = w.drewN c := by
  cases hs : σ k with
  | none =>
    refine (bNextNil x w).mono ?_
    rintro e w' ⟨rfl, rfl⟩
    exact ⟨rfl, 0, rfl⟩
  | some s =>
    refine (bNext (h.ok k hk s hs).1.a hT x X hX hX2).mono ?_
    rintro e w' ⟨⟨v, rfl, h1⟩, h2⟩
    rw [nextR_of h1]
    exact ⟨rfl, h2⟩
theorem rqNext (h : Dk w B D σ) (he : Like σ) (hk : k < 3) (x : Int) (X : Nat) (hX : max x 0 = (X : Int)) : Calls Tryd.prog 64 #[refV (σ k), .int .i64 x] w fun e w' => e = .returned (.tuple #[.int .i64 (nextR X (σ k)).1, .bool (nextR X (σ k)).2]) ∧ Below w.heap.size w w' := by
  cases hs : σ k with
  | none =>
    refine (rNextNil x w).mono ?_
    rintro e w' ⟨rfl, rfl⟩
    exact ⟨rfl, Below.refl _ _⟩
  | some s =>
    refine (nNext (h.rn he hk hs) x X hX).mono ?_
    rintro e w' ⟨⟨v, rfl, h1⟩, h2⟩
    rw [nextR_of h1]
    exact ⟨rfl, h2⟩
end
end Go.Proofs.YtloealcaagfehaaDoor
