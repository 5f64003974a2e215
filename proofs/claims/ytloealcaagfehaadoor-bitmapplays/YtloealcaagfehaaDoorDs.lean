/- Three sets of the program beside three of the document. -/
import Derived.Test.YtloealcaagfehaaDoorQw
namespace Go.Proofs.YtloealcaagfehaaDoor
open Go.RowKit

/-- a change that lies in some blocks, and in new ones -/
structure UF (w w' : World) (f : Nat → Prop) : Prop where
  os : w'.os = w.os
  tape : w'.tape = w.tape
  output : w'.output = w.output
  size : w.heap.size ≤ w'.heap.size
  block : ∀ k, k < w.heap.size → ¬ f k → w'.heap[k]? = w.heap[k]?
section
variable {w w' w2 : World} {f : Nat → Prop}
theorem U1.uf {g : Nat} (h : U1 w w' g) (hg : f g) : UF w w' f := ⟨h.os, h.tape, h.output, h.size, fun k hk hn => h.block k hk (fun e => hn (e ▸ hg))⟩
theorem U2.uf {g g' : Nat} (h : U2 w w' g g') (hg : f g) (hg' : f g') : UF w w' f := ⟨h.os, h.tape, h.output, h.size, fun k hk hn => h.block k hk (fun e => hn (e ▸ hg)) (fun e => hn (e ▸ hg'))⟩
theorem UF.below (h : Below w.heap.size w w') (f : Nat → Prop) : UF w w' f := ⟨h.os, h.tape, h.output, h.size, fun k hk _ => h.block k hk⟩
theorem UF.trans (h : UF w w' f) (k : UF w' w2 f) : UF w w2 f :=
  ⟨k.os.trans h.os, k.tape.trans h.tape, k.output.trans h.output, Nat.le_trans h.size k.size, fun q hq hn => (k.block q (Nat.lt_of_lt_of_le hq h.size) hn).trans (h.block q hq hn)⟩
theorem UF.drewN (h : UF w w' f) (c : Nat) : UF w (w'.drewN c) f := ⟨h.os, h.tape, h.output, h.size, h.block⟩
theorem UF.refl (w : World) (f : Nat → Prop) : UF w w f := ⟨rfl, rfl, rfl, Nat.le_refl _, fun _ _ _ => rfl⟩
theorem UF.toBelow {B : Nat} (h : UF w w' f) (hB : B ≤ w.heap.size) (hf : ∀ x, f x → B ≤ x) : Below B w w' := ⟨h.os, h.tape, h.output, h.size, fun k hk => h.block k (by omega) (fun e => by have := hf k e; omega)⟩
end
/-- a set of the program, and the document's -/
structure Sq where
  p : Nat
  q : Nat
  p' : Nat
  q' : Nat
  n : Nat
  S : Nat
  T : Nat
def Sq.has (s : Sq) (x : Nat) : Prop := x = s.p ∨ x = s.q ∨ x = s.p' ∨ x = s.q'
structure Sq.Ok (s : Sq) (w : World) : Prop where
  a : Bm w s.p s.q s.n s.S
  b : Rn w s.p' s.q' s.n s.T
  ql : s.q' < w.heap.size
  ap : s.p ≠ s.p' ∧ s.p ≠ s.q' ∧ s.q ≠ s.p' ∧ s.q ≠ s.q'
section
variable {w w' : World} {s : Sq} {f : Nat → Prop}
theorem Sq.Ok.lt (h : s.Ok w) {x : Nat} (hx : s.has x) : x < w.heap.size := by
  rcases hx with rfl | rfl | rfl | rfl
  · exact h.a.plt
  · exact h.a.qlt
  · exact h.b.plt
  · exact h.ql
theorem Sq.Ok.uf (h : s.Ok w) (hu : UF w w' f) (hf : ∀ x, s.has x → ¬ f x) : s.Ok w' := by
  have e : ∀ x, s.has x → w'.heap[x]? = w.heap[x]? := fun x hx => hu.block x (h.lt hx) (hf x hx)
  exact ⟨h.a.keep (e _ (.inl rfl)) (e _ (.inr (.inl rfl))), h.b.keep (e _ (.inr (.inr (.inl rfl)))) (e _ (.inr (.inr (.inr rfl)))), Nat.lt_of_lt_of_le h.ql hu.size, h.ap⟩
theorem Sq.Ok.below (h : s.Ok w) (hb : Below w.heap.size w w') : s.Ok w' := h.uf (UF.below hb fun _ => False) fun _ _ h => h
end
def ownV : Option Sq → Value
  | none => .pointer none
  | some s => .pointer (some ⟨s.p, 0, none⟩)
def refV : Option Sq → Value
  | none => .pointer none
  | some s => .pointer (some ⟨s.p', 0, none⟩)
def six (σ : Nat → Option Sq) : Array Value := #[ownV (σ 0), ownV (σ 1), ownV (σ 2), refV (σ 0), refV (σ 1), refV (σ 2)]
def updS {α : Type} (f : Nat → α) (a : Nat) (x : α) (i : Nat) : α := if i = a then x else f i
theorem updS_same {α : Type} (f : Nat → α) (a : Nat) (x : α) : updS f a x a = x := by simp [updS]
theorem updS_other {α : Type} (f : Nat → α) (a : Nat) (x : α) (i : Nat) (h : i ≠ a) : updS f a x i = f i := by simp [updS, h]
theorem six_own (σ : Nat → Option Sq) (a : Nat) (ha : a < 3) : (six σ)[a]? = some (ownV (σ a)) := by
  match a, ha with
  | 0, _ => rfl
  | 1, _ => rfl
  | 2, _ => rfl
theorem six_ref (σ : Nat → Option Sq) (a : Nat) (ha : a < 3) : (six σ)[3 + a]? = some (refV (σ a)) := by
  match a, ha with
  | 0, _ => rfl
  | 1, _ => rfl
  | 2, _ => rfl
theorem six_set (σ : Nat → Option Sq) (a : Nat) (ha : a < 3) (t : Option Sq) : ((six σ).setIfInBounds a (ownV t)).setIfInBounds (3 + a) (refV t) = six (updS σ a t) := by
  match a, ha with
  | 0, _ => rfl
  | 1, _ => rfl
  | 2, _ => rfl
/-- the desk at D -/
structure Dk (w : World) (B D : Nat) (σ : Nat → Option Sq) : Prop where
  d : w.heap[D]? = some (.cells (six σ) 29 (0, 0))
  ge : B ≤ D
  ok : ∀ i, i < 3 → ∀ s, σ i = some s → s.Ok w ∧ ¬ s.has D ∧ ∀ x, s.has x → B ≤ x
  ap : ∀ i j, i < 3 → j < 3 → i ≠ j → ∀ s t, σ i = some s → σ j = some t → ∀ x, s.has x → ¬ t.has x
section
variable {w w' : World} {B D : Nat} {σ : Nat → Option Sq}
theorem Dk.dlt (h : Dk w B D σ) : D < w.heap.size := (Array.getElem?_eq_some_iff.1 h.d).1
theorem Dk.own (h : Dk w B D σ) (k : Nat) (hk : k < 3) : w.cell? ⟨D, k, none⟩ = some (ownV (σ k)) := by simp [World.cell?, h.d, six_own σ k hk]
theorem Dk.ref (h : Dk w B D σ) (k : Nat) (hk : k < 3) : w.cell? ⟨D, 3 + k, none⟩ = some (refV (σ k)) := by simp [World.cell?, h.d, six_ref σ k hk]
theorem Dk.fz (h : Dk w B D σ) (k : Nat) : w.frozen? ⟨D, k, none⟩ = false := by simp [World.frozen?, h.d]
/-- what changes no block -/
theorem Dk.keep (h : Dk w B D σ) (hb : Below w.heap.size w w') : Dk w' B D σ :=
  ⟨(hb.block D h.dlt).trans h.d, h.ge, fun i hi s hs => ⟨(h.ok i hi s hs).1.below hb, (h.ok i hi s hs).2⟩, h.ap⟩
theorem Dk.drewN (h : Dk w B D σ) (c : Nat) : Dk (w.drewN c) B D σ := h.keep ⟨rfl, rfl, rfl, Nat.le_refl _, fun _ _ => rfl⟩
theorem Dk.drew (h : Dk w B D σ) : Dk w.drew B D σ := h.keep ⟨rfl, rfl, rfl, Nat.le_refl _, fun _ _ => rfl⟩
theorem six_ptr (σ : Nat → Option Sq) (k : Nat) (s t : Sq) (hs : σ k = some s) (hp : t.p = s.p) (hp' : t.p' = s.p') : six (updS σ k (some t)) = six σ := by
  have e : ∀ i, ownV (updS σ k (some t) i) = ownV (σ i) ∧ refV (updS σ k (some t) i) = refV (σ i) := by
    intro i
    by_cases hi : i = k
    · subst hi
      rw [updS_same, hs]
      simp only [ownV, refV, hp, hp', and_self]
    · rw [updS_other _ _ _ _ hi]; exact ⟨rfl, rfl⟩
  simp only [six, (e 0).1, (e 1).1, (e 2).1, (e 0).2, (e 1).2, (e 2).2]
/-- one seat's sets are changed -/
theorem Dk.turn (h : Dk w B D σ) {k : Nat} (hk : k < 3) {s t : Sq} (hs : σ k = some s) (hu : UF w w' s.has) (hp : t.p = s.p) (hp' : t.p' = s.p') (hok : t.Ok w') (hf : ∀ x, t.has x → s.has x ∨ w.heap.size ≤ x) : Dk w' B D (updS σ k (some t)) := by
  obtain ⟨h1, h2, h3⟩ := h.ok k hk s hs
  have hBw : B ≤ w.heap.size := Nat.le_trans h.ge (Nat.le_of_lt h.dlt)
  refine ⟨by rw [six_ptr σ k s t hs hp hp']; exact (hu.block D h.dlt h2).trans h.d, h.ge, fun i hi r hr => ?_, fun i j hi hj hij r r' hr hr' x hx => ?_⟩
  · by_cases e : i = k
    · subst e
      rw [updS_same] at hr
      injection hr with hr
      subst hr
      refine ⟨hok, fun hx => ?_, fun x hx => ?_⟩
      · rcases hf D hx with h4 | h4
        · exact h2 h4
        · have := h.dlt; omega
      · rcases hf x hx with h4 | h4
        · exact h3 x h4
        · omega
    · rw [updS_other _ _ _ _ e] at hr
      exact ⟨(h.ok i hi r hr).1.uf hu (fun x hx => h.ap i k hi hk e r s hr hs x hx), (h.ok i hi r hr).2⟩
  · by_cases e : i = k
    · subst e
      rw [updS_same] at hr
      injection hr with hr
      subst hr
      rw [updS_other _ _ _ _ (Ne.symm hij)] at hr'
      rcases hf x hx with h4 | h4
      · exact h.ap i j hi hj hij s r' hs hr' x h4
      · exact fun h5 => by have := (h.ok j hj r' hr').1.lt h5; omega
    · rw [updS_other _ _ _ _ e] at hr
      by_cases e2 : j = k
      · subst e2
        rw [updS_same] at hr'
        injection hr' with hr'
        subst hr'
        intro h5
        rcases hf x h5 with h4 | h4
        · exact h.ap i j hi hj hij r s hr hs x hx h4
        · have := (h.ok i hi r hr).1.lt hx; omega
      · rw [updS_other _ _ _ _ e2] at hr'
        exact h.ap i j hi hj hij r r' hr hr' x hx
/-- other sets are laid in a seat -/
theorem Dk.make (h0 : Dk w B D σ) {w1 : World} (hb : Below w.heap.size w w1) {k : Nat} (hk : k < 3) (τ : Option Sq) (hτ : ∀ t, τ = some t → t.Ok w1 ∧ ∀ x, t.has x → w.heap.size ≤ x) :
    Dk ((w1.setCell ⟨D, k, none⟩ (ownV τ)).setCell ⟨D, 3 + k, none⟩ (refV τ)) B D (updS σ k τ) := by
  have h := h0.keep hb
  have hne : ∀ x, x ≠ D → ((w1.setCell ⟨D, k, none⟩ (ownV τ)).setCell ⟨D, 3 + k, none⟩ (refV τ)).heap[x]? = w1.heap[x]? := fun x hx =>
    (Deep.blk_setCell_other _ ⟨D, 3 + k, none⟩ _ x hx).trans (Deep.blk_setCell_other _ ⟨D, k, none⟩ _ x hx)
  have hsz : ((w1.setCell ⟨D, k, none⟩ (ownV τ)).setCell ⟨D, 3 + k, none⟩ (refV τ)).heap.size = w1.heap.size := by simp [World.setCell]
  have hu : UF w1 ((w1.setCell ⟨D, k, none⟩ (ownV τ)).setCell ⟨D, 3 + k, none⟩ (refV τ)) (fun x => x = D) := ⟨rfl, rfl, rfl, by rw [hsz]; exact Nat.le_refl _, fun x _ hx => hne x hx⟩
  have hdl := h0.dlt
  have hBw : B ≤ w.heap.size := Nat.le_trans h0.ge (Nat.le_of_lt hdl)
  refine ⟨by rw [← six_set σ k hk τ]; exact heapCell_same (heapCell_same h.d _ _) _ _, h.ge, fun i hi r hr => ?_, fun i j hi hj hij r r' hr hr' x hx => ?_⟩
  · by_cases e : i = k
    · subst e
      rw [updS_same] at hr
      obtain ⟨h4, h5⟩ := hτ r hr
      have h6 : ¬ r.has D := fun h7 => by have := h5 D h7; omega
      exact ⟨h4.uf hu (fun x hx h7 => h6 (h7 ▸ hx)), h6, fun x hx => Nat.le_trans hBw (h5 x hx)⟩
    · rw [updS_other _ _ _ _ e] at hr
      obtain ⟨h4, h5, h6⟩ := h.ok i hi r hr
      exact ⟨h4.uf hu (fun x hx h7 => h5 (h7 ▸ hx)), h5, h6⟩
  · by_cases e : i = k
    · subst e
      rw [updS_same] at hr
      rw [updS_other _ _ _ _ (Ne.symm hij)] at hr'
      obtain ⟨h4, h5⟩ := hτ r hr
      exact fun h7 => by have := (h0.ok j hj r' hr').1.lt h7; have := h5 x hx; omega
    · rw [updS_other _ _ _ _ e] at hr
      by_cases e2 : j = k
      · subst e2
        rw [updS_same] at hr'
        obtain ⟨h4, h5⟩ := hτ r' hr'
        exact fun h7 => by have := (h0.ok i hi r hr).1.lt hx; have := h5 x h7; omega
      · rw [updS_other _ _ _ _ e2] at hr'
        exact h.ap i j hi hj hij r r' hr hr' x hx
end
end Go.Proofs.YtloealcaagfehaaDoor
