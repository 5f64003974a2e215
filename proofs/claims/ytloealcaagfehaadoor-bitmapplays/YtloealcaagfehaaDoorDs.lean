/- Three sets of the program beside three of the document. -/
import Derived.Test.YtloealcaagfehaaDoorQw
import Derived.Test.YtloealcaagfehaaDoorBc
import Derived.Test.YtloealcaagfehaaDoorRe
import Derived.Test.YtloealcaagfehaaDoorBha
namespace Go.Proofs.YtloealcaagfehaaDoor
section
open Go.RowKit

/-- a change that lies in some blocks, and in new ones -/
structure UF (w w' : World) (f : Nat → Prop) : Prop where
  os : w'.os = w.os
  tape : w'.tape = w.tape
  output : w'.output = w.output
  size : w.heap.size ≤ w'.heap.size
  block : ∀ k, k < w.heap.size → ¬ f k → w'.heap[k]? = w.heap[k]?
section
variable {w w' w2 : World} {f : Nat → Prop}
theorem U1.uf {g : Nat} (h : U1 w w' g) (hg : f g) : UF w w' f := ⟨h.os, h.tape, h.output, h.size, fun k hk hn => h.block k hk (fun e => hn (e ▸ hg))⟩
theorem U2.uf {g g' : Nat} (h : U2 w w' g g') (hg : f g) (hg' : f g') : UF w w' f := ⟨h.os, h.tape, h.output, h.size, fun k hk hn => h.block k hk (fun e => hn (e ▸ hg)) (fun e => hn (e ▸ hg'))⟩
theorem UF.below (h : Below w.heap.size w w') (f : Nat → Prop) : UF w w' f := ⟨h.os, h.tape, h.output, h.size, fun k hk _ => h.block k hk⟩
theorem UF.trans (h : UF w w' f) (k : UF w' w2 f) : UF w w2 f :=
  ⟨k.os.trans h.os, k.tape.trans h.tape, k.output.trans h.output, Nat.le_trans h.size k.size, fun q hq hn => (k.block q (Nat.lt_of_lt_of_le hq h.size) hn).trans (h.block q hq hn)⟩
theorem UF.drewN (h : UF w w' f) (c : Nat) : UF w (w'.drewN c) f := ⟨h.os, h.tape, h.output, h.size, h.block⟩
theorem UF.refl (w : World) (f : Nat → Prop) : UF w w f := ⟨rfl, rfl, rfl, Nat.le_refl _, fun _ _ _ => rfl⟩
theorem UF.toBelow {B : Nat} (h : UF w w' f) (hB : B ≤ w.heap.size) (hf : ∀ x, f x → B ≤ x) : Below B w w' := ⟨h.os, h.tape, h.output, h.size, fun k hk => h.block k (by omega) (fun e => by have := hf k e; omega)⟩
end
/-- a set of the program, and the document's -/
structure Sq where
  p : Nat
  q : Nat
  p' : Nat
  q' : Nat
  n : Nat
  S : Nat
  T : Nat
def Sq.has (s : Sq) (x : Nat) : Prop := x = s.p ∨ x = s.q ∨ x = s.p' ∨ x = s.q'
structure Sq.Ok (s : Sq) (w : World) : Prop where
  a : Bm w s.p s.q s.n s.S
  b : Rn w s.p' s.q' s.n s.T
  ql : s.q' < w.heap.size
  ap : s.p ≠ s.p' ∧ s.p ≠ s.q' ∧ s.q ≠ s.p' ∧ s.q ≠ s.q'
section
variable {w w' : World} {s : Sq} {f : Nat → Prop}
theorem Sq.Ok.lt (h : s.Ok w) {x : Nat} (hx : s.has x) : x < w.heap.size := by
  rcases hx with rfl | rfl | rfl | rfl
  · exact h.a.plt
  · exact h.a.qlt
  · exact h.b.plt
  · exact h.ql
theorem Sq.Ok.uf (h : s.Ok w) (hu : UF w w' f) (hf : ∀ x, s.has x → ¬ f x) : s.Ok w' := by
  have e : ∀ x, s.has x → w'.heap[x]? = w.heap[x]? := fun x hx => hu.block x (h.lt hx) (hf x hx)
  exact ⟨h.a.keep (e _ (.inl rfl)) (e _ (.inr (.inl rfl))), h.b.keep (e _ (.inr (.inr (.inl rfl)))) (e _ (.inr (.inr (.inr rfl)))), Nat.lt_of_lt_of_le h.ql hu.size, h.ap⟩
theorem Sq.Ok.below (h : s.Ok w) (hb : Below w.heap.size w w') : s.Ok w' := h.uf (UF.below hb fun _ => False) fun _ _ h => h
end
def ownV : Option Sq → Value
  | none => .pointer none
  | some s => .pointer (some ⟨s.p, 0, none⟩)
def refV : Option Sq → Value
  | none => .pointer none
  | some s => .pointer (some ⟨s.p', 0, none⟩)
def six (σ : Nat → Option Sq) : Array Value := #[ownV (σ 0), ownV (σ 1), ownV (σ 2), refV (σ 0), refV (σ 1), refV (σ 2)]
def updS {α : Type} (f : Nat → α) (a : Nat) (x : α) (i : Nat) : α := if i = a then x else f i
theorem updS_same {α : Type} (f : Nat → α) (a : Nat) (x : α) : updS f a x a = x := by simp [updS]
theorem updS_other {α : Type} (f : Nat → α) (a : Nat) (x : α) (i : Nat) (h : i ≠ a) : updS f a x i = f i := by simp [updS, h]
theorem six_own (σ : Nat → Option Sq) (a : Nat) (ha : a < 3) : (six σ)[a]? = some (ownV (σ a)) := by
  match a, ha with
  | 0, _ => rfl
  | 1, _ => rfl
  | 2, _ => rfl
theorem six_ref (σ : Nat → Option Sq) (a : Nat) (ha : a < 3) : (six σ)[3 + a]? = some (refV (σ a)) := by
  match a, ha with
  | 0, _ => rfl
  | 1, _ => rfl
  | 2, _ => rfl
theorem six_set (σ : Nat → Option Sq) (a : Nat) (ha : a < 3) (t : Option Sq) : ((six σ).setIfInBounds a (ownV t)).setIfInBounds (3 + a) (refV t) = six (updS σ a t) := by
  match a, ha with
  | 0, _ => rfl
  | 1, _ => rfl
  | 2, _ => rfl
/-- the desk at D -/
structure Dk (w : World) (B D : Nat) (σ : Nat → Option Sq) : Prop where
  d : w.heap[D]? = some (.cells (six σ) 29 (0, 0))
  ge : B ≤ D
  ok : ∀ i, i < 3 → ∀ s, σ i = some s → s.Ok w ∧ ¬ s.has D ∧ ∀ x, s.has x → B ≤ x
  ap : ∀ i j, i < 3 → j < 3 → i ≠ j → ∀ s t, σ i = some s → σ j = some t → ∀ x, s.has x → ¬ t.has x
section
variable {w w' : World} {B D : Nat} {σ : Nat → Option Sq}
theorem Dk.dlt (h : Dk w B D σ) : D < w.heap.size := (Array.getElem?_eq_some_iff.1 h.d).1
theorem Dk.own (h : Dk w B D σ) (k : Nat) (hk : k < 3) : w.cell? ⟨D, k, none⟩ = some (ownV (σ k)) := by simp [World.cell?, h.d, six_own σ k hk]
theorem Dk.ref (h : Dk w B D σ) (k : Nat) (hk : k < 3) : w.cell? ⟨D, 3 + k, none⟩ = some (refV (σ k)) := by simp [World.cell?, h.d, six_ref σ k hk]
theorem Dk.fz (h : Dk w B D σ) (k : Nat) : w.frozen? ⟨D, k, none⟩ = false := by simp [World.frozen?, h.d]
/-- what changes no block -/
theorem Dk.keep (h : Dk w B D σ) (hb : Below w.heap.size w w') : Dk w' B D σ :=
  ⟨(hb.block D h.dlt).trans h.d, h.ge, fun i hi s hs => ⟨(h.ok i hi s hs).1.below hb, (h.ok i hi s hs).2⟩, h.ap⟩
theorem Dk.drewN (h : Dk w B D σ) (c : Nat) : Dk (w.drewN c) B D σ := h.keep ⟨rfl, rfl, rfl, Nat.le_refl _, fun _ _ => rfl⟩
theorem Dk.drew (h : Dk w B D σ) : Dk w.drew B D σ := h.keep ⟨rfl, rfl, rfl, Nat.le_refl _, fun _ _ => rfl⟩
theorem six_ptr (σ : Nat → Option Sq) (k : Nat) (s t : Sq) (hs : σ k = some s) (hp : t.p = s.p) (hp' : t.p' = s.p') : six (updS σ k (some t)) = six σ := by
  have e : ∀ i, ownV (updS σ k (some t) i) = ownV (σ i) ∧ refV (updS σ k (some t) i) = refV (σ i) := by
    intro i
    by_cases hi : i = k
    · subst hi
      rw [updS_same, hs]
      simp only [ownV, refV, hp, hp', and_self]
    · rw [updS_other _ _ _ _ hi]; exact ⟨rfl, rfl⟩
  simp only [six, (e 0).1, (e 1).1, (e 2).1, (e 0).2, (e 1).2, (e 2).2]
/-- one seat's sets are changed -/
theorem Dk.turn (h : Dk w B D σ) {k : Nat} (hk : k < 3) {s t : Sq} (hs : σ k = some s) (hu : UF w w' s.has) (hp : t.p = s.p) (hp' : t.p' = s.p') (hok : t.Ok w') (hf : ∀ x, t.has x → s.has x ∨ w.heap.size ≤ x) : Dk w' B D (updS σ k (some t)) := by
  obtain ⟨h1, h2, h3⟩ := h.ok k hk s hs
  have hBw : B ≤ w.heap.size := Nat.le_trans h.ge (Nat.le_of_lt h.dlt)
  refine ⟨by rw [six_ptr σ k s t hs hp hp']; exact (hu.block D h.dlt h2).trans h.d, h.ge, fun i hi r hr => ?_, fun i j hi hj hij r r' hr hr' x hx => ?_⟩
  · by_cases e : i = k
    · subst e
      rw [updS_same] at hr
      injection hr with hr
      subst hr
      refine ⟨hok, fun hx => ?_, fun x hx => ?_⟩
      · rcases hf D hx with h4 | h4
        · exact h2 h4
        · have := h.dlt; omega
      · rcases hf x hx with h4 | h4
        · exact h3 x h4
        · omega
    · rw [updS_other _ _ _ _ e] at hr
      exact ⟨(h.ok i hi r hr).1.uf hu (fun x hx => h.ap i k hi hk e r s hr hs x hx), (h.ok i hi r hr).2⟩
  · by_cases e : i = k
    · subst e
      rw [updS_same] at hr
      injection hr with hr
      subst hr
      rw [updS_other _ _ _ _ (Ne.symm hij)] at hr'
      rcases hf x hx with h4 | h4
      · exact h.ap i j hi hj hij s r' hs hr' x h4
      · exact fun h5 => by have := (h.ok j hj r' hr').1.lt h5; omega
    · rw [updS_other _ _ _ _ e] at hr
      by_cases e2 : j = k
      · subst e2
        rw [updS_same] at hr'
        injection hr' with hr'
        subst hr'
        intro h5
        rcases hf x h5 with h4 | h4
        · exact h.ap i j hi hj hij r s hr hs x hx h4
        · have := (h.ok i hi r hr).1.lt hx; omega
      · rw [updS_other _ _ _ _ e2] at hr'
        exact h.ap i j hi hj hij r r' hr hr' x hx
/-- other sets are laid in a seat -/
theorem Dk.make (h0 : Dk w B D σ) {w1 : World} (hb : Below w.heap.size w w1) {k : Nat} (hk : k < 3) (τ : Option Sq) (hτ : ∀ t, τ = some t → t.Ok w1 ∧ ∀ x, t.has x → w.heap.size ≤ x) :
    Dk ((w1.setCell ⟨D, k, none⟩ (ownV τ)).setCell ⟨D, 3 + k, none⟩ (refV τ)) B D (updS σ k τ) := by
  have h := h0.keep hb
  have hne : ∀ x, x ≠ D → ((w1.setCell ⟨D, k, none⟩ (ownV τ)).setCell ⟨D, 3 + k, none⟩ (refV τ)).heap[x]? = w1.heap[x]? := fun x hx =>
    (Deep.blk_setCell_other _ ⟨D, 3 + k, none⟩ _ x hx).trans (Deep.blk_setCell_other _ ⟨D, k, none⟩ _ x hx)
  have hsz : ((w1.setCell ⟨D, k, none⟩ (ownV τ)).setCell ⟨D, 3 + k, none⟩ (refV τ)).heap.size = w1.heap.size := by simp [World.setCell]
  have hu : UF w1 ((w1.setCell ⟨D, k, none⟩ (ownV τ)).setCell ⟨D, 3 + k, none⟩ (refV τ)) (fun x => x = D) := ⟨rfl, rfl, rfl, by rw [hsz]; exact Nat.le_refl _, fun x _ hx => hne x hx⟩
  have hdl := h0.dlt
  have hBw : B ≤ w.heap.size := Nat.le_trans h0.ge (Nat.le_of_lt hdl)
  refine ⟨by rw [← six_set σ k hk τ]; exact heapCell_same (heapCell_same h.d _ _) _ _, h.ge, fun i hi r hr => ?_, fun i j hi hj hij r r' hr hr' x hx => ?_⟩
  · by_cases e : i = k
    · subst e
      rw [updS_same] at hr
      obtain ⟨h4, h5⟩ := hτ r hr
      have h6 : ¬ r.has D := fun h7 => by have := h5 D h7; omega
      exact ⟨h4.uf hu (fun x hx h7 => h6 (h7 ▸ hx)), h6, fun x hx => Nat.le_trans hBw (h5 x hx)⟩
    · rw [updS_other _ _ _ _ e] at hr
      obtain ⟨h4, h5, h6⟩ := h.ok i hi r hr
      exact ⟨h4.uf hu (fun x hx h7 => h5 (h7 ▸ hx)), h5, h6⟩
  · by_cases e : i = k
    · subst e
      rw [updS_same] at hr
      rw [updS_other _ _ _ _ (Ne.symm hij)] at hr'
      obtain ⟨h4, h5⟩ := hτ r hr
      exact fun h7 => by have := (h0.ok j hj r' hr').1.lt h7; have := h5 x hx; omega
    · rw [updS_other _ _ _ _ e] at hr
      by_cases e2 : j = k
      · subst e2
        rw [updS_same] at hr'
        obtain ⟨h4, h5⟩ := hτ r' hr'
        exact fun h7 => by have := (h0.ok i hi r hr).1.lt hx; have := h5 x h7; omega
      · rw [updS_other _ _ _ _ e2] at hr'
        exact h.ap i j hi hj hij r r' hr hr' x hx
end
end
section
open Go.RowKit

/-- behind a call: one seat's contents are others, all else is as it was -/
structure Rl (σ σ' : Nat → Option Sq) (k : Nat) (gS gT : Sq → Nat) : Prop where
  ot : ∀ i, i ≠ k → σ' i = σ i
  no : σ k = none → σ' k = none
  so : ∀ s, σ k = some s → ∃ t, σ' k = some t ∧ t.p = s.p ∧ t.p' = s.p' ∧ t.n = s.n ∧ t.S = gS s ∧ t.T = gT s
section
variable {σ σ' : Nat → Option Sq} {k : Nat} {gS gT : Sq → Nat}
theorem Rl.ownV (h : Rl σ σ' k gS gT) (i : Nat) : ownV (σ' i) = ownV (σ i) := by
  by_cases e : i = k
  · subst e
    cases hs : σ i with
    | none => rw [h.no hs]
    | some s => obtain ⟨t, h1, h2, _⟩ := h.so s hs; rw [h1]; simp only [Go.Proofs.YtloealcaagfehaaDoor.ownV, h2]
  · rw [h.ot i e]
theorem Rl.refV (h : Rl σ σ' k gS gT) (i : Nat) : refV (σ' i) = refV (σ i) := by
  by_cases e : i = k
  · subst e
    cases hs : σ i with
    | none => rw [h.no hs]
    | some s => obtain ⟨t, h1, _, h2, _⟩ := h.so s hs; rw [h1]; simp only [Go.Proofs.YtloealcaagfehaaDoor.refV, h2]
  · rw [h.ot i e]
theorem Rl.refl (h : ∀ s, σ k = some s → gS s = s.S ∧ gT s = s.T) : Rl σ σ k gS gT := ⟨fun _ _ => rfl, fun h => h, fun s hs => ⟨s, hs, rfl, rfl, rfl, (h s hs).1.symm, (h s hs).2.symm⟩⟩
end
/-- what a call leaves: the desk, with one seat's contents others -/
structure Lt (w w' : World) (B D : Nat) (σ σ' : Nat → Option Sq) (k : Nat) (gS gT : Sq → Nat) : Prop where
  d : Dk w' B D σ'
  r : Rl σ σ' k gS gT
  uf : ∃ f : Nat → Prop, UF w w' f ∧ ∀ x, f x → B ≤ x ∧ ∃ s, σ k = some s ∧ s.has x
  ft : ∀ t x, σ' k = some t → t.has x → (∃ s, σ k = some s ∧ s.has x) ∨ w.heap.size ≤ x
def Left (w w' : World) (B D : Nat) (σ : Nat → Option Sq) (k : Nat) (gS gT : Sq → Nat) : Prop := ∃ σ', Lt w w' B D σ σ' k gS gT
section
variable {w w' : World} {B D k : Nat} {σ σ' : Nat → Option Sq} {gS gT : Sq → Nat}
theorem Left.same (h : Dk w B D σ) (c : Nat) (hg : ∀ s, σ k = some s → gS s = s.S ∧ gT s = s.T) : Left w (w.drewN c) B D σ k gS gT :=
  ⟨σ, h.drewN c, Rl.refl hg, ⟨fun _ => False, (UF.refl w _).drewN c, fun _ h => h.elim⟩, fun t _ ht hx => .inl ⟨t, ht, hx⟩⟩
theorem Left.same' (h : Dk w B D σ) (hg : ∀ s, σ k = some s → gS s = s.S ∧ gT s = s.T) : Left w w B D σ k gS gT :=
  ⟨σ, h, Rl.refl hg, ⟨fun _ => False, UF.refl w _, fun _ h => h.elim⟩, fun t _ ht hx => .inl ⟨t, ht, hx⟩⟩
theorem Lt.below (h : Lt w w' B D σ σ' k gS gT) (hd : Dk w B D σ) : Below B w w' := by
  obtain ⟨f, h3, h4⟩ := h.uf
  exact h3.toBelow (Nat.le_trans hd.ge (Nat.le_of_lt hd.dlt)) fun x hx => (h4 x hx).1
/-- a block that is no seat's -/
theorem Lt.off (h : Lt w w' B D σ σ' k gS gT) {X : Nat} (hX : X < w.heap.size) (hn : ∀ s, σ k = some s → ¬ s.has X) : (∀ s, σ' k = some s → ¬ s.has X) ∧ (∀ o, w'.cell? ⟨X, o, none⟩ = w.cell? ⟨X, o, none⟩) ∧ X < w'.heap.size := by
  obtain ⟨f, h3, h4⟩ := h.uf
  refine ⟨fun t ht hx => ?_, fun o => ?_, Nat.lt_of_lt_of_le hX h3.size⟩
  · rcases h.ft t X ht hx with ⟨s, hs, hx'⟩ | h5
    · exact hn s hs hx'
    · omega
  · have := h3.block X hX (fun hf => by obtain ⟨_, s, hs, hx⟩ := h4 X hf; exact hn s hs hx)
    simp only [World.cell?, this]
theorem Dk.off (h : Dk w B D σ) (hk : k < 3) : ∀ s, σ k = some s → ¬ s.has w.heap.size := fun s hs hx => Nat.lt_irrefl _ ((h.ok k hk s hs).1.lt hx)
/-- the program's set is another -/
theorem Dk.leftA (h : Dk w B D σ) (hk : k < 3) {s : Sq} (hs : σ k = some s) {R : Nat} (hb : Bm w' s.p s.q s.n R) (hu : U1 w w' s.q) (hg : gS s = R ∧ gT s = s.T) : Left w w' B D σ k gS gT := by
  obtain ⟨h1, h2, h3⟩ := h.ok k hk s hs
  have huf : UF w w' s.has := hu.uf (.inr (.inl rfl))
  have hok : Sq.Ok ⟨s.p, s.q, s.p', s.q', s.n, R, s.T⟩ w' :=
    ⟨hb, h1.b.keep (hu.block _ h1.b.plt (Ne.symm h1.ap.2.2.1)) (hu.block _ h1.ql (Ne.symm h1.ap.2.2.2)), Nat.lt_of_lt_of_le h1.ql hu.size, h1.ap⟩
  refine ⟨updS σ k (some ⟨s.p, s.q, s.p', s.q', s.n, R, s.T⟩), h.turn hk hs huf rfl rfl hok (fun x hx => .inl hx), ⟨fun i hi => updS_other _ _ _ _ hi, fun h0 => (by rw [hs] at h0; cases h0), fun s' hs' => ?_⟩, ⟨s.has, huf, fun x hx => ⟨h3 x hx, s, hs, hx⟩⟩, fun t x ht hx => ?_⟩
  · rw [hs] at hs'
    injection hs' with hs'
    subst hs'
    exact ⟨_, updS_same _ _ _, rfl, rfl, rfl, hg.1.symm, hg.2.symm⟩
  · rw [updS_same] at ht
    injection ht with ht
    subst ht
    exact .inl ⟨s, hs, hx⟩
/-- the document's set is another -/
theorem Dk.leftB (h : Dk w B D σ) (hk : k < 3) {s : Sq} (hs : σ k = some s) {R q2 : Nat} (hb : Rn w' s.p' q2 s.n R) (hu : U2 w w' s.p' s.q') (hq : w.heap.size ≤ q2 ∨ q2 = s.p' ∨ q2 = s.q') (hql : q2 < w'.heap.size) (hg : gS s = s.S ∧ gT s = R) : Left w w' B D σ k gS gT := by
  obtain ⟨h1, h2, h3⟩ := h.ok k hk s hs
  have huf : UF w w' s.has := hu.uf (.inr (.inr (.inl rfl))) (.inr (.inr (.inr rfl)))
  have hpl := h1.a.plt
  have hqll := h1.a.qlt
  have hap : s.p ≠ s.p' ∧ s.p ≠ q2 ∧ s.q ≠ s.p' ∧ s.q ≠ q2 := by
    refine ⟨h1.ap.1, ?_, h1.ap.2.2.1, ?_⟩
    · rcases hq with h | h | h
      · omega
      · rw [h]; exact h1.ap.1
      · rw [h]; exact h1.ap.2.1
    · rcases hq with h | h | h
      · omega
      · rw [h]; exact h1.ap.2.2.1
      · rw [h]; exact h1.ap.2.2.2
  have hok : Sq.Ok ⟨s.p, s.q, s.p', q2, s.n, s.S, R⟩ w' :=
    ⟨h1.a.keep (hu.block _ hpl h1.ap.1 h1.ap.2.1) (hu.block _ hqll h1.ap.2.2.1 h1.ap.2.2.2), hb, hql, hap⟩
  have hft : ∀ x, Sq.has ⟨s.p, s.q, s.p', q2, s.n, s.S, R⟩ x → s.has x ∨ w.heap.size ≤ x := fun x hx => by
    rcases hx with rfl | rfl | rfl | rfl
    · exact .inl (.inl rfl)
    · exact .inl (.inr (.inl rfl))
    · exact .inl (.inr (.inr (.inl rfl)))
    · rcases hq with h | h | h
      · exact .inr h
      · exact .inl (.inr (.inr (.inl h)))
      · exact .inl (.inr (.inr (.inr h)))
  refine ⟨updS σ k (some ⟨s.p, s.q, s.p', q2, s.n, s.S, R⟩), h.turn hk hs huf rfl rfl hok hft, ⟨fun i hi => updS_other _ _ _ _ hi, fun h0 => (by rw [hs] at h0; cases h0), fun s' hs' => ?_⟩, ⟨s.has, huf, fun x hx => ⟨h3 x hx, s, hs, hx⟩⟩, fun t x ht hx => ?_⟩
  · rw [hs] at hs'
    injection hs' with hs'
    subst hs'
    exact ⟨_, updS_same _ _ _, rfl, rfl, rfl, hg.1.symm, hg.2.symm⟩
  · rw [updS_same] at ht
    injection ht with ht
    subst ht
    exact (hft x hx).imp (fun h => ⟨s, hs, h⟩) id
end
/-- the answers -/
def oneR (x : Int) : Option Sq → Int
  | none => 2
  | some s => Sp.oneE s.n x
def fillR (f b : Int) : Option Sq → Int
  | none => 2
  | some s => Sp.fillE s.n f b
def twoR : Option Sq → Option Sq → Int
  | some s, some t => if s.n = t.n then 0 else 1
  | _, _ => 2
/-- what is in behind a call with another set -/
def twoG (f : Nat → Nat → Nat) (o : Option Sq) (c : Sq → Nat) (s : Sq) : Nat :=
  match o with
  | some t => if s.n = t.n then f (c s) (c t) else c s
  | none => c s
section
variable {σ σ' : Nat → Option Sq} {k : Nat} {gS gT : Sq → Nat}
theorem Rl.one (h : Rl σ σ' k gS gT) (x : Int) : oneR x (σ' k) = oneR x (σ k) := by
  cases hs : σ k with
  | none => rw [h.no hs]
  | some s => obtain ⟨t, h1, _, _, h2, _⟩ := h.so s hs; rw [h1]; simp only [oneR, h2]
theorem Rl.fill (h : Rl σ σ' k gS gT) (x y : Int) : fillR x y (σ' k) = fillR x y (σ k) := by
  cases hs : σ k with
  | none => rw [h.no hs]
  | some s => obtain ⟨t, h1, _, _, h2, _⟩ := h.so s hs; rw [h1]; simp only [fillR, h2]
theorem Rl.nn (h : Rl σ σ' k gS gT) (i : Nat) : (σ' i).map Sq.n = (σ i).map Sq.n := by
  by_cases e : i = k
  · subst e
    cases hs : σ i with
    | none => rw [h.no hs]
    | some s => obtain ⟨t, h1, _, _, h2, _⟩ := h.so s hs; rw [h1]; simp only [Option.map, h2]
  · rw [h.ot i e]
theorem twoR_nn {a b c d : Option Sq} (h1 : a.map Sq.n = c.map Sq.n) (h2 : b.map Sq.n = d.map Sq.n) : twoR a b = twoR c d := by
  cases a <;> cases b <;> cases c <;> cases d <;> simp_all [twoR]
theorem Rl.two (h : Rl σ σ' k gS gT) (i j : Nat) : twoR (σ' i) (σ' j) = twoR (σ i) (σ j) := twoR_nn (h.nn i) (h.nn j)
end
section
variable {w : World} {B D k j : Nat} {σ : Nat → Option Sq}
theorem Rn.q2 {w' : World} {p q n S : Nat} (h : Rn w' p q n S) : ∃ q2, (q2 = p ∨ q2 = q) ∧ q2 < w'.heap.size ∧ Rn w' p q2 n S := by
  obtain ⟨q2, h1, h2, h3⟩ := h.norm
  exact ⟨q2, h1.symm, h2, h3⟩
theorem pPut (h : Dk w B D σ) (hk : k < 3) (x : Int) : Calls Tryd.prog 24 #[ownV (σ k), .int .i64 x] w fun e w' => e = .returned (.int .i64 (oneR x (σ k))) ∧ Left w w' B D σ k (fun s => Sp.putS s.n s.S x) (fun s => s.T) := by
  cases hs : σ k with
  | none =>
    refine (bPutNil x w).mono ?_
    rintro e w' ⟨rfl, rfl⟩
    exact ⟨rfl, Left.same' h fun s h0 => by rw [hs] at h0; cases h0⟩
  | some s =>
    refine (aPut (h.ok k hk s hs).1.a x).mono ?_
    rintro e w' ⟨rfl, h1, h2⟩
    exact ⟨rfl, h.leftA hk hs h1 h2 ⟨rfl, rfl⟩⟩
theorem dPut (h : Dk w B D σ) (hk : k < 3) (x : Int) : Calls Tryd.prog 44 #[refV (σ k), .int .i64 x] w fun e w' => e = .returned (.int .i64 (oneR x (σ k))) ∧ Left w w' B D σ k (fun s => s.S) (fun s => Sp.putS s.n s.T x) := by
  cases hs : σ k with
  | none =>
    refine (rPutNil x w).mono ?_
    rintro e w' ⟨rfl, rfl⟩
    exact ⟨rfl, Left.same' h fun s h0 => by rw [hs] at h0; cases h0⟩
  | some s =>
    refine (nPut (h.ok k hk s hs).1.b x).mono ?_
    rintro e w' ⟨rfl, h1, h2⟩
    obtain ⟨q2, h3, h4, h5⟩ := h1.q2
    exact ⟨rfl, h.leftB hk hs h5 h2 (.inr h3) h4 ⟨rfl, rfl⟩⟩
theorem pTake (h : Dk w B D σ) (hk : k < 3) (x : Int) : Calls Tryd.prog 25 #[ownV (σ k), .int .i64 x] w fun e w' => e = .returned (.int .i64 (oneR x (σ k))) ∧ Left w w' B D σ k (fun s => Sp.takeS s.n s.S x) (fun s => s.T) := by
  cases hs : σ k with
  | none =>
    refine (bTakeNil x w).mono ?_
    rintro e w' ⟨rfl, rfl⟩
    exact ⟨rfl, Left.same' h fun s h0 => by rw [hs] at h0; cases h0⟩
  | some s =>
    refine (aTake (h.ok k hk s hs).1.a x).mono ?_
    rintro e w' ⟨rfl, h1, h2⟩
    exact ⟨rfl, h.leftA hk hs h1 h2 ⟨rfl, rfl⟩⟩
theorem dTake (h : Dk w B D σ) (hk : k < 3) (x : Int) : Calls Tryd.prog 45 #[refV (σ k), .int .i64 x] w fun e w' => e = .returned (.int .i64 (oneR x (σ k))) ∧ Left w w' B D σ k (fun s => s.S) (fun s => Sp.takeS s.n s.T x) := by
  cases hs : σ k with
  | none =>
    refine (rTakeNil x w).mono ?_
    rintro e w' ⟨rfl, rfl⟩
    exact ⟨rfl, Left.same' h fun s h0 => by rw [hs] at h0; cases h0⟩
  | some s =>
    refine (nTake (h.ok k hk s hs).1.b x).mono ?_
    rintro e w' ⟨rfl, h1, h2⟩
    obtain ⟨q2, h3, h4, h5⟩ := h1.q2
    exact ⟨rfl, h.leftB hk hs h5 h2 (.inr h3) h4 ⟨rfl, rfl⟩⟩
theorem pFill (h : Dk w B D σ) (hk : k < 3) (x y : Int) : Calls Tryd.prog 32 #[ownV (σ k), .int .i64 x, .int .i64 y] w fun e w' => e = .returned (.int .i64 (fillR x y (σ k))) ∧ Left w w' B D σ k (fun s => Sp.fillS s.n s.S x y) (fun s => s.T) := by
  cases hs : σ k with
  | none =>
    refine (bFillNil x y w).mono ?_
    rintro e w' ⟨rfl, rfl⟩
    exact ⟨rfl, Left.same' h fun s h0 => by rw [hs] at h0; cases h0⟩
  | some s =>
    refine (aFill (h.ok k hk s hs).1.a x y).mono ?_
    rintro e w' ⟨rfl, h1, h2⟩
    exact ⟨rfl, h.leftA hk hs h1 h2 ⟨rfl, rfl⟩⟩
theorem dFill (h : Dk w B D σ) (hk : k < 3) (x y : Int) : Calls Tryd.prog 46 #[refV (σ k), .int .i64 x, .int .i64 y] w fun e w' => e = .returned (.int .i64 (fillR x y (σ k))) ∧ Left w w' B D σ k (fun s => s.S) (fun s => Sp.fillS s.n s.T x y) := by
  cases hs : σ k with
  | none =>
    refine (rFillNil x y w).mono ?_
    rintro e w' ⟨rfl, rfl⟩
    exact ⟨rfl, Left.same' h fun s h0 => by rw [hs] at h0; cases h0⟩
  | some s =>
    refine (nFill (h.ok k hk s hs).1.b x y).mono ?_
    rintro e w' ⟨rfl, h1, h2⟩
    obtain ⟨q2, h3, h4, h5⟩ := h1.q2
    exact ⟨rfl, h.leftB hk hs h5 h2 (.inr h3) h4 ⟨rfl, rfl⟩⟩
theorem pClear (h : Dk w B D σ) (hk : k < 3) : Calls Tryd.prog 26 #[ownV (σ k)] w fun e w' => e = .returned (.tuple #[]) ∧ Left w w' B D σ k (fun _ => 0) (fun s => s.T) := by
  cases hs : σ k with
  | none =>
    refine (bClearNil w).mono ?_
    rintro e w' ⟨rfl, rfl⟩
    exact ⟨rfl, Left.same' h fun s h0 => by rw [hs] at h0; cases h0⟩
  | some s =>
    refine (bClear (h.ok k hk s hs).1.a).mono ?_
    rintro e w' ⟨rfl, h1, h2⟩
    exact ⟨rfl, h.leftA hk hs h1 h2 ⟨rfl, rfl⟩⟩
theorem dClear (h : Dk w B D σ) (hk : k < 3) : Calls Tryd.prog 50 #[refV (σ k)] w fun e w' => e = .returned (.tuple #[]) ∧ Left w w' B D σ k (fun s => s.S) (fun _ => 0) := by
  cases hs : σ k with
  | none =>
    refine (rClearNil w).mono ?_
    rintro e w' ⟨rfl, rfl⟩
    exact ⟨rfl, Left.same' h fun s h0 => by rw [hs] at h0; cases h0⟩
  | some s =>
    refine (nClear (h.ok k hk s hs).1.b).mono ?_
    rintro e w' ⟨rfl, h1, h2⟩
    obtain ⟨q2, h3, h4, h5⟩ := h1.q2
    exact ⟨rfl, h.leftB hk hs h5 h2 (.inr h3) h4 ⟨rfl, rfl⟩⟩
theorem pOr (h : Dk w B D σ) (hk : k < 3) (hj : j < 3) : Calls Tryd.prog 33 #[ownV (σ k), ownV (σ j)] w fun e w' => e = .returned (.int .i64 (twoR (σ k) (σ j))) ∧ Left w w' B D σ k (twoG (· ||| ·) (σ j) Sq.S) (fun s => s.T) := by
  cases hs : σ k with
  | none =>
    have hr : ∀ o, twoR none o = 2 := fun o => by cases o <;> rfl
    rw [hr]
    cases ht : σ j with
    | none =>
      refine (bOrNone none w).mono ?_
      rintro e w' ⟨rfl, rfl⟩
      exact ⟨rfl, Left.same' h fun s h0 => by rw [hs] at h0; cases h0⟩
    | some t =>
      refine (bOrNone _ w).mono ?_
      rintro e w' ⟨rfl, rfl⟩
      exact ⟨rfl, Left.same' h fun s h0 => by rw [hs] at h0; cases h0⟩
  | some s =>
    have hks := h.ok k hk s hs
    cases ht : σ j with
    | none =>
      refine (bOrNil hks.1.a).mono ?_
      rintro e w' ⟨rfl, rfl⟩
      exact ⟨rfl, Left.same' h fun _ _ => ⟨rfl, rfl⟩⟩
    | some t =>
      have hjt := h.ok j hj t ht
      by_cases hn : s.n = t.n
      · have e1 : twoR (some s) (some t) = 0 := if_pos hn
        rw [e1]
        refine (bOr hks.1.a (hn ▸ hjt.1.a) ?_).mono ?_
        · intro hq
          by_cases e : k = j
          · subst e
            rw [hs] at ht
            injection ht with ht
            rw [ht]
          · exact absurd (.inr (.inl rfl)) (h.ap k j hk hj e s t hs ht t.q (.inr (.inl hq)))
        · rintro e w' ⟨rfl, h1, h2⟩
          exact ⟨rfl, h.leftA hk hs h1 h2 ⟨if_pos hn, rfl⟩⟩
      · have e1 : twoR (some s) (some t) = 1 := if_neg hn
        rw [e1]
        refine (bOrBad hks.1.a hjt.1.a hn).mono ?_
        rintro e w' ⟨rfl, c, rfl⟩
        refine ⟨rfl, Left.same h c fun s' h0 => ?_⟩
        rw [hs] at h0
        injection h0 with h0
        subst h0
        exact ⟨if_neg hn, rfl⟩
theorem dOr (h : Dk w B D σ) (hk : k < 3) (hj : j < 3) : Calls Tryd.prog 47 #[refV (σ k), refV (σ j)] w fun e w' => e = .returned (.int .i64 (twoR (σ k) (σ j))) ∧ Left w w' B D σ k (fun s => s.S) (twoG (· ||| ·) (σ j) Sq.T) := by
  cases hs : σ k with
  | none =>
    have hr : ∀ o, twoR none o = 2 := fun o => by cases o <;> rfl
    rw [hr]
    cases ht : σ j with
    | none =>
      refine (nOrNone none w).mono ?_
      rintro e w' ⟨rfl, rfl⟩
      exact ⟨rfl, Left.same' h fun s h0 => by rw [hs] at h0; cases h0⟩
    | some t =>
      refine (nOrNone _ w).mono ?_
      rintro e w' ⟨rfl, rfl⟩
      exact ⟨rfl, Left.same' h fun s h0 => by rw [hs] at h0; cases h0⟩
  | some s =>
    have hks := h.ok k hk s hs
    cases ht : σ j with
    | none =>
      refine (nOrNil s.p' w).mono ?_
      rintro e w' ⟨rfl, rfl⟩
      exact ⟨rfl, Left.same' h fun _ _ => ⟨rfl, rfl⟩⟩
    | some t =>
      have hjt := h.ok j hj t ht
      by_cases hn : s.n = t.n
      · have e1 : twoR (some s) (some t) = 0 := if_pos hn
        rw [e1]
        refine (nOr hks.1.b (hn ▸ hjt.1.b)).mono ?_
        rintro e w' ⟨rfl, h1, q2, h2, h3, h4⟩
        exact ⟨rfl, h.leftB hk hs h4 (h1.two' s.q') (h2.imp id .inl) h3 ⟨rfl, if_pos hn⟩⟩
      · have e1 : twoR (some s) (some t) = 1 := if_neg hn
        rw [e1]
        refine (nOrBad hks.1.b hjt.1.b hn).mono ?_
        rintro e w' ⟨rfl, c, rfl⟩
        refine ⟨rfl, Left.same h c fun s' h0 => ?_⟩
        rw [hs] at h0
        injection h0 with h0
        subst h0
        exact ⟨rfl, if_neg hn⟩
theorem pAnd (h : Dk w B D σ) (hk : k < 3) (hj : j < 3) : Calls Tryd.prog 34 #[ownV (σ k), ownV (σ j)] w fun e w' => e = .returned (.int .i64 (twoR (σ k) (σ j))) ∧ Left w w' B D σ k (twoG (· &&& ·) (σ j) Sq.S) (fun s => s.T) := by
  cases hs : σ k with
  | none =>
    have hr : ∀ o, twoR none o = 2 := fun o => by cases o <;> rfl
    rw [hr]
    cases ht : σ j with
    | none =>
      refine (bAndNone none w).mono ?_
      rintro e w' ⟨rfl, rfl⟩
      exact ⟨rfl, Left.same' h fun s h0 => by rw [hs] at h0; cases h0⟩
    | some t =>
      refine (bAndNone _ w).mono ?_
      rintro e w' ⟨rfl, rfl⟩
      exact ⟨rfl, Left.same' h fun s h0 => by rw [hs] at h0; cases h0⟩
  | some s =>
    have hks := h.ok k hk s hs
    cases ht : σ j with
    | none =>
      refine (bAndNil hks.1.a).mono ?_
      rintro e w' ⟨rfl, rfl⟩
      exact ⟨rfl, Left.same' h fun _ _ => ⟨rfl, rfl⟩⟩
    | some t =>
      have hjt := h.ok j hj t ht
      by_cases hn : s.n = t.n
      · have e1 : twoR (some s) (some t) = 0 := if_pos hn
        rw [e1]
        refine (bAnd hks.1.a (hn ▸ hjt.1.a) ?_).mono ?_
        · intro hq
          by_cases e : k = j
          · subst e
            rw [hs] at ht
            injection ht with ht
            rw [ht]
          · exact absurd (.inr (.inl rfl)) (h.ap k j hk hj e s t hs ht t.q (.inr (.inl hq)))
        · rintro e w' ⟨rfl, h1, h2⟩
          exact ⟨rfl, h.leftA hk hs h1 h2 ⟨if_pos hn, rfl⟩⟩
      · have e1 : twoR (some s) (some t) = 1 := if_neg hn
        rw [e1]
        refine (bAndBad hks.1.a hjt.1.a hn).mono ?_
        rintro e w' ⟨rfl, c, rfl⟩
        refine ⟨rfl, Left.same h c fun s' h0 => ?_⟩
        rw [hs] at h0
        injection h0 with h0
        subst h0
        exact ⟨if_neg hn, rfl⟩
theorem dAnd (h : Dk w B D σ) (hk : k < 3) (hj : j < 3) : Calls Tryd.prog 48 #[refV (σ k), refV (σ j)] w fun e w' => e = .returned (.int .i64 (twoR (σ k) (σ j))) ∧ Left w w' B D σ k (fun s => s.S) (twoG (· &&& ·) (σ j) Sq.T) := by
  cases hs : σ k with
  | none =>
    have hr : ∀ o, twoR none o = 2 := fun o => by cases o <;> rfl
    rw [hr]
    cases ht : σ j with
    | none =>
      refine (nAndNone none w).mono ?_
      rintro e w' ⟨rfl, rfl⟩
      exact ⟨rfl, Left.same' h fun s h0 => by rw [hs] at h0; cases h0⟩
    | some t =>
      refine (nAndNone _ w).mono ?_
      rintro e w' ⟨rfl, rfl⟩
      exact ⟨rfl, Left.same' h fun s h0 => by rw [hs] at h0; cases h0⟩
  | some s =>
    have hks := h.ok k hk s hs
    cases ht : σ j with
    | none =>
      refine (nAndNil s.p' w).mono ?_
      rintro e w' ⟨rfl, rfl⟩
      exact ⟨rfl, Left.same' h fun _ _ => ⟨rfl, rfl⟩⟩
    | some t =>
      have hjt := h.ok j hj t ht
      by_cases hn : s.n = t.n
      · have e1 : twoR (some s) (some t) = 0 := if_pos hn
        rw [e1]
        refine (nAnd hks.1.b (hn ▸ hjt.1.b)).mono ?_
        rintro e w' ⟨rfl, h1, q2, h2, h3, h4⟩
        exact ⟨rfl, h.leftB hk hs h4 (h1.two' s.q') (h2.imp id .inl) h3 ⟨rfl, if_pos hn⟩⟩
      · have e1 : twoR (some s) (some t) = 1 := if_neg hn
        rw [e1]
        refine (nAndBad hks.1.b hjt.1.b hn).mono ?_
        rintro e w' ⟨rfl, c, rfl⟩
        refine ⟨rfl, Left.same h c fun s' h0 => ?_⟩
        rw [hs] at h0
        injection h0 with h0
        subst h0
        exact ⟨rfl, if_neg hn⟩
theorem pMinus (h : Dk w B D σ) (hk : k < 3) (hj : j < 3) : Calls Tryd.prog 35 #[ownV (σ k), ownV (σ j)] w fun e w' => e = .returned (.int .i64 (twoR (σ k) (σ j))) ∧ Left w w' B D σ k (twoG Bit.minus (σ j) Sq.S) (fun s => s.T) := by
  cases hs : σ k with
  | none =>
    have hr : ∀ o, twoR none o = 2 := fun o => by cases o <;> rfl
    rw [hr]
    cases ht : σ j with
    | none =>
      refine (bMinusNone none w).mono ?_
      rintro e w' ⟨rfl, rfl⟩
      exact ⟨rfl, Left.same' h fun s h0 => by rw [hs] at h0; cases h0⟩
    | some t =>
      refine (bMinusNone _ w).mono ?_
      rintro e w' ⟨rfl, rfl⟩
      exact ⟨rfl, Left.same' h fun s h0 => by rw [hs] at h0; cases h0⟩
  | some s =>
    have hks := h.ok k hk s hs
    cases ht : σ j with
    | none =>
      refine (bMinusNil hks.1.a).mono ?_
      rintro e w' ⟨rfl, rfl⟩
      exact ⟨rfl, Left.same' h fun _ _ => ⟨rfl, rfl⟩⟩
    | some t =>
      have hjt := h.ok j hj t ht
      by_cases hn : s.n = t.n
      · have e1 : twoR (some s) (some t) = 0 := if_pos hn
        rw [e1]
        refine (bMinus hks.1.a (hn ▸ hjt.1.a) ?_).mono ?_
        · intro hq
          by_cases e : k = j
          · subst e
            rw [hs] at ht
            injection ht with ht
            rw [ht]
          · exact absurd (.inr (.inl rfl)) (h.ap k j hk hj e s t hs ht t.q (.inr (.inl hq)))
        · rintro e w' ⟨rfl, h1, h2⟩
          exact ⟨rfl, h.leftA hk hs h1 h2 ⟨if_pos hn, rfl⟩⟩
      · have e1 : twoR (some s) (some t) = 1 := if_neg hn
        rw [e1]
        refine (bMinusBad hks.1.a hjt.1.a hn).mono ?_
        rintro e w' ⟨rfl, c, rfl⟩
        refine ⟨rfl, Left.same h c fun s' h0 => ?_⟩
        rw [hs] at h0
        injection h0 with h0
        subst h0
        exact ⟨if_neg hn, rfl⟩
theorem dMinus (h : Dk w B D σ) (hk : k < 3) (hj : j < 3) : Calls Tryd.prog 49 #[refV (σ k), refV (σ j)] w fun e w' => e = .returned (.int .i64 (twoR (σ k) (σ j))) ∧ Left w w' B D σ k (fun s => s.S) (twoG Bit.minus (σ j) Sq.T) := by
  cases hs : σ k with
  | none =>
    have hr : ∀ o, twoR none o = 2 := fun o => by cases o <;> rfl
    rw [hr]
    cases ht : σ j with
    | none =>
      refine (nMinusNone none w).mono ?_
      rintro e w' ⟨rfl, rfl⟩
      exact ⟨rfl, Left.same' h fun s h0 => by rw [hs] at h0; cases h0⟩
    | some t =>
      refine (nMinusNone _ w).mono ?_
      rintro e w' ⟨rfl, rfl⟩
      exact ⟨rfl, Left.same' h fun s h0 => by rw [hs] at h0; cases h0⟩
  | some s =>
    have hks := h.ok k hk s hs
    cases ht : σ j with
    | none =>
      refine (nMinusNil s.p' w).mono ?_
      rintro e w' ⟨rfl, rfl⟩
      exact ⟨rfl, Left.same' h fun _ _ => ⟨rfl, rfl⟩⟩
    | some t =>
      have hjt := h.ok j hj t ht
      by_cases hn : s.n = t.n
      · have e1 : twoR (some s) (some t) = 0 := if_pos hn
        rw [e1]
        refine (nMinus hks.1.b (hn ▸ hjt.1.b)).mono ?_
        rintro e w' ⟨rfl, h1, q2, h2, h3, h4⟩
        exact ⟨rfl, h.leftB hk hs h4 (h1.two' s.q') (h2.imp id .inl) h3 ⟨rfl, if_pos hn⟩⟩
      · have e1 : twoR (some s) (some t) = 1 := if_neg hn
        rw [e1]
        refine (nMinusBad hks.1.b hjt.1.b hn).mono ?_
        rintro e w' ⟨rfl, c, rfl⟩
        refine ⟨rfl, Left.same h c fun s' h0 => ?_⟩
        rw [hs] at h0
        injection h0 with h0
        subst h0
        exact ⟨rfl, if_neg hn⟩
end
end
section
open Go.RowKit

/-- one of three -/
def sm (i : Int) : Nat := (i % 3).toNat
theorem sm_lt (i : Int) : sm i < 3 := by rw [sm]; omega
theorem sm_eq (i : Int) : ((sm i : Nat) : Int) = if Int.tmod i 3 < 0 then Int.tmod i 3 + 3 else Int.tmod i 3 := by
  rw [sm]
  have h := Int.tmod_eq_emod (a := i) (b := 3)
  split at h <;> (split <;> omega)
theorem lSeat (i : Int) (w : World) : Calls Tryd.prog 41 #[.int .i64 i] w fun e w' => e = .returned (.int .i64 ((sm i : Nat) : Int)) ∧ w' = w := by
  have e := sm_eq i
  have hl := sm_lt i
  have HE := hide e
  by_cases h : Int.tmod i 3 < 0
  · rw [if_pos h] at e
    have hb : -3 ≤ Int.tmod i 3 := by omega
    clear e hl
    go_enter Tryd.func41, Tryd.ntmps41
    go_wp2
    go_ret
    rw [unhide HE, if_pos (by omega)]
    exact ⟨rfl, rfl⟩
  · rw [if_neg h] at e
    have hb : Int.tmod i 3 < 3 := by omega
    clear e hl
    go_enter Tryd.func41, Tryd.ntmps41
    go_wp2
    go_ret
    rw [unhide HE, if_neg (by omega)]
    exact ⟨rfl, rfl⟩
/-- both sides have the same -/
def Like (σ : Nat → Option Sq) : Prop := ∀ i s, σ i = some s → s.T = s.S
def hasR (x : Int) : Option Sq → Bool
  | none => false
  | some s => Bit.has s.S s.n x
def countR : Option Sq → Int
  | none => 0
  | some s => (Bit.count s.S s.n : Int)
def lenR : Option Sq → Int
  | none => 0
  | some s => (s.n : Int)
def toldR : Option Sq → ByteArray
  | none => ⟨#[]⟩
  | some s => ⟨(Bit.told s.S s.n).toArray⟩
def elsR : Option Sq → List Int
  | none => []
  | some s => (Bit.els s.S s.n 0).map fun y => ((y : Nat) : Int)
def sameR : Option Sq → Option Sq → Bool
  | some s, some t => decide (s.n = t.n) && decide (s.S = t.S)
  | _, _ => false
/-- what Next tells -/
def nextR (X : Nat) : Option Sq → Int × Bool
  | none => (0, false)
  | some s => match Bit.els s.S s.n X with
    | y :: _ => ((y : Nat), true)
    | [] => (0, false)
theorem elsR_len (o : Option Sq) (h : ∀ s, o = some s → s.n ≤ 65536) : (elsR o).length ≤ 65536 := by
  cases o with
  | none => exact Nat.zero_le _
  | some s => rw [elsR, List.length_map]; exact Nat.le_trans (Bit.els_length_le _ _) (h s rfl)
section
variable {w : World} {B D k j : Nat} {σ : Nat → Option Sq}
theorem Dk.rn (h : Dk w B D σ) (he : Like σ) (hk : k < 3) {s : Sq} (hs : σ k = some s) : Rn w s.p' s.q' s.n s.S := by
  have := (h.ok k hk s hs).1.b
  rwa [he k s hs] at this
theorem qHas (h : Dk w B D σ) (hk : k < 3) (x : Int) : Calls Tryd.prog 20 #[ownV (σ k), .int .i64 x] w fun e w' => e = .returned (.bool (hasR x (σ k))) ∧ w' = w := by
  cases hs : σ k with
  | none => exact bHasNil x w
  | some s => exact bHasAny (h.ok k hk s hs).1.a x
theorem rqHas (h : Dk w B D σ) (he : Like σ) (hk : k < 3) (x : Int) : Calls Tryd.prog 62 #[refV (σ k), .int .i64 x] w fun e w' => e = .returned (.bool (hasR x (σ k))) ∧ w' = w := by
  cases hs : σ k with
  | none => exact rHasNil x w
  | some s => exact nHas (h.rn he hk hs) x
theorem qCount (h : Dk w B D σ) (hk : k < 3) : Calls Tryd.prog 21 #[ownV (σ k)] w fun e w' => e = .returned (.int .i64 (countR (σ k))) ∧ w' = w := by
  cases hs : σ k with
  | none => exact bCountNil w
  | some s => exact bCount (h.ok k hk s hs).1.a
theorem rqCount (h : Dk w B D σ) (he : Like σ) (hk : k < 3) : Calls Tryd.prog 63 #[refV (σ k)] w fun e w' => e = .returned (.int .i64 (countR (σ k))) ∧ Below w.heap.size w w' := by
  cases hs : σ k with
  | none =>
    refine (rCountNil w).mono ?_
    rintro e w' ⟨rfl, rfl⟩
    exact ⟨rfl, Below.refl _ _⟩
  | some s => exact nCount (h.rn he hk hs)
theorem qLen (h : Dk w B D σ) (hk : k < 3) : Calls Tryd.prog 11 #[ownV (σ k)] w fun e w' => e = .returned (.int .i64 (lenR (σ k))) ∧ w' = w := by
  cases hs : σ k with
  | none => exact bLenNil w
  | some s => exact bLen (h.ok k hk s hs).1.a
theorem rqLen (h : Dk w B D σ) (he : Like σ) (hk : k < 3) : Calls Tryd.prog 12 #[refV (σ k)] w fun e w' => e = .returned (.int .i64 (lenR (σ k))) ∧ w' = w := by
  cases hs : σ k with
  | none => exact rLenNil w
  | some s => exact nLen (h.rn he hk hs)
theorem qTold (h : Dk w B D σ) (hk : k < 3) : Calls Tryd.prog 9 #[ownV (σ k)] w fun e w' => e = .returned (.string (toldR (σ k))) ∧ Below w.heap.size w w' := by
  cases hs : σ k with
  | none =>
    refine (bToldNil w).mono ?_
    rintro e w' ⟨rfl, rfl⟩
    exact ⟨rfl, Below.refl _ _⟩
  | some s => exact bTold (h.ok k hk s hs).1.a
theorem rqTold (h : Dk w B D σ) (he : Like σ) (hk : k < 3) : Calls Tryd.prog 10 #[refV (σ k)] w fun e w' => e = .returned (.string (toldR (σ k))) ∧ Below w.heap.size w w' := by
  cases hs : σ k with
  | none =>
    refine (rToldNil w).mono ?_
    rintro e w' ⟨rfl, rfl⟩
    exact ⟨rfl, Below.refl _ _⟩
  | some s => exact nTold (h.rn he hk hs)
theorem qGone (h : Dk w B D σ) (hT : Tab w) (hk : k < 3) : Calls Tryd.prog 14 #[ownV (σ k)] w fun e w' => (∃ ao cap, e = .returned (.slice ao (elsR (σ k)).length cap) ∧ LiesI w' ao (elsR (σ k))) ∧ Below w.heap.size w w' := by
  cases hs : σ k with
  | none =>
    refine (lGoneNil w).mono ?_
    rintro e w' ⟨rfl, hb⟩
    exact ⟨⟨none, 0, rfl, fun h => absurd h (by simp [elsR])⟩, hb⟩
  | some s =>
    refine (lGone (h.ok k hk s hs).1.a hT).mono ?_
    rintro e w' ⟨v, rfl, h1, h2⟩
    obtain ⟨ao, cap, rfl, h3⟩ := lies_of_own h1
    exact ⟨⟨ao, cap, rfl, h3⟩, h2⟩
theorem rqEach (h : Dk w B D σ) (he : Like σ) (hk : k < 3) : Calls Tryd.prog 15 #[refV (σ k)] w fun e w' => (∃ ao cap, e = .returned (.slice ao (elsR (σ k)).length cap) ∧ LiesI w' ao (elsR (σ k))) ∧ Below w.heap.size w w' := by
  cases hs : σ k with
  | none =>
    refine (rEachNil w).mono ?_
    rintro e w' ⟨rfl, rfl⟩
    exact ⟨⟨none, 0, rfl, fun h => absurd h (by simp [elsR])⟩, Below.refl _ _⟩
  | some s =>
    refine (nEach (h.rn he hk hs)).mono ?_
    rintro e w' ⟨v, rfl, h1, h2⟩
    obtain ⟨ao, cap, rfl, h3⟩ := lies_of_own h1
    exact ⟨⟨ao, cap, rfl, h3⟩, h2⟩
theorem qSame (h : Dk w B D σ) (hk : k < 3) (hj : j < 3) : Calls Tryd.prog 37 #[ownV (σ k), ownV (σ j)] w fun e w' => e = .returned (.bool (sameR (σ k) (σ j))) ∧ ∃ c, w' = w.drewN c := by
  cases hs : σ k with
  | none =>
    cases ht : σ j with
    | none => exact bSameNone none w
    | some t => exact bSameNone _ w
  | some s =>
    cases ht : σ j with
    | none => exact bSameNil s.p w
    | some t => exact aSame (h.ok k hk s hs).1.a (h.ok j hj t ht).1.a
theorem rqSame (h : Dk w B D σ) (he : Like σ) (hk : k < 3) (hj : j < 3) : Calls Tryd.prog 65 #[refV (σ k), refV (σ j)] w fun e w' => e = .returned (.bool (sameR (σ k) (σ j))) ∧ ∃ c, w' = w.drewN c := by
  cases hs : σ k with
  | none =>
    cases ht : σ j with
    | none => exact rSameNilL none w
    | some t => exact rSameNilL _ w
  | some s =>
    cases ht : σ j with
    | none => exact rSameNilR s.p' w
    | some t => exact nSame (h.rn he hk hs) (h.rn he hj ht)
theorem nextR_of {s : Sq} {X : Nat} {v : Value} (h : Nexts s.S s.n X v) : v = .tuple #[.int .i64 (nextR X (some s)).1, .bool (nextR X (some s)).2] := by
  rcases h with ⟨y, h1, _, _, rfl⟩ | ⟨h1, rfl⟩
  · simp only [nextR, h1]
  · simp only [nextR, h1]
theorem qNext (h : Dk w B D σ) (hT : Tab w) (hk : k < 3) (x : Int) (X : Nat) (hX : max x 0 = (X : Int)) (hX2 : X ≤ 9223372036854775807) : Calls Tryd.prog 29 #[ownV (σ k), .int .i64 x] w fun e w' => e = .returned (.tuple #[.int .i64 (nextR X (σ k)).1, .bool (nextR X (σ k)).2]) ∧ ∃ c, w' = w.drewN c := by
  cases hs : σ k with
  | none =>
    refine (bNextNil x w).mono ?_
    rintro e w' ⟨rfl, rfl⟩
    exact ⟨rfl, 0, rfl⟩
  | some s =>
    refine (bNext (h.ok k hk s hs).1.a hT x X hX hX2).mono ?_
    rintro e w' ⟨⟨v, rfl, h1⟩, h2⟩
    rw [nextR_of h1]
    exact ⟨rfl, h2⟩
theorem rqNext (h : Dk w B D σ) (he : Like σ) (hk : k < 3) (x : Int) (X : Nat) (hX : max x 0 = (X : Int)) : Calls Tryd.prog 64 #[refV (σ k), .int .i64 x] w fun e w' => e = .returned (.tuple #[.int .i64 (nextR X (σ k)).1, .bool (nextR X (σ k)).2]) ∧ Below w.heap.size w w' := by
  cases hs : σ k with
  | none =>
    refine (rNextNil x w).mono ?_
    rintro e w' ⟨rfl, rfl⟩
    exact ⟨rfl, Below.refl _ _⟩
  | some s =>
    refine (nNext (h.rn he hk hs) x X hX).mono ?_
    rintro e w' ⟨⟨v, rfl, h1⟩, h2⟩
    rw [nextR_of h1]
    exact ⟨rfl, h2⟩
end
end
end Go.Proofs.YtloealcaagfehaaDoor
