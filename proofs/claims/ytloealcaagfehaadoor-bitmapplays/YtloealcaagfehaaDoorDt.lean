/- The desk's seats, call by call: the program's side changes S, the document's side changes T. -/
import Derived.Test.YtloealcaagfehaaDoorDs
import Derived.Test.YtloealcaagfehaaDoorBc
namespace Go.Proofs.YtloealcaagfehaaDoor
open Go.RowKit

/-- behind a call: one seat's contents are others, all else is as it was -/
structure Rl (σ σ' : Nat → Option Sq) (k : Nat) (gS gT : Sq → Nat) : Prop where
  ot : ∀ i, i ≠ k → σ' i = σ i
  no : σ k = none → σ' k = none
  so : ∀ s, σ k = some s → ∃ t, σ' k = some t ∧ t.p = s.p ∧ t.p' = s.p' ∧ t.n = s.n ∧ t.S = gS s ∧ t.T = gT s
section
variable {σ σ' : Nat → Option Sq} {k : Nat} {gS gT : Sq → Nat}
theorem Rl.ownV (h : Rl σ σ' k gS gT) (i : Nat) : ownV (σ' i) = ownV (σ i) := by
  by_cases e : i = k
  · subst e
    cases hs : σ i with
    | none => rw [h.no hs]
    | some s => obtain ⟨t, h1, h2, _⟩ := h.so s hs; rw [h1]; simp only [Go.Proofs.YtloealcaagfehaaDoor.ownV, h2]
  · rw [h.ot i e]
theorem Rl.refV (h : Rl σ σ' k gS gT) (i : Nat) : refV (σ' i) = refV (σ i) := by
  by_cases e : i = k
  · subst e
    cases hs : σ i with
    | none => rw [h.no hs]
    | some s => obtain ⟨t, h1, _, h2, _⟩ := h.so s hs; rw [h1]; simp only [Go.Proofs.YtloealcaagfehaaDoor.refV, h2]
  · rw [h.ot i e]
theorem Rl.refl (h : ∀ s, σ k = some s → gS s = s.S ∧ gT s = s.T) : Rl σ σ k gS gT := ⟨fun _ _ => rfl, fun h => h, fun s hs => ⟨s, hs, rfl, rfl, rfl, (h s hs).1.symm, (h s hs).2.symm⟩⟩
end
/-- what a call leaves: the desk, with one seat's contents others -/
structure Lt (w w' : World) (B D : Nat) (σ σ' : Nat → Option Sq) (k : Nat) (gS gT : Sq → Nat) : Prop where
  d : Dk w' B D σ'
  r : Rl σ σ' k gS gT
  uf : ∃ f : Nat → Prop, UF w w' f ∧ ∀ x, f x → B ≤ x ∧ ∃ s, σ k = some s ∧ s.has x
  ft : ∀ t x, σ' k = some t → t.has x → (∃ s, σ k = some s ∧ s.has x) ∨ w.heap.size ≤ x
def Left (w w' : World) (B D : Nat) (σ : Nat → Option Sq) (k : Nat) (gS gT : Sq → Nat) : Prop := ∃ σ', Lt w w' B D σ σ' k gS gT
section
variable {w w' : World} {B D k : Nat} {σ σ' : Nat → Option Sq} {gS gT : Sq → Nat}
theorem Left.same (h : Dk w B D σ) (c : Nat) (hg : ∀ s, σ k = some s → gS s = s.S ∧ gT s = s.T) : Left w (w.drewN c) B D σ k gS gT :=
  ⟨σ, h.drewN c, Rl.refl hg, ⟨fun _ => False, (UF.refl w _).drewN c, fun _ h => h.elim⟩, fun t _ ht hx => .inl ⟨t, ht, hx⟩⟩
theorem Left.same' (h : Dk w B D σ) (hg : ∀ s, σ k = some s → gS s = s.S ∧ gT s = s.T) : Left w w B D σ k gS gT :=
  ⟨σ, h, Rl.refl hg, ⟨fun _ => False, UF.refl w _, fun _ h => h.elim⟩, fun t _ ht hx => .inl ⟨t, ht, hx⟩⟩
theorem Lt.below (h : Lt w w' B D σ σ' k gS gT) (hd : Dk w B D σ) : Below B w w' := by
  obtain ⟨f, h3, h4⟩ := h.uf
  exact h3.toBelow (Nat.le_trans hd.ge (Nat.le_of_lt hd.dlt)) fun x hx => (h4 x hx).1
/-- a block that is no seat's -/
theorem Lt.off (h : Lt w w' B D σ σ' k gS gT) {X : Nat} (hX : X < w.heap.size) (hn : ∀ s, σ k = some s → ¬ s.has X) : (∀ s, σ' k = some s → ¬ s.has X) ∧ (∀ o, w'.cell? ⟨X, o, none⟩ = w.cell? ⟨X, o, none⟩) ∧ X < w'.heap.size := by
  obtain ⟨f, h3, h4⟩ := h.uf
  refine ⟨fun t ht hx => ?_, fun o => ?_, Nat.lt_of_lt_of_le hX h3.size⟩
  · rcases h.ft t X ht hx with ⟨s, hs, hx'⟩ | h5
    · exact hn s hs hx'
    · omega
  · have := h3.block X hX (fun hf => by obtain ⟨_, s, hs, hx⟩ := h4 X hf; exact hn s hs hx)
    simp only [World.cell?, this]
theorem Dk.off (h : Dk w B D σ) (hk : k < 3) : ∀ s, σ k = some s → ¬ s.has w.heap.size := fun s hs hx => Nat.lt_irrefl _ ((h.ok k hk s hs).1.lt hx)
/-- the program's set is another -/
theorem Dk.leftA (h : Dk w B D σ) (hk : k < 3) {s : Sq} (hs : σ k = some s) {R : Nat} (hb : Bm w' s.p s.q s.n R) (hu : U1 w w' s.q) (hg : gS s = R ∧ gT s = s.T) : Left w w' B D σ k gS gT := by
  obtain ⟨h1, h2, h3⟩ := h.ok k hk s hs
  have huf : UF w w' s.has := hu.uf (.inr (.inl rfl))
  have hok : Sq.Ok ⟨s.p, s.q, s.p', s.q', s.n, R, s.T⟩ w' :=
    ⟨hb, h1.b.keep (hu.block _ h1.b.plt (Ne.symm h1.ap.2.2.1)) (hu.block _ h1.ql (Ne.symm h1.ap.2.2.2)), Nat.lt_of_lt_of_le h1.ql hu.size, h1.ap⟩
  refine ⟨updS σ k (some ⟨s.p, s.q, s.p', s.q', s.n, R, s.T⟩), h.turn hk hs huf rfl rfl hok (fun x hx => .inl hx), ⟨fun i hi => updS_other _ _ _ _ hi, fun h0 => (by rw [hs] at h0; cases h0), fun s' hs' => ?_⟩, ⟨s.has, huf, fun x hx => ⟨h3 x hx, s, hs, hx⟩⟩, fun t x ht hx => ?_⟩
  · rw [hs] at hs'
    injection hs' with hs'
    subst hs'
    exact ⟨_, updS_same _ _ _, rfl, rfl, rfl, hg.1.symm, hg.2.symm⟩
  · rw [updS_same] at ht
    injection ht with ht
    subst ht
    exact .inl ⟨s, hs, hx⟩
/-- the document's set is another -/
theorem Dk.leftB (h : Dk w B D σ) (hk : k < 3) {s : Sq} (hs : σ k = some s) {R q2 : Nat} (hb : Rn w' s.p' q2 s.n R) (hu : U2 w w' s.p' s.q') (hq : w.heap.size ≤ q2 ∨ q2 = s.p' ∨ q2 = s.q') (hql : q2 < w'.heap.size) (hg : gS s = s.S ∧ gT s = R) : Left w w' B D σ k gS gT := by
  obtain ⟨h1, h2, h3⟩ := h.ok k hk s hs
  have huf : UF w w' s.has := hu.uf (.inr (.inr (.inl rfl))) (.inr (.inr (.inr rfl)))
  have hpl := h1.a.plt
  have hqll := h1.a.qlt
  have hap : s.p ≠ s.p' ∧ s.p ≠ q2 ∧ s.q ≠ s.p' ∧ s.q ≠ q2 := by
    refine ⟨h1.ap.1, ?_, h1.ap.2.2.1, ?_⟩
    · rcases hq with h | h | h
      · omega
      · rw [h]; exact h1.ap.1
      · rw [h]; exact h1.ap.2.1
    · rcases hq with h | h | h
      · omega
      · rw [h]; exact h1.ap.2.2.1
      · rw [h]; exact h1.ap.2.2.2
  have hok : Sq.Ok ⟨s.p, s.q, s.p', q2, s.n, s.S, R⟩ w' :=
    ⟨h1.a.keep (hu.block _ hpl h1.ap.1 h1.ap.2.1) (hu.block _ hqll h1.ap.2.2.1 h1.ap.2.2.2), hb, hql, hap⟩
  have hft : ∀ x, Sq.has ⟨s.p, s.q, s.p', q2, s.n, s.S, R⟩ x → s.has x ∨ w.heap.size ≤ x := fun x hx => by
    rcases hx with rfl | rfl | rfl | rfl
    · exact .inl (.inl rfl)
    · exact .inl (.inr (.inl rfl))
    · exact .inl (.inr (.inr (.inl rfl)))
    · rcases hq with h | h | h
      · exact .inr h
      · exact .inl (.inr (.inr (.inl h)))
      · exact .inl (.inr (.inr (.inr h)))
  refine ⟨updS σ k (some ⟨s.p, s.q, s.p', q2, s.n, s.S, R⟩), h.turn hk hs huf rfl rfl hok hft, ⟨fun i hi => updS_other _ _ _ _ hi, fun h0 => (by rw [hs] at h0; cases h0), fun s' hs' => ?_⟩, ⟨s.has, huf, fun x hx => ⟨h3 x hx, s, hs, hx⟩⟩, fun t x ht hx => ?_⟩
  · rw [hs] at hs'
    injection hs' with hs'
    subst hs'
    exact ⟨_, updS_same _ _ _, rfl, rfl, rfl, hg.1.symm, hg.2.symm⟩
  · rw [updS_same] at ht
    injection ht with ht
    subst ht
    exact (hft x hx).imp (fun h => ⟨s, hs, h⟩) id
end
/-- the answers -/
def oneR (x : Int) : Option Sq → Int
  | none => 2
  | some s => Sp.oneE s.n x
def fillR (f b : Int) : Option Sq → Int
  | none => 2
  | some s => Sp.fillE s.n f b
def twoR : Option Sq → Option Sq → Int
  | some s, some t => if s.n = t.n then 0 else 1
  | _, _ => 2
/-- what is in behind a call with another set -/
def twoG (f : Nat → Nat → Nat) (o : Option Sq) (c : Sq → Nat) (s : Sq) : Nat :=
  match o with
  | some t => if s.n = t.n then f (c s) (c t) else c s
  | none => c s
section
variable {σ σ' : Nat → Option Sq} {k : Nat} {gS gT : Sq → Nat}
theorem Rl.one (h : Rl σ σ' k gS gT) (x : Int) : oneR x (σ' k) = oneR x (σ k) := by
  cases hs : σ k with
  | none => rw [h.no hs]
  | some s => obtain ⟨t, h1, _, _, h2, _⟩ := h.so s hs; rw [h1]; simp only [oneR, h2]
theorem Rl.fill (h : Rl σ σ' k gS gT) (x y : Int) : fillR x y (σ' k) = fillR x y (σ k) := by
  cases hs : σ k with
  | none => rw [h.no hs]
  | some s => obtain ⟨t, h1, _, _, h2, _⟩ := h.so s hs; rw [h1]; simp only [fillR, h2]
theorem Rl.nn (h : Rl σ σ' k gS gT) (i : Nat) : (σ' i).map Sq.n = (σ i).map Sq.n := by
  by_cases e : i = k
  · subst e
    cases hs : σ i with
    | none => rw [h.no hs]
    | some s => obtain ⟨t, h1, _, _, h2, _⟩ := h.so s hs; rw [h1]; simp only [Option.map, h2]
  · rw [h.ot i e]
theorem twoR_nn {a b c d : Option Sq} (h1 : a.map Sq.n = c.map Sq.n) (h2 : b.map Sq.n = d.map Sq.n) : twoR a b = twoR c d := by
  cases a <;> cases b <;> cases c <;> cases d <;> simp_all [twoR]
theorem Rl.two (h : Rl σ σ' k gS gT) (i j : Nat) : twoR (σ' i) (σ' j) = twoR (σ i) (σ j) := twoR_nn (h.nn i) (h.nn j)
end
section
variable {w : World} {B D k j : Nat} {σ : Nat → Option Sq}
theorem Rn.q2 {w' : World} {p q n S : Nat} (h : Rn w' p q n S) : ∃ q2, (q2 = p ∨ q2 = q) ∧ q2 < w'.heap.size ∧ Rn w' p q2 n S := by
  obtain ⟨q2, h1, h2, h3⟩ := h.norm
  exact ⟨q2, h1.symm, h2, h3⟩
theorem pPut (h : Dk w B D σ) (hk : k < 3) (x : Int) : Calls Tryd.prog 24 #[ownV (σ k), .int .i64 x] w fun e w' => e = .returned (.int .i64 (oneR x (σ k))) ∧ Left w w' B D σ k (fun s => Sp.putS s.n s.S x) (fun s => s.T) := by
  cases hs : σ k with
  | none =>
    refine (bPutNil x w).mono ?_
    rintro e w' ⟨rfl, rfl⟩
    exact ⟨rfl, Left.same' h fun s h0 => by rw [hs] at h0; cases h0⟩
  | some s =>
    refine (aPut (h.ok k hk s hs).1.a x).mono ?_
    rintro e w' ⟨rfl, h1, h2⟩
    exact ⟨rfl, h.leftA hk hs h1 h2 ⟨rfl, rfl⟩⟩
theorem dPut (h : Dk w B D σ) (hk : k < 3) (x : Int) : Calls Tryd.prog 44 #[refV (σ k), .int .i64 x] w fun e w' => e = .returned (.int .i64 (oneR x (σ k))) ∧ Left w w' B D σ k (fun s => s.S) (fun s => Sp.putS s.n s.T x) := by
  cases hs : σ k with
  | none =>
    refine (rPutNil x w).mono ?_
    rintro e w' ⟨rfl, rfl⟩
    exact ⟨rfl, Left.same' h fun s h0 => by rw [hs] at h0; cases h0⟩
  | some s =>
    refine (nPut (h.ok k hk s hs).1.b x).mono ?_
    rintro e w' ⟨rfl, h1, h2⟩
    obtain ⟨q2, h3, h4, h5⟩ := h1.q2
    exact ⟨rfl, h.leftB hk hs h5 h2 (.inr h3) h4 ⟨rfl, rfl⟩⟩
theorem pTake (h : Dk w B D σ) (hk : k < 3) (x : Int) : Calls Tryd.prog 25 #[ownV (σ k), .int .i64 x] w fun e w' => e = .returned (.int .i64 (oneR x (σ k))) ∧ Left w w' B D σ k (fun s => Sp.takeS s.n s.S x) (fun s => s.T) := by
  cases hs : σ k with
  | none =>
    refine (bTakeNil x w).mono ?_
    rintro e w' ⟨rfl, rfl⟩
    exact ⟨rfl, Left.same' h fun s h0 => by rw [hs] at h0; cases h0⟩
  | some s =>
    refine (aTake (h.ok k hk s hs).1.a x).mono ?_
    rintro e w' ⟨rfl, h1, h2⟩
    exact ⟨rfl, h.leftA hk hs h1 h2 ⟨rfl, rfl⟩⟩
theorem dTake (h : Dk w B D σ) (hk : k < 3) (x : Int) : Calls Tryd.prog 45 #[refV (σ k), .int .i64 x] w fun e w' => e = .returned (.int .i64 (oneR x (σ k))) ∧ Left w w' B D σ k (fun s => s.S) (fun s => Sp.takeS s.n s.T x) := by
  cases hs : σ k with
  | none =>
    refine (rTakeNil x w).mono ?_
    rintro e w' ⟨rfl, rfl⟩
    exact ⟨rfl, Left.same' h fun s h0 => by rw [hs] at h0; cases h0⟩
  | some s =>
    refine (nTake (h.ok k hk s hs).1.b x).mono ?_
    rintro e w' ⟨rfl, h1, h2⟩
    obtain ⟨q2, h3, h4, h5⟩ := h1.q2
    exact ⟨rfl, h.leftB hk hs h5 h2 (.inr h3) h4 ⟨rfl, rfl⟩⟩
theorem pFill (h : Dk w B D σ) (hk : k < 3) (x y : Int) : Calls Tryd.prog 32 #[ownV (σ k), .int .i64 x, .int .i64 y] w fun e w' => e = .returned (.int .i64 (fillR x y (σ k))) ∧ Left w w' B D σ k (fun s => Sp.fillS s.n s.S x y) (fun s => s.T) := by
  cases hs : σ k with
  | none =>
    refine (bFillNil x y w).mono ?_
    rintro e w' ⟨rfl, rfl⟩
    exact ⟨rfl, Left.same' h fun s h0 => by rw [hs] at h0; cases h0⟩
  | some s =>
    refine (aFill (h.ok k hk s hs).1.a x y).mono ?_
    rintro e w' ⟨rfl, h1, h2⟩
    exact ⟨rfl, h.leftA hk hs h1 h2 ⟨rfl, rfl⟩⟩
theorem dFill (h : Dk w B D σ) (hk : k < 3) (x y : Int) : Calls Tryd.prog 46 #[refV (σ k), .int .i64 x, .int .i64 y] w fun e w' => e = .returned (.int .i64 (fillR x y (σ k))) ∧ Left w w' B D σ k (fun s => s.S) (fun s => Sp.fillS s.n s.T x y) := by
  cases hs : σ k with
  | none =>
    refine (rFillNil x y w).mono ?_
    rintro e w' ⟨rfl, rfl⟩
    exact ⟨rfl, Left.same' h fun s h0 => by rw [hs] at h0; cases h0⟩
  | some s =>
    refine (nFill (h.ok k hk s hs).1.b x y).mono ?_
    rintro e w' ⟨rfl, h1, h2⟩
    obtain ⟨q2, h3, h4, h5⟩ := h1.q2
    exact ⟨rfl, h.leftB hk hs h5 h2 (.inr h3) h4 ⟨rfl, rfl⟩⟩
theorem pClear (h : Dk w B D σ) (hk : k < 3) : Calls Tryd.prog 26 #[ownV (σ k)] w fun e w' => e = .returned (.tuple #[]) ∧ Left w w' B D σ k (fun _ => 0) (fun s => s.T) := by
  cases hs : σ k with
  | none =>
    refine (bClearNil w).mono ?_
    rintro e w' ⟨rfl, rfl⟩
    exact ⟨rfl, Left.same' h fun s h0 => by rw [hs] at h0; cases h0⟩
  | some s =>
    refine (bClear (h.ok k hk s hs).1.a).mono ?_
    rintro e w' ⟨rfl, h1, h2⟩
    exact ⟨rfl, h.leftA hk hs h1 h2 ⟨rfl, rfl⟩⟩
theorem dClear (h : Dk w B D σ) (hk : k < 3) : Calls Tryd.prog 50 #[refV (σ k)] w fun e w' => e = .returned (.tuple #[]) ∧ Left w w' B D σ k (fun s => s.S) (fun _ => 0) := by
  cases hs : σ k with
  | none =>
    refine (rClearNil w).mono ?_
    rintro e w' ⟨rfl, rfl⟩
    exact ⟨rfl, Left.same' h fun s h0 => by rw [hs] at h0; cases h0⟩
  | some s =>
    refine (nClear (h.ok k hk s hs).1.b).mono ?_
    rintro e w' ⟨rfl, h1, h2⟩
    obtain ⟨q2, h3, h4, h5⟩ := h1.q2
    exact ⟨rfl, h.leftB hk hs h5 h2 (.inr h3) h4 ⟨rfl, rfl⟩⟩
theorem pOr (h : Dk w B D σ) (hk : k < 3) (hj : j < 3) : Calls Tryd.prog 33 #[ownV (σ k), ownV (σ j)] w fun e w' => e = .returned (.int .i64 (twoR (σ k) (σ j))) ∧ Left w w' B D σ k (twoG (· ||| ·) (σ j) Sq.S) (fun s => s.T) := by
  cases hs : σ k with
  | none =>
    have hr : ∀ o, twoR none o = 2 := fun o => by cases o <;> rfl
    rw [hr]
    cases ht : σ j with
    | none =>
      refine (bOrNone none w).mono ?_
      rintro e w' ⟨rfl, rfl⟩
      exact ⟨rfl, Left.same' h fun s h0 => by rw [hs] at h0; cases h0⟩
    | some t =>
      refine (bOrNone _ w).mono ?_
      rintro e w' ⟨rfl, rfl⟩
      exact ⟨rfl, Left.same' h fun s h0 => by rw [hs] at h0; cases h0⟩
  | some s =>
    have hks := h.ok k hk s hs
    cases ht : σ j with
    | none =>
      refine (bOrNil hks.1.a).mono ?_
      rintro e w' ⟨rfl, rfl⟩
      exact ⟨rfl, Left.same' h fun _ _ => ⟨rfl, rfl⟩⟩
    | some t =>
      have hjt := h.ok j hj t ht
      by_cases hn : s.n = t.n
      · have e1 : twoR (some s) (some t) = 0 := if_pos hn
        rw [e1]
        refine (bOr hks.1.a (hn ▸ hjt.1.a) ?_).mono ?_
        · intro hq
          by_cases e : k = j
          · subst e
            rw [hs] at ht
            injection ht with ht
            rw [ht]
          · exact absurd (.inr (.inl rfl)) (h.ap k j hk hj e s t hs ht t.q (.inr (.inl hq)))
        · rintro e w' ⟨rfl, h1, h2⟩
          exact ⟨rfl, h.leftA hk hs h1 h2 ⟨if_pos hn, rfl⟩⟩
      · have e1 : twoR (some s) (some t) = 1 := if_neg hn
        rw [e1]
        refine (bOrBad hks.1.a hjt.1.a hn).mono ?_
        rintro e w' ⟨rfl, c, rfl⟩
        refine ⟨rfl, Left.same h c fun s' h0 => ?_⟩
        rw [hs] at h0
        injection h0 with h0
        subst h0
        exact ⟨if_neg hn, rfl⟩
theorem dOr (h : Dk w B D σ) (hk : k < 3) (hj : j < 3) : Calls Tryd.prog 47 #[refV (σ k), refV (σ j)] w fun e w' => e = .returned (.int .i64 (twoR (σ k) (σ j))) ∧ Left w w' B D σ k (fun s => s.S) (twoG (· ||| ·) (σ j) Sq.T) := by
  cases hs : σ k with
  | none =>
    have hr : ∀ o, twoR none o = 2 := fun o => by cases o <;> rfl
    rw [hr]
    cases ht : σ j with
    | none =>
      refine (nOrNone none w).mono ?_
      rintro e w' ⟨rfl, rfl⟩
      exact ⟨rfl, Left.same' h fun s h0 => by rw [hs] at h0; cases h0⟩
    | some t =>
      refine (nOrNone _ w).mono ?_
      rintro e w' ⟨rfl, rfl⟩
      exact ⟨rfl, Left.same' h fun s h0 => by rw [hs] at h0; cases h0⟩
  | some s =>
    have hks := h.ok k hk s hs
    cases ht : σ j with
    | none =>
      refine (nOrNil s.p' w).mono ?_
      rintro e w' ⟨rfl, rfl⟩
      exact ⟨rfl, Left.same' h fun _ _ => ⟨rfl, rfl⟩⟩
    | some t =>
      have hjt := h.ok j hj t ht
      by_cases hn : s.n = t.n
      · have e1 : twoR (some s) (some t) = 0 := if_pos hn
        rw [e1]
        refine (nOr hks.1.b (hn ▸ hjt.1.b)).mono ?_
        rintro e w' ⟨rfl, h1, q2, h2, h3, h4⟩
        exact ⟨rfl, h.leftB hk hs h4 (h1.two' s.q') (h2.imp id .inl) h3 ⟨rfl, if_pos hn⟩⟩
      · have e1 : twoR (some s) (some t) = 1 := if_neg hn
        rw [e1]
        refine (nOrBad hks.1.b hjt.1.b hn).mono ?_
        rintro e w' ⟨rfl, c, rfl⟩
        refine ⟨rfl, Left.same h c fun s' h0 => ?_⟩
        rw [hs] at h0
        injection h0 with h0
        subst h0
        exact ⟨rfl, if_neg hn⟩
theorem pAnd (h : Dk w B D σ) (hk : k < 3) (hj : j < 3) : Calls Tryd.prog 34 #[ownV (σ k), ownV (σ j)] w fun e w' => e = .returned (.int .i64 (twoR (σ k) (σ j))) ∧ Left w w' B D σ k (twoG (· &&& ·) (σ j) Sq.S) (fun s => s.T) := by
  cases hs : σ k with
  | none =>
    have hr : ∀ o, twoR none o = 2 := fun o => by cases o <;> rfl
    rw [hr]
    cases ht : σ j with
    | none =>
      refine (bAndNone none w).mono ?_
      rintro e w' ⟨rfl, rfl⟩
      exact ⟨rfl, Left.same' h fun s h0 => by rw [hs] at h0; cases h0⟩
    | some t =>
      refine (bAndNone _ w).mono ?_
      rintro e w' ⟨rfl, rfl⟩
      exact ⟨rfl, Left.same' h fun s h0 => by rw [hs] at h0; cases h0⟩
  | some s =>
    have hks := h.ok k hk s hs
    cases ht : σ j with
    | none =>
      refine (bAndNil hks.1.a).mono ?_
      rintro e w' ⟨rfl, rfl⟩
      exact ⟨rfl, Left.same' h fun _ _ => ⟨rfl, rfl⟩⟩
    | some t =>
      have hjt := h.ok j hj t ht
      by_cases hn : s.n = t.n
      · have e1 : twoR (some s) (some t) = 0 := if_pos hn
        rw [e1]
        refine (bAnd hks.1.a (hn ▸ hjt.1.a) ?_).mono ?_
        · intro hq
          by_cases e : k = j
          · subst e
            rw [hs] at ht
            injection ht with ht
            rw [ht]
          · exact absurd (.inr (.inl rfl)) (h.ap k j hk hj e s t hs ht t.q (.inr (.inl hq)))
        · rintro e w' ⟨rfl, h1, h2⟩
          exact ⟨rfl, h.leftA hk hs h1 h2 ⟨if_pos hn, rfl⟩⟩
      · have e1 : twoR (some s) (some t) = 1 := if_neg hn
        rw [e1]
        refine (bAndBad hks.1.a hjt.1.a hn).mono ?_
        rintro e w' ⟨rfl, c, rfl⟩
        refine ⟨rfl, Left.same h c fun s' h0 => ?_⟩
        rw [hs] at h0
        injection h0 with h0
        subst h0
        exact ⟨if_neg hn, rfl⟩
theorem dAnd (h : Dk w B D σ) (hk : k < 3) (hj : j < 3) : Calls Tryd.prog 48 #[refV (σ k), refV (σ j)] w fun e w' => e = .returned (.int .i64 (twoR (σ k) (σ j))) ∧ Left w w' B D σ k (fun s => s.S) (twoG (· &&& ·) (σ j) Sq.T) := by
  cases hs : σ k with
  | none =>
    have hr : ∀ o, twoR none o = 2 := fun o => by cases o <;> rfl
    rw [hr]
    cases ht : σ j with
    | none =>
      refine (nAndNone none w).mono ?_
      rintro e w' ⟨rfl, rfl⟩
      exact ⟨rfl, Left.same' h fun s h0 => by rw [hs] at h0; cases h0⟩
    | some t =>
      refine (nAndNone _ w).mono ?_
      rintro e w' ⟨rfl, rfl⟩
      exact ⟨rfl, Left.same' h fun s h0 => by rw [hs] at h0; cases h0⟩
  | some s =>
    have hks := h.ok k hk s hs
    cases ht : σ j with
    | none =>
      refine (nAndNil s.p' w).mono ?_
      rintro e w' ⟨rfl, rfl⟩
      exact ⟨rfl, Left.same' h fun _ _ => ⟨rfl, rfl⟩⟩
    | some t =>
      have hjt := h.ok j hj t ht
      by_cases hn : s.n = t.n
      · have e1 : twoR (some s) (some t) = 0 := if_pos hn
        rw [e1]
        refine (nAnd hks.1.b (hn ▸ hjt.1.b)).mono ?_
        rintro e w' ⟨rfl, h1, q2, h2, h3, h4⟩
        exact ⟨rfl, h.leftB hk hs h4 (h1.two' s.q') (h2.imp id .inl) h3 ⟨rfl, if_pos hn⟩⟩
      · have e1 : twoR (some s) (some t) = 1 := if_neg hn
        rw [e1]
        refine (nAndBad hks.1.b hjt.1.b hn).mono ?_
        rintro e w' ⟨rfl, c, rfl⟩
        refine ⟨rfl, Left.same h c fun s' h0 => ?_⟩
        rw [hs] at h0
        injection h0 with h0
        subst h0
        exact ⟨rfl, if_neg hn⟩
theorem pMinus (h : Dk w B D σ) (hk : k < 3) (hj : j < 3) : Calls Tryd.prog 35 #[ownV (σ k), ownV (σ j)] w fun e w' => e = .returned (.int .i64 (twoR (σ k) (σ j))) ∧ Left w w' B D σ k (twoG Bit.minus (σ j) Sq.S) (fun s => s.T) := by
  cases hs : σ k with
  | none =>
    have hr : ∀ o, twoR none o = 2 := fun o => by cases o <;> rfl
    rw [hr]
    cases ht : σ j with
    | none =>
      refine (bMinusNone none w).mono ?_
      rintro e w' ⟨rfl, rfl⟩
      exact ⟨rfl, Left.same' h fun s h0 => by rw [hs] at h0; cases h0⟩
    | some t =>
      refine (bMinusNone _ w).mono ?_
      rintro e w' ⟨rfl, rfl⟩
      exact ⟨rfl, Left.same' h fun s h0 => by rw [hs] at h0; cases h0⟩
  | some s =>
    have hks := h.ok k hk s hs
    cases ht : σ j with
    | none =>
      refine (bMinusNil hks.1.a).mono ?_
      rintro e w' ⟨rfl, rfl⟩
      exact ⟨rfl, Left.same' h fun _ _ => ⟨rfl, rfl⟩⟩
    | some t =>
      have hjt := h.ok j hj t ht
      by_cases hn : s.n = t.n
      · have e1 : twoR (some s) (some t) = 0 := if_pos hn
        rw [e1]
        refine (bMinus hks.1.a (hn ▸ hjt.1.a) ?_).mono ?_
        · intro hq
          by_cases e : k = j
          · subst e
            rw [hs] at ht
            injection ht with ht
            rw [ht]
          · exact absurd (.inr (.inl rfl)) (h.ap k j hk hj e s t hs ht t.q (.inr (.inl hq)))
        · rintro e w' ⟨rfl, h1, h2⟩
          exact ⟨rfl, h.leftA hk hs h1 h2 ⟨if_pos hn, rfl⟩⟩
      · have e1 : twoR (some s) (some t) = 1 := if_neg hn
        rw [e1]
        refine (bMinusBad hks.1.a hjt.1.a hn).mono ?_
        rintro e w' ⟨rfl, c, rfl⟩
        refine ⟨rfl, Left.same h c fun s' h0 => ?_⟩
        rw [hs] at h0
        injection h0 with h0
        subst h0
        exact ⟨if_neg hn, rfl⟩
theorem dMinus (h : Dk w B D σ) (hk : k < 3) (hj : j < 3) : Calls Tryd.prog 49 #[refV (σ k), refV (σ j)] w fun e w' => e = .returned (.int .i64 (twoR (σ k) (σ j))) ∧ Left w w' B D σ k (fun s => s.S) (twoG Bit.minus (σ j) Sq.T) := by
  cases hs : σ k with
  | none =>
    have hr : ∀ o, twoR none o = 2 := fun o => by cases o <;> rfl
    rw [hr]
    cases ht : σ j with
    | none =>
      refine (nMinusNone none w).mono ?_
      rintro e w' ⟨rfl, rfl⟩
      exact ⟨rfl, Left.same' h fun s h0 => by rw [hs] at h0; cases h0⟩
    | some t =>
      refine (nMinusNone _ w).mono ?_
      rintro e w' ⟨rfl, rfl⟩
      exact ⟨rfl, Left.same' h fun s h0 => by rw [hs] at h0; cases h0⟩
  | some s =>
    have hks := h.ok k hk s hs
    cases ht : σ j with
    | none =>
      refine (nMinusNil s.p' w).mono ?_
      rintro e w' ⟨rfl, rfl⟩
      exact ⟨rfl, Left.same' h fun _ _ => ⟨rfl, rfl⟩⟩
    | some t =>
      have hjt := h.ok j hj t ht
      by_cases hn : s.n = t.n
      · have e1 : twoR (some s) (some t) = 0 := if_pos hn
        rw [e1]
        refine (nMinus hks.1.b (hn ▸ hjt.1.b)).mono ?_
        rintro e w' ⟨rfl, h1, q2, h2, h3, h4⟩
        exact ⟨rfl, h.leftB hk hs h4 (h1.two' s.q') (h2.imp id .inl) h3 ⟨rfl, if_pos hn⟩⟩
      · have e1 : twoR (some s) (some t) = 1 := if_neg hn
        rw [e1]
        refine (nMinusBad hks.1.b hjt.1.b hn).mono ?_
        rintro e w' ⟨rfl, c, rfl⟩
        refine ⟨rfl, Left.same h c fun s' h0 => ?_⟩
        rw [hs] at h0
        injection h0 with h0
        subst h0
        exact ⟨rfl, if_neg hn⟩
end
end Go.Proofs.YtloealcaagfehaaDoor
