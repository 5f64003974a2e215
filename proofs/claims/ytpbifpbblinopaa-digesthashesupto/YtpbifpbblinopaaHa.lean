/- Three Hashes and three rows of bytes in memory. -/
import Derived.Test.YtpbifpbblinopaaOfM
import Derived.Test.YtpbifpbblinopaaOpen
import Derived.Test.YtpbifpbblinopaaEq
namespace Go.Proofs.Ytpbifpbblinopaa
open Go.RowKit

section
variable {P : Program} {ops : Array Oper} {Q : Exit → Act → World → Prop} {md : Region.Mode} {S : World → Prop}
theorem wpAnyH_take' (i : Nat) (d : Tmp) (v : Value) {oi : Oper} {fuel : Nat} {listed : Array Bool} {a : Act} {w : World} (hi : ops[i]? = some oi) (hd : oi.dst = some d)
    (hs : Region.noSelect ops = true) (hf : Region.free md ops listed i = true) (hr : (Region.ready md ops listed).contains i = true)
    (hQ : ∀ c a w, Q (.panic c) (a.put (some d) v) w → Q (.panic c) a w) (hg : Region.wanted oi (yielded ops a.tmps) = true) (hy : ∀ u, S u → (execOp a.eval oi).run P u = .ok (.value v) u) (hS : S w)
    (h : wpAnyH P md ops Q S fuel (listed.setIfInBounds i true) (a.put (some d) v) w) : wpAnyH P md ops Q S (fuel + 1) listed a w :=
  wpAnyH_take hi hs hf hr (by rw [hd]; exact hQ) (.inl ⟨hg, hy⟩) hS (by rw [hd]; exact h)
theorem wpAnyH_one {i : Nat} {o : Oper} {fuel : Nat} {listed : Array Bool} {a : Act} {w : World} (hr : Region.ready md ops listed = [i]) (ho : ops[i]? = some o) (hg : Region.wanted o (yielded ops a.tmps) = true)
    (h : ∀ K : Act → World → Prop, (∀ a w, S w → wpAnyH P md ops Q S fuel (listed.setIfInBounds i true) a w → K a w) → Oper.wp P o a w K Q) : wpAnyH P md ops Q S (fuel + 1) listed a w := by
  refine wpAnyH_all hr (by simp) fun j hj => ?_
  obtain rfl : j = i := by simpa using hj
  refine wpOp_step ho fun K hK => ?_
  rw [if_pos hg]
  exact h K fun a w hs hw => hK a w ⟨hs, hw⟩
end
theorem wp_append_to {P : Program} (w : World) {o : Oper} {a : Act} {K : Act → World → Prop} {Q : Exit → Act → World → Prop} (s x : Operand) (t tn : TypeId)
    (ho : o.op = .call { callee := .builtin .append, args := #[s, x], argTypes := #[t, tn] }) (d : Option Tmp) (hd : o.dst = d) (ty : TypeId) (hty : o.type = ty) (vs vx : Value) (hs : a.eval s = vs) (hx : a.eval x = vx)
    (v' : Value) (w' : World) (hr : (Builtin.append_ #[t, tn] ty #[vs, vx]).run P w = .ok v' w') (h : K (a.put d v') w') : o.wp P a w K Q := by
  subst hd hty
  exact Lib.wp_append_run w s x t tn ho vs vx hs hx v' w' hr h
def upd {α : Type} (f : Nat → α) (a : Nat) (x : α) (i : Nat) : α := if i = a then x else f i
theorem upd_same {α : Type} (f : Nat → α) (a : Nat) (x : α) : upd f a x a = x := by simp [upd]
theorem upd_other {α : Type} (f : Nat → α) (a : Nat) (x : α) (i : Nat) (h : i ≠ a) : upd f a x i = f i := by simp [upd, h]
/-- three Hashes as cells -/
def HP (H : Nat → Nat) : Array Value := #[.pointer (some ⟨H 0, 0, none⟩), .pointer (some ⟨H 1, 0, none⟩), .pointer (some ⟨H 2, 0, none⟩)]
def MP (M : Nat → Value) : Array Value := #[M 0, M 1, M 2]
theorem HP_at (H : Nat → Nat) (a : Nat) (ha : a < 3) : (HP H)[a]? = some (.pointer (some ⟨H a, 0, none⟩)) := by
  match a, ha with
  | 0, _ => rfl
  | 1, _ => rfl
  | 2, _ => rfl
theorem MP_at (M : Nat → Value) (a : Nat) (ha : a < 3) : (MP M)[a]? = some (M a) := by
  match a, ha with
  | 0, _ => rfl
  | 1, _ => rfl
  | 2, _ => rfl
theorem HP_set (H : Nat → Nat) (a x : Nat) (ha : a < 3) : (HP H).setIfInBounds a (.pointer (some ⟨x, 0, none⟩)) = HP (upd H a x) := by
  match a, ha with
  | 0, _ => rfl
  | 1, _ => rfl
  | 2, _ => rfl
theorem MP_set (M : Nat → Value) (a : Nat) (x : Value) (ha : a < 3) : (MP M).setIfInBounds a x = MP (upd M a x) := by
  match a, ha with
  | 0, _ => rfl
  | 1, _ => rfl
  | 2, _ => rfl
/-- a row of bytes, or none -/
def MR (w u : World) (v : Value) (l : List UInt8) : Prop := (v = .slice none 0 0 ∧ l = []) ∨ ∃ g cap, v = .slice (some ⟨g, 0, none⟩) l.length cap ∧ BR w u g cap l
theorem MR.lies {w u : World} {v : Value} {l : List UInt8} (h : MR w u v l) : ∃ ao cap, v = .slice ao l.length cap ∧ Lies u ao l := by
  rcases h with ⟨rfl, rfl⟩ | ⟨g, cap, rfl, hb⟩
  · exact ⟨none, 0, rfl, fun h0 => absurd h0 (by simp)⟩
  · exact ⟨_, cap, rfl, hb.lies⟩
structure St3 (w u : World) (bh bm : Nat) (H : Nat → Nat) (M : Nat → Value) (lh lm : Nat → List UInt8) : Prop where
  rh : u.heap[bh]? = some (.cells (HP H) 43 (0, 0))
  rm : u.heap[bm]? = some (.cells (MP M) 44 (0, 0))
  hs : ∀ i, i < 3 → Hs u (H i) (lh i)
  ms : ∀ i, i < 3 → MR w u (M i) (lm i)
  bne : bh ≠ bm
  bhge : w.heap.size ≤ bh
  bmge : w.heap.size ≤ bm
  hge : ∀ i, i < 3 → w.heap.size ≤ H i
  hb : ∀ i, i < 3 → H i ≠ bh ∧ H i ≠ bm
  hh : ∀ i j, i < 3 → j < 3 → i ≠ j → H i ≠ H j
  mo : ∀ i, i < 3 → ∀ g, (M i).ownBlock = some g → g ≠ bh ∧ g ≠ bm ∧ ∀ j, j < 3 → g ≠ H j
  mm : ∀ i j, i < 3 → j < 3 → i ≠ j → ∀ g, (M i).ownBlock = some g → (M j).ownBlock ≠ some g
  bel : Below w.heap.size w u
variable {w u u' : World} {bh bm : Nat} {H : Nat → Nat} {M : Nat → Value} {lh lm : Nat → List UInt8}
theorem St3.bhlt (k : St3 w u bh bm H M lh lm) : bh < u.heap.size := (Array.getElem?_eq_some_iff.1 k.rh).1
theorem St3.bmlt (k : St3 w u bh bm H M lh lm) : bm < u.heap.size := (Array.getElem?_eq_some_iff.1 k.rm).1
theorem MR.keep {v : Value} {l : List UInt8} (h : MR w u v l) (hb : Below w.heap.size w u') (e : ∀ g, v.ownBlock = some g → u'.heap[g]? = u.heap[g]?) : MR w u' v l := by
  rcases h with h | ⟨g, cap, rfl, hbr⟩
  · exact .inl h
  · exact .inr ⟨g, cap, rfl, hbr.keep (e g rfl) hb⟩
theorem MR.lt {v : Value} {l : List UInt8} {g : Nat} (h : MR w u v l) (hg : v.ownBlock = some g) : g < u.heap.size := by
  rcases h with ⟨rfl, _⟩ | ⟨g', cap, rfl, hbr⟩
  · cases hg
  · cases hg; exact hbr.lt
/-- what changes none of the blocks -/
theorem St3.keep (k : St3 w u bh bm H M lh lm) (hb : Below w.heap.size w u') (e : ∀ q, q < u.heap.size → (q = bh ∨ q = bm ∨ (∃ i, i < 3 ∧ q = H i) ∨ ∃ i, i < 3 ∧ (M i).ownBlock = some q) → u'.heap[q]? = u.heap[q]?) : St3 w u' bh bm H M lh lm :=
  ⟨(e bh k.bhlt (.inl rfl)).trans k.rh, (e bm k.bmlt (.inr (.inl rfl))).trans k.rm, fun i hi => (k.hs i hi).keep (e _ (k.hs i hi).lt (.inr (.inr (.inl ⟨i, hi, rfl⟩)))),
    fun i hi => (k.ms i hi).keep hb fun g hg => e g ((k.ms i hi).lt hg) (.inr (.inr (.inr ⟨i, hi, hg⟩))), k.bne, k.bhge, k.bmge, k.hge, k.hb, k.hh, k.mo, k.mm, hb⟩
theorem St3.below (k : St3 w u bh bm H M lh lm) (hb : Below u.heap.size u u') : St3 w u' bh bm H M lh lm := k.keep (k.bel.trans (hb.mono k.bel.size)) fun q hq _ => hb.block q hq
theorem St3.drew (k : St3 w u bh bm H M lh lm) : St3 w u.drew bh bm H M lh lm := k.keep ⟨k.bel.os, k.bel.tape, k.bel.output, k.bel.size, k.bel.block⟩ fun _ _ _ => rfl
/-- what is done to another block -/
theorem St3.other (k : St3 w u bh bm H M lh lm) {x : Nat} (hu : U1 u u' x) (hx : u.heap.size ≤ x ∨ (w.heap.size ≤ x ∧ x ≠ bh ∧ x ≠ bm ∧ (∀ i, i < 3 → x ≠ H i) ∧ ∀ i, i < 3 → (M i).ownBlock ≠ some x)) : St3 w u' bh bm H M lh lm := by
  have hxge : w.heap.size ≤ x := by
    rcases hx with h | h
    · exact Nat.le_trans k.bel.size h
    · exact h.1
  refine k.keep (k.bel.trans (hu.toBelow k.bel.size hxge)) fun q hq hc => hu.block q hq ?_
  intro e
  subst e
  rcases hx with h | ⟨_, h1, h2, h3, h4⟩
  · omega
  · rcases hc with rfl | rfl | ⟨i, hi, rfl⟩ | ⟨i, hi, he⟩
    · exact h1 rfl
    · exact h2 rfl
    · exact h3 i hi rfl
    · exact h4 i hi he
/-- a Hash is written to -/
theorem St3.hash (k : St3 w u bh bm H M lh lm) (a : Nat) (ha : a < 3) (hu : U1 u u' (H a)) (p : List UInt8) (hn : Hs u' (H a) p) : St3 w u' bh bm H M (upd lh a p) lm := by
  have hbel := k.bel.trans (hu.toBelow k.bel.size (k.hge a ha))
  have hbl := k.hb a ha
  refine ⟨(hu.block bh k.bhlt (Ne.symm hbl.1)).trans k.rh, (hu.block bm k.bmlt (Ne.symm hbl.2)).trans k.rm, fun i hi => ?_, fun i hi => (k.ms i hi).keep hbel fun g hg => hu.block g ((k.ms i hi).lt hg) ((k.mo i hi g hg).2.2 a ha), k.bne, k.bhge, k.bmge, k.hge, k.hb, k.hh, k.mo, k.mm, hbel⟩
  by_cases e : i = a
  · subst e; rw [upd_same]; exact hn
  · rw [upd_other _ _ _ _ e]; exact (k.hs i hi).keep (hu.block _ (k.hs i hi).lt (k.hh i a hi ha e))
/-- a Hash is put in a place -/
theorem St3.place (k : St3 w u bh bm H M lh lm) (a x : Nat) (ha : a < 3) (l : List UInt8) (hx : Hs u x l) (h1 : w.heap.size ≤ x) (h2 : x ≠ bh) (h3 : x ≠ bm) (h4 : ∀ i, i < 3 → x ≠ H i) (h5 : ∀ i, i < 3 → (M i).ownBlock ≠ some x) :
    St3 w (u.setCell ⟨bh, a, none⟩ (.pointer (some ⟨x, 0, none⟩))) bh bm (upd H a x) M (upd lh a l) lm := by
  have ho : ∀ q, q ≠ bh → (u.setCell ⟨bh, a, none⟩ (.pointer (some ⟨x, 0, none⟩))).heap[q]? = u.heap[q]? := fun q hq => Deep.blk_setCell_other _ _ _ _ hq
  have hbel : Below w.heap.size w (u.setCell ⟨bh, a, none⟩ (.pointer (some ⟨x, 0, none⟩))) := belowCell k.bel k.bhge _
  refine ⟨by rw [← HP_set H a x ha]; exact heapCell_same k.rh _ _, (ho bm (Ne.symm k.bne)).trans k.rm, fun i hi => ?_, fun i hi => (k.ms i hi).keep hbel fun g hg => ho g (k.mo i hi g hg).1, k.bne, k.bhge, k.bmge, fun i hi => ?_, fun i hi => ?_, fun i j hi hj hij => ?_, fun i hi g hg => ⟨(k.mo i hi g hg).1, (k.mo i hi g hg).2.1, fun j hj => ?_⟩, k.mm, hbel⟩
  · by_cases e : i = a
    · subst e; rw [upd_same, upd_same]; exact hx.keep (ho x h2)
    · rw [upd_other _ _ _ _ e, upd_other _ _ _ _ e]; exact (k.hs i hi).keep (ho _ (k.hb i hi).1)
  · by_cases e : i = a
    · subst e; rw [upd_same]; exact h1
    · rw [upd_other _ _ _ _ e]; exact k.hge i hi
  · by_cases e : i = a
    · subst e; rw [upd_same]; exact ⟨h2, h3⟩
    · rw [upd_other _ _ _ _ e]; exact k.hb i hi
  · by_cases e : i = a
    · subst e; rw [upd_same, upd_other _ _ _ _ (Ne.symm hij)]; exact h4 j hj
    · by_cases e2 : j = a
      · subst e2; rw [upd_same, upd_other _ _ _ _ e]; exact Ne.symm (h4 i hi)
      · rw [upd_other _ _ _ _ e, upd_other _ _ _ _ e2]; exact k.hh i j hi hj hij
  · by_cases e : j = a
    · subst e; rw [upd_same]; intro e2; exact h5 i hi (by rw [hg, e2])
    · rw [upd_other _ _ _ _ e]; exact (k.mo i hi g hg).2.2 j hj
/-- a row is put in a place -/
theorem St3.row (k : St3 w u bh bm H M lh lm) (a : Nat) (ha : a < 3) (v : Value) (l : List UInt8) (hv : MR w u v l) (h1 : ∀ g, v.ownBlock = some g → g ≠ bh ∧ g ≠ bm ∧ (∀ j, j < 3 → g ≠ H j) ∧ ∀ j, j < 3 → j ≠ a → (M j).ownBlock ≠ some g) :
    St3 w (u.setCell ⟨bm, a, none⟩ v) bh bm H (upd M a v) lh (upd lm a l) := by
  have ho : ∀ q, q ≠ bm → (u.setCell ⟨bm, a, none⟩ v).heap[q]? = u.heap[q]? := fun q hq => Deep.blk_setCell_other _ _ _ _ hq
  have hbel : Below w.heap.size w (u.setCell ⟨bm, a, none⟩ v) := belowCell k.bel k.bmge _
  refine ⟨(ho bh k.bne).trans k.rh, by rw [← MP_set M a v ha]; exact heapCell_same k.rm _ _, fun i hi => (k.hs i hi).keep (ho _ (k.hb i hi).2), fun i hi => ?_, k.bne, k.bhge, k.bmge, k.hge, k.hb, k.hh, fun i hi g hg => ?_, fun i j hi hj hij g hg => ?_, hbel⟩
  · by_cases e : i = a
    · subst e; rw [upd_same, upd_same]; exact hv.keep hbel fun g hg => ho g (h1 g hg).2.1
    · rw [upd_other _ _ _ _ e, upd_other _ _ _ _ e]; exact (k.ms i hi).keep hbel fun g hg => ho g (k.mo i hi g hg).2.1
  · by_cases e : i = a
    · subst e; rw [upd_same] at hg; exact ⟨(h1 g hg).1, (h1 g hg).2.1, (h1 g hg).2.2.1⟩
    · rw [upd_other _ _ _ _ e] at hg; exact k.mo i hi g hg
  · by_cases e : i = a
    · subst e; rw [upd_same] at hg; rw [upd_other _ _ _ _ (Ne.symm hij)]; exact (h1 g hg).2.2.2 j hj (Ne.symm hij)
    · rw [upd_other _ _ _ _ e] at hg
      by_cases e2 : j = a
      · subst e2; rw [upd_same]; intro e3; exact (h1 g e3).2.2.2 i hi hij hg
      · rw [upd_other _ _ _ _ e2]; exact k.mm i j hi hj hij g hg
theorem St3.hcell (k : St3 w u bh bm H M lh lm) (a : Nat) (ha : a < 3) : u.cell? ⟨bh, a, none⟩ = some (.pointer (some ⟨H a, 0, none⟩)) ∧ u.frozen? ⟨bh, a, none⟩ = false :=
  ⟨by simp only [World.cell?, k.rh]; exact HP_at H a ha, by simp [World.frozen?, k.rh]⟩
theorem St3.mcell (k : St3 w u bh bm H M lh lm) (a : Nat) (ha : a < 3) : u.cell? ⟨bm, a, none⟩ = some (M a) ∧ u.frozen? ⟨bm, a, none⟩ = false :=
  ⟨by simp only [World.cell?, k.rm]; exact MP_at M a ha, by simp [World.frozen?, k.rm]⟩
/-- append onto a row, or onto none -/
theorem MR.put {v : Value} {l : List UInt8} (h : MR w u v l) (hw : w.heap.size ≤ u.heap.size) (hbel : Below w.heap.size w u) (ty : TypeId) (ao : Option Addr) (c : Nat) (q : List UInt8) (hsrc : Lies u ao q) (hby : l.length + q.length ≤ 140737488355328) :
    ∃ v' u', (Builtin.append_ #[24, 24] ty #[v, .slice ao q.length c]).run Try.prog u = .ok v' u' ∧ MR w u' v' (l ++ q) ∧ (∃ x, U1 u u' x ∧ (u.heap.size ≤ x ∨ v.ownBlock = some x)) ∧ ∀ g, v'.ownBlock = some g → v.ownBlock = some g ∨ u.heap.size ≤ g := by
  rcases h with ⟨rfl, rfl⟩ | ⟨g, cap, rfl, hbr⟩
  · by_cases h0 : 0 < q.length
    · obtain ⟨gs, o, rfl, h2, h3⟩ := hsrc h0
      obtain ⟨i0, hi, hz0, hz1, hz2⟩ := info_parts infoU8
      obtain ⟨v', u', hr, ho, hgr, _⟩ := run_append_own' (P := Try.prog) u u.heap.size 24 ty 5 i0 (.int .u8 0) 1 1 Try.underlying24 hi hz0 hz1 hz2 rfl (by decide) (.slice none 0 0) 0 [] ⟨rfl, .inl ⟨rfl, rfl⟩⟩ ⟨gs, o, none⟩ q.length c (Lib.byteCells q) (by rw [byteCells_len, Nat.mul_one])
        (fun j x hx => by
          have hj : j < q.length := by have := (List.getElem?_eq_some_iff.1 hx).1; rwa [byteCells_len] at this
          rw [byteCells_at q j hj] at hx
          rw [Addr.add_mid, h3 j hj, hx]) (byteCells_one q) (by simp only [maxLen]; simp at hby; omega) (by simp at hby; omega) (Nat.le_refl _)
      obtain ⟨g1, g2, g3, g4, g5⟩ := hgr
      have hb : Below u.heap.size u u' := ⟨g1, g2, g3, g4, fun k hk => g5 k hk (by simp [Value.ownBlock])⟩
      rw [Nat.zero_add, List.nil_append] at ho
      obtain ⟨g', cap', rfl, hge, hbr⟩ := BR.own (w := w) ho rfl h0 hw (hbel.trans (hb.mono hw))
      exact ⟨_, u', hr, .inr ⟨g', cap', rfl, by simpa using hbr⟩, ⟨u.heap.size, U1.below' hb, .inl (Nat.le_refl _)⟩, fun g hg => by cases hg; exact .inr hge⟩
    · obtain rfl : q = [] := List.eq_nil_of_length_eq_zero (by omega)
      refine ⟨.slice none 0 0, u, ?_, .inl ⟨rfl, rfl⟩, ⟨u.heap.size, U1.refl _ _, .inl (Nat.le_refl _)⟩, fun g hg => by cases hg⟩
      obtain ⟨i0, hi, hz0, hz1, hz2⟩ := info_parts infoU8
      cases ao with
      | none => simp [Builtin.append_, run_underlying Try.underlying24, sizeOf, typeInfo, hi, Builtin.lenOf, Builtin.firstCells]
      | some a => simp [Builtin.append_, run_underlying Try.underlying24, sizeOf, typeInfo, hi, Builtin.lenOf, Builtin.firstCells, loadCells, loadCellsFrom]
  · obtain ⟨g', cap', u', hr, hbr', hu, hor⟩ := hbr.put ty ao c q.length q rfl hsrc hby
    refine ⟨_, u', hr, .inr ⟨g', cap', by rw [List.length_append], hbr'⟩, ⟨g, hu, .inr rfl⟩, fun x hx => ?_⟩
    cases hx
    rcases hor with rfl | h
    · exact .inl rfl
    · exact .inr h
/-- a row grows, and is put in its place -/
theorem St3.append (k : St3 w u bh bm H M lh lm) (a : Nat) (ha : a < 3) (v' : Value) (l : List UInt8) (hv : MR w u' v' l) {x : Nat} (hu : U1 u u' x) (hx : u.heap.size ≤ x ∨ (M a).ownBlock = some x) (ho' : ∀ g, v'.ownBlock = some g → (M a).ownBlock = some g ∨ u.heap.size ≤ g) :
    St3 w (u'.setCell ⟨bm, a, none⟩ v') bh bm H (upd M a v') lh (upd lm a l) ∧ (∃ c, u'.cell? ⟨bm, a, none⟩ = some c) ∧ u'.frozen? ⟨bm, a, none⟩ = false := by
  have hxge : w.heap.size ≤ x := by
    rcases hx with h | h
    · exact Nat.le_trans k.bel.size h
    · rcases k.ms a ha with ⟨e, _⟩ | ⟨g, cap, e, hbr⟩
      · rw [e] at h; cases h
      · rw [e] at h; cases h; exact hbr.ge
  have hbel' : Below w.heap.size w u' := k.bel.trans (hu.toBelow k.bel.size hxge)
  have ne : ∀ q, q < u.heap.size → (q = bh ∨ q = bm ∨ (∃ i, i < 3 ∧ q = H i) ∨ ∃ i, i < 3 ∧ i ≠ a ∧ (M i).ownBlock = some q) → q ≠ x := by
    intro q hq hc e
    subst e
    rcases hx with h | h
    · omega
    · rcases hc with rfl | rfl | ⟨i, hi, rfl⟩ | ⟨i, hi, hia, he⟩
      · exact (k.mo a ha _ h).1 rfl
      · exact (k.mo a ha _ h).2.1 rfl
      · exact (k.mo a ha _ h).2.2 i hi rfl
      · exact k.mm i a hi ha hia _ he h
  have hrm : u'.heap[bm]? = some (.cells (MP M) 44 (0, 0)) := (hu.block bm k.bmlt (ne bm k.bmlt (.inr (.inl rfl)))).trans k.rm
  have ho : ∀ q, q ≠ bm → (u'.setCell ⟨bm, a, none⟩ v').heap[q]? = u'.heap[q]? := fun q hq => Deep.blk_setCell_other _ _ _ _ hq
  have hbel : Below w.heap.size w (u'.setCell ⟨bm, a, none⟩ v') := belowCell hbel' k.bmge _
  have hfar : ∀ g, v'.ownBlock = some g → g ≠ bh ∧ g ≠ bm ∧ (∀ j, j < 3 → g ≠ H j) ∧ ∀ j, j < 3 → j ≠ a → (M j).ownBlock ≠ some g := by
    intro g hg
    rcases ho' g hg with h | h
    · exact ⟨(k.mo a ha g h).1, (k.mo a ha g h).2.1, (k.mo a ha g h).2.2, fun j hj hja => k.mm a j ha hj (Ne.symm hja) g h⟩
    · exact ⟨by have := k.bhlt; omega, by have := k.bmlt; omega, fun j hj => by have := (k.hs j hj).lt; omega, fun j hj _ e => by have := (k.ms j hj).lt e; omega⟩
  refine ⟨⟨(ho bh k.bne).trans ((hu.block bh k.bhlt (ne bh k.bhlt (.inl rfl))).trans k.rh), by rw [← MP_set M a v' ha]; exact heapCell_same hrm _ _, fun i hi => ?_, fun i hi => ?_, k.bne, k.bhge, k.bmge, k.hge, k.hb, k.hh, fun i hi g hg => ?_, fun i j hi hj hij g hg => ?_, hbel⟩, ⟨M a, by simp only [World.cell?, hrm]; exact MP_at M a ha⟩, by simp [World.frozen?, hrm]⟩
  · exact ((k.hs i hi).keep (hu.block _ (k.hs i hi).lt (ne _ (k.hs i hi).lt (.inr (.inr (.inl ⟨i, hi, rfl⟩)))))).keep (ho _ (k.hb i hi).2)
  · by_cases e : i = a
    · subst e; rw [upd_same, upd_same]; exact hv.keep hbel fun g hg => ho g (hfar g hg).2.1
    · rw [upd_other _ _ _ _ e, upd_other _ _ _ _ e]
      exact (k.ms i hi).keep hbel fun g hg => (ho g (k.mo i hi g hg).2.1).trans (hu.block g ((k.ms i hi).lt hg) (ne g ((k.ms i hi).lt hg) (.inr (.inr (.inr ⟨i, hi, e, hg⟩)))))
  · by_cases e : i = a
    · subst e; rw [upd_same] at hg; exact ⟨(hfar g hg).1, (hfar g hg).2.1, (hfar g hg).2.2.1⟩
    · rw [upd_other _ _ _ _ e] at hg; exact k.mo i hi g hg
  · by_cases e : i = a
    · subst e; rw [upd_same] at hg; rw [upd_other _ _ _ _ (Ne.symm hij)]; exact (hfar g hg).2.2.2 j hj (Ne.symm hij)
    · rw [upd_other _ _ _ _ e] at hg
      by_cases e2 : j = a
      · subst e2; rw [upd_same]; intro e3; exact (hfar g e3).2.2.2 i hi hij hg
      · rw [upd_other _ _ _ _ e2]; exact k.mm i j hi hj hij g hg
theorem BR.base {w W3 u : World} {g c : Nat} {bs : List UInt8} (h : BR W3 u g c bs) (hw : w.heap.size ≤ W3.heap.size) (hb : Below w.heap.size w u) : BR w u g c bs := ⟨h.row, Nat.le_trans hw h.ge, h.le, h.max, hb⟩
end Go.Proofs.Ytpbifpbblinopaa
