/- A writer and two lists beside it. -/
import Derived.Test.YtpjepndeppckdaaDoorCut
namespace Go.Proofs.YtpjepndeppckdaaDoor
open Go.RowKit Go.Lib

/-- an item's cells -/
def It.cells (x : It) : List Value := [.int .i64 x.who, .int .i64 x.kind, .int .i64 x.n, .int .u64 x.v, .string x.s]
theorem cells_len (l : List It) : (l.flatMap It.cells).length = l.length * 5 := by
  induction l with
  | nil => rfl
  | cons x l ih => rw [List.flatMap_cons, List.length_append, ih, List.length_cons]; simp [It.cells]; omega
theorem cells_at {l : List It} {k : Nat} {x : It} (h : l[k]? = some x) (i : Nat) (hi : i < 5) : (l.flatMap It.cells)[k * 5 + i]? = x.cells[i]? := by
  induction l generalizing k with
  | nil => simp at h
  | cons y l ih =>
    rw [List.flatMap_cons]
    have hl : y.cells.length = 5 := rfl
    cases k with
    | zero =>
      have : y = x := by simpa using h
      subst this
      rw [List.getElem?_append_left (by omega)]
      congr 1
      omega
    | succ k =>
      rw [List.getElem?_append_right (by omega), hl, show (k + 1) * 5 + i - 5 = k * 5 + i from by omega]
      exact ih (by simpa using h)
structure St (B : Nat) (w0 w : World) (b r : Nat) (v4 v5 : Value) (bs : List UInt8) (es : List Int) (its : List It) : Prop where
  wr : Wr w b r bs
  o4 : w.ownsRow B 3 1 v4 es.length (es.map (Value.int .i64))
  o5 : w.ownsRow B 35 5 v5 its.length (its.flatMap It.cells)
  d4 : ∀ g, v4.ownBlock = some g → g ≠ b ∧ g ≠ r
  d5 : ∀ g, v5.ownBlock = some g → g ≠ b ∧ g ≠ r
  d45 : ∀ g, v4.ownBlock = some g → v5.ownBlock ≠ some g
  hb : B ≤ b
  hr : B ≤ r
  bel : Below B w0 w
variable {B : Nat} {w0 w w' : World} {b r r' : Nat} {v4 v5 v' : Value} {bs bs' : List UInt8} {es es' : List Int} {its its' : List It}
theorem St.below' (h : St B w0 w b r v4 v5 bs es its) (hw : Below w.heap.size w w') : St B w0 w' b r v4 v5 bs es its where
  wr := h.wr.below' hw
  o4 := owns_same h.o4 fun k hk => hw.block k (h.o4.lt k hk).2
  o5 := owns_same h.o5 fun k hk => hw.block k (h.o5.lt k hk).2
  d4 := h.d4
  d5 := h.d5
  d45 := h.d45
  hb := h.hb
  hr := h.hr
  bel := h.bel.trans (hw.mono (by have := h.hb; have := h.wr.1; omega))
theorem St.put (h : St B w0 w b r v4 v5 bs es its) (hp : Put w w' b r r' bs') : St B w0 w' b r' v4 v5 bs' es its where
  wr := hp.1
  o4 := owns_same h.o4 fun k hk => hp.2.2.block k (h.o4.lt k hk).2 (h.d4 k hk).1 (h.d4 k hk).2
  o5 := owns_same h.o5 fun k hk => hp.2.2.block k (h.o5.lt k hk).2 (h.d5 k hk).1 (h.d5 k hk).2
  d4 := fun k hk => ⟨(h.d4 k hk).1, by rcases hp.2.1 with e | e; rw [e]; exact (h.d4 k hk).2; have := (h.o4.lt k hk).2; omega⟩
  d5 := fun k hk => ⟨(h.d5 k hk).1, by rcases hp.2.1 with e | e; rw [e]; exact (h.d5 k hk).2; have := (h.o5.lt k hk).2; omega⟩
  d45 := h.d45
  hb := h.hb
  hr := by rcases hp.2.1 with e | e; rw [e]; exact h.hr; have := h.hb; have := h.wr.1; omega
  bel := h.bel.trans (hp.below (by have := h.hb; have := h.wr.1; omega) h.hb h.hr)
theorem St.app5 (h : St B w0 w b r v4 v5 bs es its) (hg : w.grownBy w' v5.ownBlock) (ho : w'.ownsRow B 35 5 v' its'.length (its'.flatMap It.cells)) (hn : NewRow w v5 v') : St B w0 w' b r v4 v' bs es its' where
  wr := h.wr.same hg.size (hg.block b h.wr.1 fun e => (h.d5 b e.symm).1 rfl) (hg.block r h.wr.2.1 fun e => (h.d5 r e.symm).2 rfl)
  o4 := owns_same h.o4 fun k hk => hg.block k (h.o4.lt k hk).2 fun e => h.d45 k hk e.symm
  o5 := ho
  d4 := h.d4
  d5 := fun k hk => by
    rcases hn with e | ⟨g, e, hge⟩
    · exact h.d5 k (e ▸ hk)
    · rw [e] at hk; cases hk
      have := h.wr.1; have := h.wr.2.1
      exact ⟨by omega, by omega⟩
  d45 := fun k hk e2 => by
    rcases hn with e | ⟨g, e, hge⟩
    · exact h.d45 k hk (e ▸ e2)
    · rw [e] at e2; cases e2
      have := (h.o4.lt k hk).2
      omega
  hb := h.hb
  hr := h.hr
  bel := h.bel.grown hg (by have := h.hb; have := h.wr.1; omega) fun k hk => (h.o5.lt k hk).1
theorem St.app4 (h : St B w0 w b r v4 v5 bs es its) (hg : w.grownBy w' v4.ownBlock) (ho : w'.ownsRow B 3 1 v' es'.length (es'.map (Value.int .i64))) (hn : NewRow w v4 v') : St B w0 w' b r v' v5 bs es' its where
  wr := h.wr.same hg.size (hg.block b h.wr.1 fun e => (h.d4 b e.symm).1 rfl) (hg.block r h.wr.2.1 fun e => (h.d4 r e.symm).2 rfl)
  o5 := owns_same h.o5 fun k hk => hg.block k (h.o5.lt k hk).2 fun e => h.d45 k e.symm hk
  o4 := ho
  d5 := h.d5
  d4 := fun k hk => by
    rcases hn with e | ⟨g, e, hge⟩
    · exact h.d4 k (e ▸ hk)
    · rw [e] at hk; cases hk
      have := h.wr.1; have := h.wr.2.1
      exact ⟨by omega, by omega⟩
  d45 := fun k hk e2 => by
    rcases hn with e | ⟨g, e, hge⟩
    · exact h.d45 k (e ▸ hk) e2
    · rw [e] at hk; cases hk
      have := (h.o5.lt k e2).2
      omega
  hb := h.hb
  hr := h.hr
  bel := h.bel.grown hg (by have := h.hb; have := h.wr.1; omega) fun k hk => (h.o4.lt k hk).1
/-- where each item ends -/
def ends (l : List It) : List Int := (List.range (l.length + 1)).map fun j => (((l.take j).flatMap It.form).length : Int)
theorem ends_length (l : List It) : (ends l).length = l.length + 1 := by simp [ends]
theorem ends_get (l : List It) (j : Nat) (h : j ≤ l.length) : (ends l)[j]? = some (((l.take j).flatMap It.form).length : Int) := by
  simp [ends, show j < l.length + 1 by omega]
theorem ends_snoc (l : List It) (x : It) : ends (l ++ [x]) = ends l ++ [(((l ++ [x]).flatMap It.form).length : Int)] := by
  unfold ends
  rw [List.length_append, List.length_singleton, List.range_succ, List.map_append]
  congr 1
  · apply List.map_congr_left
    intro j hj
    have hj : j ≤ l.length := by have := List.mem_range.1 hj; omega
    rw [List.take_append_of_le_length hj]
  · simp only [List.map_cons, List.map_nil]
    rw [List.take_of_length_le (by simp)]
theorem infoInt : (Tryd.prog.info? 3).map (fun i => (i.zero, i.size, i.bytes)) = some (some (.int .i64 0), 1, 8) := by kernel_rfl
theorem infoItem : (Tryd.prog.info? 35).map (fun i => (i.zero, i.size, i.bytes)) = some (some (.agg #[.int .i64 0, .int .i64 0, .int .i64 0, .int .u64 0, .string ⟨#[]⟩]), 5, 48) := by kernel_rfl
end Go.Proofs.YtpjepndeppckdaaDoor
