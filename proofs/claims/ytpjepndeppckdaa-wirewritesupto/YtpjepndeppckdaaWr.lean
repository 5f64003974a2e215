/- A writer in memory: its cell, its row of bytes; what a call that puts bytes leaves alone. -/
import Derived.Test.YtpjepndeppckdaaBase
import Derived.Test.YtpjepndeppckdaaOwn
namespace Go.Proofs.Ytpjepndeppckdaa
open Go.RowKit Go.Lib

/-- bytes as cells -/
def Bs (bs : List UInt8) : List Value := bs.map fun b => .int .u8 b.toNat
theorem Bs_append (a b : List UInt8) : Bs (a ++ b) = Bs a ++ Bs b := by simp [Bs]
theorem Bs_length (a : List UInt8) : (Bs a).length = a.length := by simp [Bs]

/-- a writer at block a holds these bytes, in the row r (or in none) -/
def Wr (w : World) (a r : Nat) (bs : List UInt8) : Prop :=
  a < w.heap.size ∧ r < w.heap.size ∧ bs.length ≤ 140737488355328 ∧ ∃ v, w.cell? ⟨a, 0, none⟩ = some v ∧ w.frozen? ⟨a, 0, none⟩ = false ∧ w.ownsRow (a + 1) 5 1 v bs.length (Bs bs) ∧ (v.ownBlock = none ∨ v.ownBlock = some r)
/-- what is done to the blocks a and r, and to new ones, alone -/
structure Upd (w w' : World) (a r : Nat) : Prop where
  os : w'.os = w.os
  tape : w'.tape = w.tape
  output : w'.output = w.output
  size : w.heap.size ≤ w'.heap.size
  block : ∀ k, k < w.heap.size → k ≠ a → k ≠ r → w'.heap[k]? = w.heap[k]?
theorem Upd.refl (w : World) (a r : Nat) : Upd w w a r := ⟨rfl, rfl, rfl, Nat.le_refl _, fun _ _ _ _ => rfl⟩
theorem Upd.trans {w w1 w2 : World} {a r r1 : Nat} (h : Upd w w1 a r) (k : Upd w1 w2 a r1) (hr : r1 = r ∨ w.heap.size ≤ r1) : Upd w w2 a r :=
  ⟨k.os.trans h.os, k.tape.trans h.tape, k.output.trans h.output, Nat.le_trans h.size k.size, fun i hi h1 h2 => by
    rw [k.block i (Nat.lt_of_lt_of_le hi h.size) h1 (by rcases hr with rfl | hr; exact h2; omega), h.block i hi h1 h2]⟩
theorem Upd.cell {w w' : World} {a r : Nat} (h : Upd w w' a r) {p : Addr} (hp : p.block < w.heap.size) (h1 : p.block ≠ a) (h2 : p.block ≠ r) : w'.cell? p = w.cell? p :=
  World.cell?_of_block (w := w) (h.block p.block hp h1 h2)
theorem Upd.frozen {w w' : World} {a r : Nat} (h : Upd w w' a r) {p : Addr} (hp : p.block < w.heap.size) (h1 : p.block ≠ a) (h2 : p.block ≠ r) : w'.frozen? p = w.frozen? p :=
  World.frozen?_of_block (w := w) (h.block p.block hp h1 h2)
theorem Upd.below {w w' : World} {a r B : Nat} (h : Upd w w' a r) (hB : B ≤ w.heap.size) (ha : B ≤ a) (hr : B ≤ r) : Below B w w' :=
  ⟨h.os, h.tape, h.output, h.size, fun k hk => h.block k (by omega) (by omega) (by omega)⟩
/-- the row does not turn where its block does not -/
theorem owns_same {w w' : World} {base : Nat} {e : TypeId} {size : Nat} {v : Value} {n : Nat} {xs : List Value} (h : w.ownsRow base e size v n xs) (hb : ∀ k, v.ownBlock = some k → w'.heap[k]? = w.heap[k]?) : w'.ownsRow base e size v n xs := by
  refine ⟨h.1, ?_⟩
  rcases h.2 with h | ⟨g, cap, cur, rfl, h1, h2, h3⟩
  · exact .inl h
  · exact .inr ⟨g, cap, cur, rfl, h1, by rw [hb g rfl]; exact h2, h3⟩
theorem Wr.same {w w' : World} {a r : Nat} {bs : List UInt8} (h : Wr w a r bs) (hs : w.heap.size ≤ w'.heap.size) (ha : w'.heap[a]? = w.heap[a]?) (hr : w'.heap[r]? = w.heap[r]?) : Wr w' a r bs := by
  obtain ⟨h1, h2, h3, v, h4, h5, h6, h7⟩ := h
  refine ⟨by omega, by omega, h3, v, ?_, ?_, owns_same h6 ?_, h7⟩
  · rw [World.cell?_of_block (w := w) (a := ⟨a, 0, none⟩) ha]; exact h4
  · rw [World.frozen?_of_block (w := w) (a := ⟨a, 0, none⟩) ha]; exact h5
  · intro k hk
    rcases h7 with h7 | h7
    · rw [h7] at hk; cases hk
    · rw [h7] at hk; cases hk; exact hr
theorem Wr.upd {w w' : World} {a r a' r' : Nat} {bs : List UInt8} (h : Wr w a r bs) (u : Upd w w' a' r') (h1 : a ≠ a') (h2 : a ≠ r') (h3 : r ≠ a') (h4 : r ≠ r') : Wr w' a r bs :=
  h.same u.size (u.block a h.1 h1 h2) (u.block r h.2.1 h3 h4)
theorem Wr.alloc {w : World} {a r : Nat} {bs : List UInt8} (h : Wr w a r bs) (o : Obj) : Wr (w.alloc o) a r bs :=
  h.same (by simp) (Below.heap_alloc w o a h.1) (Below.heap_alloc w o r h.2.1)
theorem Upd.alloc {w w' : World} {a r : Nat} (h : Upd w w' a r) (o : Obj) : Upd w (w'.alloc o) a r :=
  ⟨h.os, h.tape, h.output, by have := h.size; simp; omega, fun k hk h1 h2 => by rw [Below.heap_alloc w' o k (by have := h.size; omega)]; exact h.block k hk h1 h2⟩
theorem Upd.alloc' {w w' : World} {a r : Nat} {o : Obj} (h : Upd (w.alloc o) w' a r) : Upd w w' a r :=
  ⟨h.os, h.tape, h.output, by have := h.size; simp at this; omega, fun k hk h1 h2 => by rw [h.block k (by simp; omega) h1 h2]; exact Below.heap_alloc w o k hk⟩
theorem Upd.drew {w w' : World} {a r : Nat} (h : Upd w w' a r) : Upd w w'.drew a r := ⟨h.os, h.tape, h.output, h.size, h.block⟩

/-- what a call leaves that puts bytes into a writer -/
def Put (w w' : World) (a r r' : Nat) (bs : List UInt8) : Prop := Wr w' a r' bs ∧ (r' = r ∨ w.heap.size ≤ r') ∧ Upd w w' a r
theorem Put.refl {w : World} {a r : Nat} {bs : List UInt8} (h : Wr w a r bs) : Put w w a r r bs := ⟨h, .inl rfl, Upd.refl _ _ _⟩
theorem Put.trans {w w1 w2 : World} {a r r1 r2 : Nat} {b1 b2 : List UInt8} (h : Put w w1 a r r1 b1) (k : Put w1 w2 a r1 r2 b2) : Put w w2 a r r2 b2 :=
  ⟨k.1, by rcases k.2.1 with e | e; · subst e; exact h.2.1
           · right; have := h.2.2.size; omega, h.2.2.trans k.2.2 h.2.1⟩
theorem Put.alloc' {w w' : World} {a r r' : Nat} {bs : List UInt8} {o : Obj} (h : Put (w.alloc o) w' a r r' bs) : Put w w' a r r' bs :=
  ⟨h.1, by rcases h.2.1 with e | e; exact .inl e; right; simp at e; omega, h.2.2.alloc'⟩

theorem info5 : (Try.prog.info? 5).map (fun i => (i.zero, i.size, i.bytes)) = some (some (.int .u8 0), 1, 1) := by kernel_rfl

/-- the store of the new row's value into the writer's cell -/
theorem put_of {w w1 : World} {a r : Nat} {bs news : List UInt8} {v v' : Value} (h : Wr w a r bs) (hc : w.cell? ⟨a, 0, none⟩ = some v) (hn : (bs ++ news).length ≤ 140737488355328)
    (hown : w1.ownsRow (a + 1) 5 1 v' (bs ++ news).length (Bs (bs ++ news))) (hg : w.grownBy w1 v.ownBlock) (hrow : NewRow w v v') : ∃ r', Put w (w1.setCell ⟨a, 0, none⟩ v') a r r' (bs ++ news) := by
  obtain ⟨h1, h2, h3, v0, h4, h5, h6, h7⟩ := h
  obtain rfl : v0 = v := by rw [h4] at hc; exact Option.some.inj hc
  have hne : ∀ k, v0.ownBlock = some k → k ≠ a := fun k hk => by have := (h6.lt k hk).1; omega
  have ha1 : w1.heap[a]? = w.heap[a]? := hg.block a h1 (fun h => hne a h.symm rfl)
  have hcell : w1.cell? ⟨a, 0, none⟩ = some v0 := by rw [World.cell?_of_block (w := w) (a := ⟨a, 0, none⟩) ha1]; exact h4
  have hfr : w1.frozen? ⟨a, 0, none⟩ = false := by rw [World.frozen?_of_block (w := w) (a := ⟨a, 0, none⟩) ha1]; exact h5
  have hs := hg.size
  have upd : Upd w (w1.setCell ⟨a, 0, none⟩ v') a r := ⟨hg.os, hg.tape, hg.output, by simp; exact hs, fun k hk k1 k2 => by
    rw [Below.heap_setCell w1 ⟨a, 0, none⟩ v' k k1]
    refine hg.block k hk fun e => ?_
    rcases h7 with h7 | h7
    · rw [h7] at e; cases e
    · rw [h7] at e; cases e; exact k2 rfl⟩
  have own' : (w1.setCell ⟨a, 0, none⟩ v').ownsRow (a + 1) 5 1 v' (bs ++ news).length (Bs (bs ++ news)) := owns_same hown fun k hk => Below.heap_setCell w1 ⟨a, 0, none⟩ v' k (by have := (hown.lt k hk).1; show k ≠ a; omega)
  have mk : ∀ r', r' < w1.heap.size → (v'.ownBlock = none ∨ v'.ownBlock = some r') → Wr (w1.setCell ⟨a, 0, none⟩ v') a r' (bs ++ news) := fun r' hr' hv =>
    ⟨by simp; omega, by simpa using hr', hn, v', World.cell?_setCell_same _ _ _ hcell, by simpa using hfr, own', hv⟩
  rcases hrow with e | ⟨g, e, hge⟩
  · exact ⟨r, mk r (by omega) (by rw [e]; exact h7), .inl rfl, upd⟩
  · exact ⟨g, mk g (hown.lt g e).2 (.inr e), .inr hge, upd⟩

theorem Wr.cellAt {w : World} {a r : Nat} {bs : List UInt8} (h : Wr w a r bs) : ∃ v, w.cell? ⟨a, 0, none⟩ = some v ∧ w.frozen? ⟨a, 0, none⟩ = false ∧ w.ownsRow (a + 1) 5 1 v bs.length (Bs bs) ∧ (∃ ao cap, v = .slice ao bs.length cap) := by
  obtain ⟨h1, h2, h3, v, h4, h5, h6, h7⟩ := h
  refine ⟨v, h4, h5, h6, ?_⟩
  rcases h6.2 with ⟨e, hn⟩ | ⟨g, cap, cur, e, _⟩
  · exact ⟨none, 0, by rw [e, hn]⟩
  · exact ⟨_, _, e⟩
/-- the writer's cell behind an append -/
theorem Wr.cellGrown {w w1 : World} {a r : Nat} {bs : List UInt8} {v : Value} (h : Wr w a r bs) (hc : w.cell? ⟨a, 0, none⟩ = some v) (hg : w.grownBy w1 v.ownBlock) : w1.cell? ⟨a, 0, none⟩ = some v ∧ w1.frozen? ⟨a, 0, none⟩ = false := by
  obtain ⟨h1, h2, h3, v0, h4, h5, h6, h7⟩ := h
  obtain rfl : v0 = v := by rw [h4] at hc; exact Option.some.inj hc
  have hne : ∀ k, v0.ownBlock = some k → k ≠ a := fun k hk => by have := (h6.lt k hk).1; omega
  have ha1 : w1.heap[a]? = w.heap[a]? := hg.block a h1 (fun h => hne a h.symm rfl)
  exact ⟨by rw [World.cell?_of_block (w := w) (a := ⟨a, 0, none⟩) ha1]; exact h4, by rw [World.frozen?_of_block (w := w) (a := ⟨a, 0, none⟩) ha1]; exact h5⟩
theorem owns_shape {w : World} {base : Nat} {e : TypeId} {size : Nat} {v : Value} {n : Nat} {xs : List Value} (h : w.ownsRow base e size v n xs) : ∃ ao cap, v = .slice ao n cap := by
  rcases h.2 with ⟨e, hn⟩ | ⟨g, cap, cur, e, _⟩
  · exact ⟨none, 0, by rw [e, hn]⟩
  · exact ⟨_, _, e⟩
theorem strCells_Bs (s : ByteArray) : strCells s = Bs s.data.toList := rfl
theorem size_toList (s : ByteArray) : s.data.toList.length = s.size := by rw [Array.length_toList]; rfl
end Go.Proofs.Ytpjepndeppckdaa
