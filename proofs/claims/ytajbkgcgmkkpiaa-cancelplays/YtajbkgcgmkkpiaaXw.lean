/- The writer and the reader of package wire, in a namespace of their own. -/
import Derived.Test.YtajbkgcgmkkpiaaRows
import Derived.WalkKit
import Derived.WalkLawsBesides
import Derived.ProofKit
import Derived.OpenShut
import Derived.Handy
import Derived.ArgAppend
import Derived.Lib.AppendStr
import Derived.Laws.BitsAllLaws
import Derived.Laws.DeepStrings4
import Derived.Deep.QuietTactic
import Derived.BigQuiet
import Derived.WalkSmall
import Derived.Lib.IndexBytes
import Derived.Laws.IdiomStrings
namespace Go.Proofs.Ytajbkgcgmkkpiaa.W
section
open Go.RowKit
theorem hide {p : Prop} (h : p) : Hid p := h
theorem unhide {p : Prop} (h : Hid p) : p := h
end
section
open Go.RowKit Go.Lib
/-- the new row is the old one, or a new one -/
def NewRow (w : World) (v v' : Value) : Prop := v'.ownBlock = v.ownBlock ∨ ∃ g, v'.ownBlock = some g ∧ w.heap.size ≤ g

section
variable {P : Program} (w : World)
theorem run_append_own' (base : Nat) (t ty e : TypeId) (i : TypeInfo) (z : Value) (size bytes : Nat) (ht : P.underlying t = some (.slice e)) (hi : P.info? e = some i) (hz : i.zero = some z)
    (hsize : i.size = size) (hby : i.bytes = bytes) (hzs : z.cells.size = size) (hsz : 0 < size)
    (v : Value) (n : Nat) (xs : List Value) (hown : w.ownsRow base e size v n xs)
    (a : Addr) (m c : Nat) (news : List Value) (hl : news.length = m * size) (hnews : ∀ j u, news[j]? = some u → w.cell? (a.add j) = some u) (h1 : ∀ u ∈ news, u.oneCell' = true)
    (h63 : n + m ≤ maxLen) (hbytes : (n + m) * bytes ≤ 140737488355328) (hbase : base ≤ w.heap.size) :
    ∃ v' w', (Builtin.append_ #[t, t] ty #[v, .slice (some a) m c]).run P w = .ok v' w' ∧ w'.ownsRow base e size v' (n + m) (xs ++ news) ∧ w.grownBy w' v.ownBlock ∧ NewRow w v v' := by
  obtain ⟨v', w', hr, h2, h3, h4⟩ := run_append_own (P := P) w base t ty e i z size bytes ht hi hz hsize hby hzs hsz v n xs hown a m c news hl hnews h1 h63 hbytes hbase
  refine ⟨v', w', hr, h2, h3, ?_⟩
  have fresh : ∀ {w2 : World}, w2.ownsRow w.heap.size e size v' (n + m) (xs ++ news) → NewRow w v v' ∨ v' = .slice none 0 0 := by
    intro w2 h
    rcases h.2 with ⟨h, _⟩ | ⟨g, cap, cur, h, hb, _⟩
    · exact .inr h
    · exact .inl (.inr ⟨g, by rw [h]; rfl, hb⟩)
  have bare : v' = .slice none 0 0 → NewRow w v v' := fun h => .inl (by rw [h, (h4.1 h).1])
  rcases hown.2 with ⟨hv, hn⟩ | ⟨g, cap, cur, hv, hb, hg, hnc, hcm, hcs, htake⟩
  · subst hn
    have ho' : w.ownsRow w.heap.size e size v 0 xs := ⟨hown.1, .inl ⟨hv, rfl⟩⟩
    obtain ⟨v2, w2, hr', k2, _, _⟩ := run_append_own (P := P) w w.heap.size t ty e i z size bytes ht hi hz hsize hby hzs hsz v 0 xs ho' a m c news hl hnews h1 h63 hbytes (Nat.le_refl _)
    rw [hr] at hr'
    cases hr'
    exact (fresh k2).elim id bare
  · by_cases hroom : n + m ≤ cap
    · obtain ⟨w2, hr', k2, _⟩ := run_append_fits (P := P) w base t ty e i size ht hi hsize g n cap xs (hv ▸ hown) a m c news hl hnews h1 hroom
      rw [← hv, hr] at hr'
      cases hr'
      exact .inl (by rw [hv]; rfl)
    · obtain ⟨v2, w2, hr', k2, _⟩ := run_append_arg_grows (P := P) w t ty e i z size bytes ht hi hz hsize hby hzs hsz ⟨g, 0, none⟩ n cap xs hown.1 (hown.cells (by rw [hv]; rfl)) a m c news hl hnews (by omega) h63 hbytes
      rw [← hv, hr] at hr'
      cases hr'
      exact (fresh k2).elim id bare

theorem wpList_put {ops : Array Oper} {rest : List Oper} {o : Oper} {a : Act} {Q : Exit → Act → World → Prop} (hgd : o.guard = none) (s x : Operand) (t : TypeId)
    (ho : o.op = .call { callee := .builtin .append, args := #[s, x], argTypes := #[t, t] })
    (base : Nat) (e : TypeId) (i : TypeInfo) (z : Value) (size bytes : Nat) (ht : P.underlying t = some (.slice e)) (hi : P.info? e = some i) (hz : i.zero = some z)
    (hsize : i.size = size) (hby : i.bytes = bytes) (hzs : z.cells.size = size) (hsz : 0 < size)
    (v : Value) (n : Nat) (xs : List Value) (hs : a.eval s = v) (hown : w.ownsRow base e size v n xs)
    (ad : Addr) (m c : Nat) (news : List Value) (hx : a.eval x = .slice (some ad) m c) (hl : news.length = m * size) (hnews : ∀ j u, news[j]? = some u → w.cell? (ad.add j) = some u) (h1 : ∀ u ∈ news, u.oneCell' = true)
    (h63 : n + m ≤ maxLen) (hbytes : (n + m) * bytes ≤ 140737488355328) (hbase : base ≤ w.heap.size)
    (h : ∀ v' w', w'.ownsRow base e size v' (n + m) (xs ++ news) → w.grownBy w' v.ownBlock → NewRow w v v' → wpList P ops Q rest (a.put o.dst v') w') : wpList P ops Q (o :: rest) a w := by
  refine wpList_plain hgd fun K hK => ?_
  obtain ⟨v', w', hr, h2, h3, h4⟩ := run_append_own' (P := P) w base t o.type e i z size bytes ht hi hz hsize hby hzs hsz v n xs hown ad m c news hl hnews h1 h63 hbytes hbase
  unfold Oper.wp execOp
  simp only [ho, resolve, invoke, builtin, Sem.run_bind, Sem.run_pure, Result.andThen_ok, List.map_toArray, List.map_cons, List.map_nil, hs, hx, hr]
  exact hK _ _ (h v' w' h2 h3 h4)

end
end
section
open Go.RowKit Go.Lib
/-- bytes as cells -/
def Bs (bs : List UInt8) : List Value := bs.map fun b => .int .u8 b.toNat
theorem Bs_append (a b : List UInt8) : Bs (a ++ b) = Bs a ++ Bs b := by simp [Bs]
/-- a writer at block a holds these bytes, in the row r (or in none) -/
def Wr (w : World) (a r : Nat) (bs : List UInt8) : Prop :=
  a < w.heap.size ∧ r < w.heap.size ∧ bs.length ≤ 140737488355328 ∧ ∃ v, w.cell? ⟨a, 0, none⟩ = some v ∧ w.frozen? ⟨a, 0, none⟩ = false ∧ w.ownsRow (a + 1) 5 1 v bs.length (Bs bs) ∧ (v.ownBlock = none ∨ v.ownBlock = some r)
/-- what is done to the blocks a and r, and to new ones, alone -/
structure Upd (w w' : World) (a r : Nat) : Prop where
  os : w'.os = w.os
  tape : w'.tape = w.tape
  output : w'.output = w.output
  size : w.heap.size ≤ w'.heap.size
  block : ∀ k, k < w.heap.size → k ≠ a → k ≠ r → w'.heap[k]? = w.heap[k]?
theorem Upd.refl (w : World) (a r : Nat) : Upd w w a r := ⟨rfl, rfl, rfl, Nat.le_refl _, fun _ _ _ _ => rfl⟩
theorem Upd.trans {w w1 w2 : World} {a r r1 : Nat} (h : Upd w w1 a r) (k : Upd w1 w2 a r1) (hr : r1 = r ∨ w.heap.size ≤ r1) : Upd w w2 a r :=
  ⟨k.os.trans h.os, k.tape.trans h.tape, k.output.trans h.output, Nat.le_trans h.size k.size, fun i hi h1 h2 => by
    rw [k.block i (Nat.lt_of_lt_of_le hi h.size) h1 (by rcases hr with rfl | hr; exact h2; omega), h.block i hi h1 h2]⟩
theorem Upd.below {w w' : World} {a r B : Nat} (h : Upd w w' a r) (hB : B ≤ w.heap.size) (ha : B ≤ a) (hr : B ≤ r) : Below B w w' :=
  ⟨h.os, h.tape, h.output, h.size, fun k hk => h.block k (by omega) (by omega) (by omega)⟩
/-- the row does not turn where its block does not -/
theorem owns_same {w w' : World} {base : Nat} {e : TypeId} {size : Nat} {v : Value} {n : Nat} {xs : List Value} (h : w.ownsRow base e size v n xs) (hb : ∀ k, v.ownBlock = some k → w'.heap[k]? = w.heap[k]?) : w'.ownsRow base e size v n xs := by
  refine ⟨h.1, ?_⟩
  rcases h.2 with h | ⟨g, cap, cur, rfl, h1, h2, h3⟩
  · exact .inl h
  · exact .inr ⟨g, cap, cur, rfl, h1, by rw [hb g rfl]; exact h2, h3⟩
theorem Wr.same {w w' : World} {a r : Nat} {bs : List UInt8} (h : Wr w a r bs) (hs : w.heap.size ≤ w'.heap.size) (ha : w'.heap[a]? = w.heap[a]?) (hr : w'.heap[r]? = w.heap[r]?) : Wr w' a r bs := by
  obtain ⟨h1, h2, h3, v, h4, h5, h6, h7⟩ := h
  refine ⟨by omega, by omega, h3, v, ?_, ?_, owns_same h6 ?_, h7⟩
  · rw [World.cell?_of_block (w := w) (a := ⟨a, 0, none⟩) ha]; exact h4
  · rw [World.frozen?_of_block (w := w) (a := ⟨a, 0, none⟩) ha]; exact h5
  · intro k hk
    rcases h7 with h7 | h7
    · rw [h7] at hk; cases hk
    · rw [h7] at hk; cases hk; exact hr
theorem Wr.upd {w w' : World} {a r a' r' : Nat} {bs : List UInt8} (h : Wr w a r bs) (u : Upd w w' a' r') (h1 : a ≠ a') (h2 : a ≠ r') (h3 : r ≠ a') (h4 : r ≠ r') : Wr w' a r bs :=
  h.same u.size (u.block a h.1 h1 h2) (u.block r h.2.1 h3 h4)
theorem Wr.alloc {w : World} {a r : Nat} {bs : List UInt8} (h : Wr w a r bs) (o : Obj) : Wr (w.alloc o) a r bs :=
  h.same (by simp) (Below.heap_alloc w o a h.1) (Below.heap_alloc w o r h.2.1)
theorem Upd.alloc {w w' : World} {a r : Nat} (h : Upd w w' a r) (o : Obj) : Upd w (w'.alloc o) a r :=
  ⟨h.os, h.tape, h.output, by have := h.size; simp; omega, fun k hk h1 h2 => by rw [Below.heap_alloc w' o k (by have := h.size; omega)]; exact h.block k hk h1 h2⟩
theorem Upd.alloc' {w w' : World} {a r : Nat} {o : Obj} (h : Upd (w.alloc o) w' a r) : Upd w w' a r :=
  ⟨h.os, h.tape, h.output, by have := h.size; simp at this; omega, fun k hk h1 h2 => by rw [h.block k (by simp; omega) h1 h2]; exact Below.heap_alloc w o k hk⟩
/-- what a call leaves that puts bytes into a writer -/
def Put (w w' : World) (a r r' : Nat) (bs : List UInt8) : Prop := Wr w' a r' bs ∧ (r' = r ∨ w.heap.size ≤ r') ∧ Upd w w' a r
theorem Put.refl {w : World} {a r : Nat} {bs : List UInt8} (h : Wr w a r bs) : Put w w a r r bs := ⟨h, .inl rfl, Upd.refl _ _ _⟩
theorem Put.trans {w w1 w2 : World} {a r r1 r2 : Nat} {b1 b2 : List UInt8} (h : Put w w1 a r r1 b1) (k : Put w1 w2 a r1 r2 b2) : Put w w2 a r r2 b2 :=
  ⟨k.1, by rcases k.2.1 with e | e; · subst e; exact h.2.1
           · right; have := h.2.2.size; omega, h.2.2.trans k.2.2 h.2.1⟩
theorem Put.alloc' {w w' : World} {a r r' : Nat} {bs : List UInt8} {o : Obj} (h : Put (w.alloc o) w' a r r' bs) : Put w w' a r r' bs :=
  ⟨h.1, by rcases h.2.1 with e | e; exact .inl e; right; simp at e; omega, h.2.2.alloc'⟩

theorem info5 : (Try.prog.info? 5).map (fun i => (i.zero, i.size, i.bytes)) = some (some (.int .u8 0), 1, 1) := by kernel_rfl

/-- the store of the new row's value into the writer's cell -/
theorem put_of {w w1 : World} {a r : Nat} {bs news : List UInt8} {v v' : Value} (h : Wr w a r bs) (hc : w.cell? ⟨a, 0, none⟩ = some v) (hn : (bs ++ news).length ≤ 140737488355328)
    (hown : w1.ownsRow (a + 1) 5 1 v' (bs ++ news).length (Bs (bs ++ news))) (hg : w.grownBy w1 v.ownBlock) (hrow : NewRow w v v') : ∃ r', Put w (w1.setCell ⟨a, 0, none⟩ v') a r r' (bs ++ news) := by
  obtain ⟨h1, h2, h3, v0, h4, h5, h6, h7⟩ := h
  obtain rfl : v0 = v := by rw [h4] at hc; exact Option.some.inj hc
  have hne : ∀ k, v0.ownBlock = some k → k ≠ a := fun k hk => by have := (h6.lt k hk).1; omega
  have ha1 : w1.heap[a]? = w.heap[a]? := hg.block a h1 (fun h => hne a h.symm rfl)
  have hcell : w1.cell? ⟨a, 0, none⟩ = some v0 := by rw [World.cell?_of_block (w := w) (a := ⟨a, 0, none⟩) ha1]; exact h4
  have hfr : w1.frozen? ⟨a, 0, none⟩ = false := by rw [World.frozen?_of_block (w := w) (a := ⟨a, 0, none⟩) ha1]; exact h5
  have hs := hg.size
  have upd : Upd w (w1.setCell ⟨a, 0, none⟩ v') a r := ⟨hg.os, hg.tape, hg.output, by simp; exact hs, fun k hk k1 k2 => by
    rw [Below.heap_setCell w1 ⟨a, 0, none⟩ v' k k1]
    refine hg.block k hk fun e => ?_
    rcases h7 with h7 | h7
    · rw [h7] at e; cases e
    · rw [h7] at e; cases e; exact k2 rfl⟩
  have own' : (w1.setCell ⟨a, 0, none⟩ v').ownsRow (a + 1) 5 1 v' (bs ++ news).length (Bs (bs ++ news)) := owns_same hown fun k hk => Below.heap_setCell w1 ⟨a, 0, none⟩ v' k (by have := (hown.lt k hk).1; show k ≠ a; omega)
  have mk : ∀ r', r' < w1.heap.size → (v'.ownBlock = none ∨ v'.ownBlock = some r') → Wr (w1.setCell ⟨a, 0, none⟩ v') a r' (bs ++ news) := fun r' hr' hv =>
    ⟨by simp; omega, by simpa using hr', hn, v', World.cell?_setCell_same _ _ _ hcell, by simpa using hfr, own', hv⟩
  rcases hrow with e | ⟨g, e, hge⟩
  · exact ⟨r, mk r (by omega) (by rw [e]; exact h7), .inl rfl, upd⟩
  · exact ⟨g, mk g (hown.lt g e).2 (.inr e), .inr hge, upd⟩

theorem Wr.cellAt {w : World} {a r : Nat} {bs : List UInt8} (h : Wr w a r bs) : ∃ v, w.cell? ⟨a, 0, none⟩ = some v ∧ w.frozen? ⟨a, 0, none⟩ = false ∧ w.ownsRow (a + 1) 5 1 v bs.length (Bs bs) ∧ (∃ ao cap, v = .slice ao bs.length cap) := by
  obtain ⟨h1, h2, h3, v, h4, h5, h6, h7⟩ := h
  refine ⟨v, h4, h5, h6, ?_⟩
  rcases h6.2 with ⟨e, hn⟩ | ⟨g, cap, cur, e, _⟩
  · exact ⟨none, 0, by rw [e, hn]⟩
  · exact ⟨_, _, e⟩
/-- the writer's cell behind an append -/
theorem Wr.cellGrown {w w1 : World} {a r : Nat} {bs : List UInt8} {v : Value} (h : Wr w a r bs) (hc : w.cell? ⟨a, 0, none⟩ = some v) (hg : w.grownBy w1 v.ownBlock) : w1.cell? ⟨a, 0, none⟩ = some v ∧ w1.frozen? ⟨a, 0, none⟩ = false := by
  obtain ⟨h1, h2, h3, v0, h4, h5, h6, h7⟩ := h
  obtain rfl : v0 = v := by rw [h4] at hc; exact Option.some.inj hc
  have hne : ∀ k, v0.ownBlock = some k → k ≠ a := fun k hk => by have := (h6.lt k hk).1; omega
  have ha1 : w1.heap[a]? = w.heap[a]? := hg.block a h1 (fun h => hne a h.symm rfl)
  exact ⟨by rw [World.cell?_of_block (w := w) (a := ⟨a, 0, none⟩) ha1]; exact h4, by rw [World.frozen?_of_block (w := w) (a := ⟨a, 0, none⟩) ha1]; exact h5⟩
theorem owns_shape {w : World} {base : Nat} {e : TypeId} {size : Nat} {v : Value} {n : Nat} {xs : List Value} (h : w.ownsRow base e size v n xs) : ∃ ao cap, v = .slice ao n cap := by
  rcases h.2 with ⟨e, hn⟩ | ⟨g, cap, cur, e, _⟩
  · exact ⟨none, 0, by rw [e, hn]⟩
  · exact ⟨_, _, e⟩
theorem size_toList (s : ByteArray) : s.data.toList.length = s.size := by rw [Array.length_toList]; rfl
end
section
open Go.RowKit Go.Lib
/-- a reader at block a over the bytes s, so many taken, with that error -/
structure Rd (w : World) (a : Nat) (s : ByteArray) (p : Nat) (e : Int) : Prop where
  lt : a < w.heap.size
  le : p ≤ s.size
  max : s.size ≤ 281474976710656
  c0 : w.cell? ⟨a, 0, none⟩ = some (.string s)
  c1 : w.cell? ⟨a, 1, none⟩ = some (.int .i64 p)
  c2 : w.cell? ⟨a, 2, none⟩ = some (.int .i64 e)
  f1 : w.frozen? ⟨a, 1, none⟩ = false
  f2 : w.frozen? ⟨a, 2, none⟩ = false
/-- what a call leaves -/
def Rt (w w' : World) (a : Nat) (s : ByteArray) (p : Nat) (e : Int) : Prop := Rd w' a s p e ∧ Upd w w' a a
theorem Rd.same {w w' : World} {a : Nat} {s : ByteArray} {p : Nat} {e : Int} (h : Rd w a s p e) (hs : w.heap.size ≤ w'.heap.size) (hb : w'.heap[a]? = w.heap[a]?) : Rd w' a s p e where
  lt := by have := h.lt; omega
  le := h.le
  max := h.max
  c0 := by rw [World.cell?_of_block (w := w) (a := ⟨a, 0, none⟩) hb]; exact h.c0
  c1 := by rw [World.cell?_of_block (w := w) (a := ⟨a, 1, none⟩) hb]; exact h.c1
  c2 := by rw [World.cell?_of_block (w := w) (a := ⟨a, 2, none⟩) hb]; exact h.c2
  f1 := by rw [World.frozen?_of_block (w := w) (a := ⟨a, 1, none⟩) hb]; exact h.f1
  f2 := by rw [World.frozen?_of_block (w := w) (a := ⟨a, 2, none⟩) hb]; exact h.f2
theorem Rd.upd {w w' : World} {a a' r' : Nat} {s : ByteArray} {p : Nat} {e : Int} (h : Rd w a s p e) (u : Upd w w' a' r') (h1 : a ≠ a') (h2 : a ≠ r') : Rd w' a s p e :=
  h.same u.size (u.block a h.lt h1 h2)
theorem Rd.alloc {w : World} {a : Nat} {s : ByteArray} {p : Nat} {e : Int} (h : Rd w a s p e) (o : Obj) : Rd (w.alloc o) a s p e := h.same (by simp) (Below.heap_alloc w o a h.lt)
theorem Rd.drewN {w : World} {a : Nat} {s : ByteArray} {p : Nat} {e : Int} (h : Rd w a s p e) (n : Nat) : Rd (w.drewN n) a s p e := ⟨h.lt, h.le, h.max, h.c0, h.c1, h.c2, h.f1, h.f2⟩
theorem Rd.setErr {w : World} {a : Nat} {s : ByteArray} {p : Nat} {e : Int} (h : Rd w a s p e) (e' : Int) : Rd (w.setCell ⟨a, 2, none⟩ (.int .i64 e')) a s p e' where
  lt := by simpa using h.lt
  le := h.le
  max := h.max
  c0 := by rw [World.cell?_setCell_other _ _ _ _ (by simp)]; exact h.c0
  c1 := by rw [World.cell?_setCell_other _ _ _ _ (by simp)]; exact h.c1
  c2 := World.cell?_setCell_same _ _ _ h.c2
  f1 := by simpa using h.f1
  f2 := by simpa using h.f2
theorem Rd.setAt {w : World} {a : Nat} {s : ByteArray} {p : Nat} {e : Int} (h : Rd w a s p e) (p' : Nat) (hp : p' ≤ s.size) : Rd (w.setCell ⟨a, 1, none⟩ (.int .i64 p')) a s p' e where
  lt := by simpa using h.lt
  le := hp
  max := h.max
  c0 := by rw [World.cell?_setCell_other _ _ _ _ (by simp)]; exact h.c0
  c1 := World.cell?_setCell_same _ _ _ h.c1
  c2 := by rw [World.cell?_setCell_other _ _ _ _ (by simp)]; exact h.c2
  f1 := by simpa using h.f1
  f2 := by simpa using h.f2
theorem Upd.setCell {w w' : World} {a r : Nat} (h : Upd w w' a r) (i : Nat) (v : Value) : Upd w (w'.setCell ⟨a, i, none⟩ v) a r :=
  ⟨h.os, h.tape, h.output, by simp; exact h.size, fun k hk h1 h2 => by rw [Below.heap_setCell w' ⟨a, i, none⟩ v k h1]; exact h.block k hk h1 h2⟩
theorem Upd.drewN {w w' : World} {a r : Nat} (h : Upd w w' a r) (n : Nat) : Upd w (w'.drewN n) a r := ⟨h.os, h.tape, h.output, h.size, h.block⟩
theorem Rt.refl {w : World} {a : Nat} {s : ByteArray} {p : Nat} {e : Int} (h : Rd w a s p e) : Rt w w a s p e := ⟨h, Upd.refl _ _ _⟩
theorem Rt.trans {w w1 w2 : World} {a : Nat} {s : ByteArray} {p p' : Nat} {e e' : Int} (h : Rt w w1 a s p e) (k : Rt w1 w2 a s p' e') : Rt w w2 a s p' e' := ⟨k.1, h.2.trans k.2 (.inl rfl)⟩

/-- what End says -/
def endE (n p : Nat) (e : Int) : Int := if e = 0 then (if p < n then 12 else 0) else e
/-- what Fail makes of an error -/
def failE (e x : Int) : Int := if e = 0 then x else e
theorem Rd.new (s : ByteArray) (w : World) (t : TypeId) (hs : s.size ≤ 281474976710656) : Rd (w.alloc (.cells #[.string s, .int .i64 0, .int .i64 0] t)) w.heap.size s 0 0 where
  lt := by simp
  le := Nat.zero_le _
  max := hs
  c0 := by simp [go_sem]
  c1 := by simp [go_sem]
  c2 := by simp [go_sem]
  f1 := by rw [frozen?_alloc_cells]; simp [World.frozen?]
  f2 := by rw [frozen?_alloc_cells]; simp [World.frozen?]
end
section
open Go.RowKit Go.Lib
/-- the number that digits to the base 128 are, from the i-th on -/
def dg : List UInt8 → Nat → Nat → Nat × Nat × Int
  | [], _, _ => (0, 0, 10)
  | d :: l, i, v =>
    if 10 ≤ i then (0, 0, 10) else if i = 9 ∧ 1 < d.toNat then (0, 0, 11)
    else if 128 ≤ d.toNat then dg l (i + 1) (v + d.toNat % 128 * 128 ^ i)
    else if 0 < i ∧ d.toNat = 0 then (0, 0, 11) else (v + d.toNat % 128 * 128 ^ i, i + 1, 0)
theorem drop_cons (s : ByteArray) (k : Nat) (h : k < s.size) : s.data.toList.drop k = s[k] :: s.data.toList.drop (k + 1) := by
  rw [List.drop_eq_getElem_cons (by simpa using h)]; rfl
theorem dgA (t : ByteArray) (k x : Nat) (h : k < t.size) (h9 : k = 9) (hd : 1 < t[k].toNat) : dg (t.data.toList.drop k) k x = (0, 0, 11) := by
  rw [drop_cons t k h, dg, if_neg (by omega), if_pos ⟨h9, hd⟩]
theorem dgB (t : ByteArray) (k x : Nat) (h : k < t.size) (h9 : k < 9) (hd : 128 ≤ t[k].toNat) : dg (t.data.toList.drop k) k x = dg (t.data.toList.drop (k + 1)) (k + 1) (x + t[k].toNat % 128 * 128 ^ k) := by
  rw [drop_cons t k h, dg, if_neg (by omega), if_neg (by omega), if_pos hd]
theorem dgC (t : ByteArray) (k x : Nat) (h : k < t.size) (h9 : k < 10) (h0 : 0 < k) (hd : t[k].toNat = 0) : dg (t.data.toList.drop k) k x = (0, 0, 11) := by
  rw [drop_cons t k h, dg, if_neg (by omega), if_neg (by omega), if_neg (by omega), if_pos ⟨h0, hd⟩]
theorem dgD (t : ByteArray) (k x : Nat) (h : k < t.size) (h9 : k < 10) (hA : k = 9 → t[k].toNat ≤ 1) (hd : t[k].toNat < 128) (h0 : k = 0 ∨ t[k].toNat ≠ 0) : dg (t.data.toList.drop k) k x = (x + t[k].toNat % 128 * 128 ^ k, k + 1, 0) := by
  rw [drop_cons t k h, dg, if_neg (by omega), if_neg (by omega), if_neg (by omega), if_neg (by omega)]
theorem dgE (t : ByteArray) (k x : Nat) (h : t.size ≤ k ∨ 10 ≤ k) : dg (t.data.toList.drop k) k x = (0, 0, 10) := by
  rcases h with h | h
  · rw [List.drop_eq_nil_of_le (by rw [size_toList]; exact h)]; rfl
  · cases t.data.toList.drop k with
    | nil => rfl
    | cons d l => rw [dg, if_pos h]
theorem and127 (d : UInt8) : bits .and .u8 (d.toNat : Int) 127 = ((d.toNat % 128 : Nat) : Int) := by
  have hd := d.toNat_lt
  rw [u8_and _ _ (by omega) (by omega) (by omega) (by omega)]
  congr 1
  exact Nat.and_two_pow_sub_one_eq_mod d.toNat 7
theorem or_digit (x m j : Nat) (hj : j ≤ 9) (hx : x < 128 ^ j) (hm : m * 128 ^ j < 18446744073709551616) : bits .or .u64 (x : Int) (IntKind.u64.wrap (IntKind.u64.wrap ((m : Nat) : Int) * ((128 ^ j : Nat) : Int))) = ((x + m * 128 ^ j : Nat) : Int) := by
  have hp : 0 < 128 ^ j := Nat.pow_pos (by decide)
  have hj2 : 128 ^ j ≤ 128 ^ 9 := Nat.pow_le_pow_right (by decide) hj
  have hm1 : m < 18446744073709551616 := Nat.lt_of_le_of_lt (Nat.le_mul_of_pos_right m hp) hm
  have e1 : IntKind.u64.wrap ((m : Nat) : Int) = m := by rw [IntKind.wrap_u64]; omega
  have e2 : IntKind.u64.wrap ((m : Int) * ((128 ^ j : Nat) : Int)) = ((m * 128 ^ j : Nat) : Int) := by
    rw [IntKind.wrap_u64, ← Int.natCast_mul]; omega
  rw [e1, e2, u64_or_nat _ _ (by omega) hm]
  congr 1
  have e3 : (128 : Nat) ^ j = 2 ^ (7 * j) := (Nat.pow_mul 2 7 j).symm
  rw [e3] at hx ⊢
  have := Nat.two_pow_add_eq_or_of_lt (i := 7 * j) (b := x) hx m
  rw [Nat.or_comm, Nat.mul_comm m, ← this, Nat.add_comm]
theorem ret3 {A B C : Int} {q : Nat × Nat × Int} {v u : Nat} {e : Int} (h : q = (v, u, e)) (hA : A = v) (hB : B = u) (hC : C = e) :
    Ending.returned (.tuple #[.int .u64 A, .int .i64 B, .int .i64 C]) = .returned (.tuple #[.int .u64 q.1, .int .i64 q.2.1, .int .i64 q.2.2]) := by
  rw [h, hA, hB, hC]
/-- the digit laid behind the others -/
theorem orS (x : Nat) (d : UInt8) (k : Nat) (hk : k < 9) (hx : x < 128 ^ k) : bits .or .u64 (x : Int) (IntKind.u64.wrap (IntKind.u64.wrap (bits .and .u8 (d.toNat : Int) 127) * 2 ^ (7 * k))) = ((x + d.toNat % 128 * 128 ^ k : Nat) : Int) := by
  have e : ((2 : Int) ^ (7 * k)) = ((128 ^ k : Nat) : Int) := by
    have e : (128 : Nat) ^ k = 2 ^ (7 * k) := (Nat.pow_mul 2 7 k).symm
    rw [e]; simp
  rw [and127, e]
  refine or_digit x _ k (by omega) hx ?_
  have h1 : 128 ^ k ≤ 128 ^ 8 := Nat.pow_le_pow_right (by decide) (by omega)
  have h2 : d.toNat % 128 * 128 ^ k ≤ 127 * 128 ^ 8 := Nat.mul_le_mul (by omega) h1
  omega
theorem orS9 (x : Nat) (d : UInt8) (hd : d.toNat ≤ 1) (hx : x < 128 ^ 9) : bits .or .u64 (x : Int) (IntKind.u64.wrap (IntKind.u64.wrap (bits .and .u8 (d.toNat : Int) 127) * 9223372036854775808)) = ((x + d.toNat % 128 * 128 ^ 9 : Nat) : Int) := by
  rw [and127]
  exact or_digit x _ 9 (by omega) hx (by omega)
/-- what Uint takes -/
def uintS (s : ByteArray) (p : Nat) (e : Int) (most : Nat) : Nat × Nat × Int :=
  if e ≠ 0 then (0, p, e)
  else if (dg (s.data.toList.drop p) 0 0).2.2 ≠ 0 then (0, p, (dg (s.data.toList.drop p) 0 0).2.2)
  else if most < (dg (s.data.toList.drop p) 0 0).1 then (0, p, 11)
  else ((dg (s.data.toList.drop p) 0 0).1, p + (dg (s.data.toList.drop p) 0 0).2.1, 0)
theorem dg_used (l : List UInt8) (i v : Nat) : (dg l i v).2.1 ≤ i + l.length := by
  induction l generalizing i v with
  | nil => simp [dg]
  | cons d l ih =>
    rw [dg]
    split
    · simp
    · split
      · simp
      · split
        · have := ih (i + 1) (v + d.toNat % 128 * 128 ^ i); simp; omega
        · split <;> simp
end
section
open Go.RowKit Go.Lib
theorem u8_of (v : Int) (h0 : 0 ≤ v) (h1 : v < 256) : v = ((UInt8.ofNat v.toNat).toNat : Int) := by
  have : (UInt8.ofNat v.toNat).toNat = v.toNat := by simp; omega
  rw [this]; omega
/-- a number to the base 128, the lowest digit first -/
def uintB : Nat → Nat → List UInt8
  | 0, v => [UInt8.ofNat v]
  | f + 1, v => if v < 128 then [UInt8.ofNat v] else UInt8.ofNat (v % 128 + 128) :: uintB f (v / 128)
theorem or128 (u : Nat) : bits .or .u8 ((u : Int) % 256) 128 = ((u % 128 + 128 : Nat) : Int) := by
  rw [u8_or _ _ (by omega) (by omega) (by omega) (by omega)]
  have e1 : ((u : Int) % 256).toNat = u % 256 := by omega
  rw [e1]
  have e2 : (128 : Int).toNat = 128 := rfl
  rw [e2]
  congr 1
  have h : ∀ x : Fin 256, x.1 ||| 128 = x.1 % 128 + 128 := by decide +kernel
  have := h ⟨u % 256, Nat.mod_lt _ (by decide)⟩
  simp only at this
  rw [this]; omega
theorem or128_rng (u : Nat) : 0 ≤ bits .or .u8 ((u : Int) % 256) 128 ∧ bits .or .u8 ((u : Int) % 256) 128 < 256 := by rw [or128]; omega
theorem Wr.new (w : World) (t : TypeId) : Wr (w.alloc (.cells #[.slice none 0 0] t)) w.heap.size w.heap.size [] := by
  refine ⟨by simp, by simp, by simp, .slice none 0 0, ?_, ?_, World.ownsRow_nil _ _ _ _, .inl rfl⟩
  · simp [go_sem]
  · rw [frozen?_alloc_cells]; simp [World.frozen?]
end
end Go.Proofs.Ytajbkgcgmkkpiaa.W
