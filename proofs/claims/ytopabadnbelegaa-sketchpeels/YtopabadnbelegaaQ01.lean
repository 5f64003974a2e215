/- Put together out of Xw, Mm, Ls, Sga, Ska, Skb, Skc, Skd, Ske, Skf. -/
import Derived.Test.YtopabadnbelegaaRows
import Derived.WalkKit
import Derived.WalkLawsBesides
import Derived.ProofKit
import Derived.OpenShut
import Derived.Handy
import Derived.ArgAppend
import Derived.Lib.AppendStr
import Derived.Laws.BitsAllLaws
import Derived.Laws.DeepStrings4
import Derived.Deep.QuietTactic
import Derived.BigQuiet
import Derived.WalkSmall
import Derived.Lib.IndexBytes
import Derived.Laws.IdiomStrings
import Derived.Below
import Derived.Laws.Rows
import Derived.Deep.RegionHeld3
import Derived.Deep.RegionWith
import Derived.Deep.MidRow
import Derived.Deep.OwnRows
import Derived.Deep.Heap
import Derived.Lib.ConvBytes
import Derived.Laws.AppendOwnNone
import Derived.Laws.Tables
namespace Go.Proofs.Ytopabadnbelegaa.W
section
open Go.RowKit
theorem hide {p : Prop} (h : p) : Hid p := h
theorem unhide {p : Prop} (h : Hid p) : p := h
end
section
open Go.RowKit Go.Lib
/-- the new row is the old one, or a new one -/
def NewRow (w : World) (v v' : Value) : Prop := v'.ownBlock = v.ownBlock ∨ ∃ g, v'.ownBlock = some g ∧ w.heap.size ≤ g

section
variable {P : Program} (w : World)
theorem run_append_own' (base : Nat) (t ty e : TypeId) (i : TypeInfo) (z : Value) (size bytes : Nat) (ht : P.underlying t = some (.slice e)) (hi : P.info? e = some i) (hz : i.zero = some z)
    (hsize : i.size = size) (hby : i.bytes = bytes) (hzs : z.cells.size = size) (hsz : 0 < size)
    (v : Value) (n : Nat) (xs : List Value) (hown : w.ownsRow base e size v n xs)
    (a : Addr) (m c : Nat) (news : List Value) (hl : news.length = m * size) (hnews : ∀ j u, news[j]? = some u → w.cell? (a.add j) = some u) (h1 : ∀ u ∈ news, u.oneCell' = true)
    (h63 : n + m ≤ maxLen) (hbytes : (n + m) * bytes ≤ 140737488355328) (hbase : base ≤ w.heap.size) :
    ∃ v' w', (Builtin.append_ #[t, t] ty #[v, .slice (some a) m c]).run P w = .ok v' w' ∧ w'.ownsRow base e size v' (n + m) (xs ++ news) ∧ w.grownBy w' v.ownBlock ∧ NewRow w v v' := by
  obtain ⟨v', w', hr, h2, h3, h4⟩ := run_append_own (P := P) w base t ty e i z size bytes ht hi hz hsize hby hzs hsz v n xs hown a m c news hl hnews h1 h63 hbytes hbase
  refine ⟨v', w', hr, h2, h3, ?_⟩
  have fresh : ∀ {w2 : World}, w2.ownsRow w.heap.size e size v' (n + m) (xs ++ news) → NewRow w v v' ∨ v' = .slice none 0 0 := by
    intro w2 h
    rcases h.2 with ⟨h, _⟩ | ⟨g, cap, cur, h, hb, _⟩
    · exact .inr h
    · exact .inl (.inr ⟨g, by rw [h]; rfl, hb⟩)
  have bare : v' = .slice none 0 0 → NewRow w v v' := fun h => .inl (by rw [h, (h4.1 h).1])
  rcases hown.2 with ⟨hv, hn⟩ | ⟨g, cap, cur, hv, hb, hg, hnc, hcm, hcs, htake⟩
  · subst hn
    have ho' : w.ownsRow w.heap.size e size v 0 xs := ⟨hown.1, .inl ⟨hv, rfl⟩⟩
    obtain ⟨v2, w2, hr', k2, _, _⟩ := run_append_own (P := P) w w.heap.size t ty e i z size bytes ht hi hz hsize hby hzs hsz v 0 xs ho' a m c news hl hnews h1 h63 hbytes (Nat.le_refl _)
    rw [hr] at hr'
    cases hr'
    exact (fresh k2).elim id bare
  · by_cases hroom : n + m ≤ cap
    · obtain ⟨w2, hr', k2, _⟩ := run_append_fits (P := P) w base t ty e i size ht hi hsize g n cap xs (hv ▸ hown) a m c news hl hnews h1 hroom
      rw [← hv, hr] at hr'
      cases hr'
      exact .inl (by rw [hv]; rfl)
    · obtain ⟨v2, w2, hr', k2, _⟩ := run_append_arg_grows (P := P) w t ty e i z size bytes ht hi hz hsize hby hzs hsz ⟨g, 0, none⟩ n cap xs hown.1 (hown.cells (by rw [hv]; rfl)) a m c news hl hnews (by omega) h63 hbytes
      rw [← hv, hr] at hr'
      cases hr'
      exact (fresh k2).elim id bare

theorem wpList_put {ops : Array Oper} {rest : List Oper} {o : Oper} {a : Act} {Q : Exit → Act → World → Prop} (hgd : o.guard = none) (s x : Operand) (t : TypeId)
    (ho : o.op = .call { callee := .builtin .append, args := #[s, x], argTypes := #[t, t] })
    (base : Nat) (e : TypeId) (i : TypeInfo) (z : Value) (size bytes : Nat) (ht : P.underlying t = some (.slice e)) (hi : P.info? e = some i) (hz : i.zero = some z)
    (hsize : i.size = size) (hby : i.bytes = bytes) (hzs : z.cells.size = size) (hsz : 0 < size)
    (v : Value) (n : Nat) (xs : List Value) (hs : a.eval s = v) (hown : w.ownsRow base e size v n xs)
    (ad : Addr) (m c : Nat) (news : List Value) (hx : a.eval x = .slice (some ad) m c) (hl : news.length = m * size) (hnews : ∀ j u, news[j]? = some u → w.cell? (ad.add j) = some u) (h1 : ∀ u ∈ news, u.oneCell' = true)
    (h63 : n + m ≤ maxLen) (hbytes : (n + m) * bytes ≤ 140737488355328) (hbase : base ≤ w.heap.size)
    (h : ∀ v' w', w'.ownsRow base e size v' (n + m) (xs ++ news) → w.grownBy w' v.ownBlock → NewRow w v v' → wpList P ops Q rest (a.put o.dst v') w') : wpList P ops Q (o :: rest) a w := by
  refine wpList_plain hgd fun K hK => ?_
  obtain ⟨v', w', hr, h2, h3, h4⟩ := run_append_own' (P := P) w base t o.type e i z size bytes ht hi hz hsize hby hzs hsz v n xs hown ad m c news hl hnews h1 h63 hbytes hbase
  unfold Oper.wp execOp
  simp only [ho, resolve, invoke, builtin, Sem.run_bind, Sem.run_pure, Result.andThen_ok, List.map_toArray, List.map_cons, List.map_nil, hs, hx, hr]
  exact hK _ _ (h v' w' h2 h3 h4)

end
end
section
open Go.RowKit Go.Lib
/-- bytes as cells -/
def Bs (bs : List UInt8) : List Value := bs.map fun b => .int .u8 b.toNat
theorem Bs_append (a b : List UInt8) : Bs (a ++ b) = Bs a ++ Bs b := by simp [Bs]
/-- a writer at block a holds these bytes, in the row r (or in none) -/
def Wr (w : World) (a r : Nat) (bs : List UInt8) : Prop :=
  a < w.heap.size ∧ r < w.heap.size ∧ bs.length ≤ 140737488355328 ∧ ∃ v, w.cell? ⟨a, 0, none⟩ = some v ∧ w.frozen? ⟨a, 0, none⟩ = false ∧ w.ownsRow (a + 1) 5 1 v bs.length (Bs bs) ∧ (v.ownBlock = none ∨ v.ownBlock = some r)
/-- what is done to the blocks a and r, and to new ones, alone -/
structure Upd (w w' : World) (a r : Nat) : Prop where
  os : w'.os = w.os
  tape : w'.tape = w.tape
  output : w'.output = w.output
  size : w.heap.size ≤ w'.heap.size
  block : ∀ k, k < w.heap.size → k ≠ a → k ≠ r → w'.heap[k]? = w.heap[k]?
theorem Upd.refl (w : World) (a r : Nat) : Upd w w a r := ⟨rfl, rfl, rfl, Nat.le_refl _, fun _ _ _ _ => rfl⟩
theorem Upd.trans {w w1 w2 : World} {a r r1 : Nat} (h : Upd w w1 a r) (k : Upd w1 w2 a r1) (hr : r1 = r ∨ w.heap.size ≤ r1) : Upd w w2 a r :=
  ⟨k.os.trans h.os, k.tape.trans h.tape, k.output.trans h.output, Nat.le_trans h.size k.size, fun i hi h1 h2 => by
    rw [k.block i (Nat.lt_of_lt_of_le hi h.size) h1 (by rcases hr with rfl | hr; exact h2; omega), h.block i hi h1 h2]⟩
theorem Upd.below {w w' : World} {a r B : Nat} (h : Upd w w' a r) (hB : B ≤ w.heap.size) (ha : B ≤ a) (hr : B ≤ r) : Below B w w' :=
  ⟨h.os, h.tape, h.output, h.size, fun k hk => h.block k (by omega) (by omega) (by omega)⟩
/-- the row does not turn where its block does not -/
theorem owns_same {w w' : World} {base : Nat} {e : TypeId} {size : Nat} {v : Value} {n : Nat} {xs : List Value} (h : w.ownsRow base e size v n xs) (hb : ∀ k, v.ownBlock = some k → w'.heap[k]? = w.heap[k]?) : w'.ownsRow base e size v n xs := by
  refine ⟨h.1, ?_⟩
  rcases h.2 with h | ⟨g, cap, cur, rfl, h1, h2, h3⟩
  · exact .inl h
  · exact .inr ⟨g, cap, cur, rfl, h1, by rw [hb g rfl]; exact h2, h3⟩
theorem Wr.same {w w' : World} {a r : Nat} {bs : List UInt8} (h : Wr w a r bs) (hs : w.heap.size ≤ w'.heap.size) (ha : w'.heap[a]? = w.heap[a]?) (hr : w'.heap[r]? = w.heap[r]?) : Wr w' a r bs := by
  obtain ⟨h1, h2, h3, v, h4, h5, h6, h7⟩ := h
  refine ⟨by omega, by omega, h3, v, ?_, ?_, owns_same h6 ?_, h7⟩
  · rw [World.cell?_of_block (w := w) (a := ⟨a, 0, none⟩) ha]; exact h4
  · rw [World.frozen?_of_block (w := w) (a := ⟨a, 0, none⟩) ha]; exact h5
  · intro k hk
    rcases h7 with h7 | h7
    · rw [h7] at hk; cases hk
    · rw [h7] at hk; cases hk; exact hr
theorem Wr.upd {w w' : World} {a r a' r' : Nat} {bs : List UInt8} (h : Wr w a r bs) (u : Upd w w' a' r') (h1 : a ≠ a') (h2 : a ≠ r') (h3 : r ≠ a') (h4 : r ≠ r') : Wr w' a r bs :=
  h.same u.size (u.block a h.1 h1 h2) (u.block r h.2.1 h3 h4)
theorem Wr.alloc {w : World} {a r : Nat} {bs : List UInt8} (h : Wr w a r bs) (o : Obj) : Wr (w.alloc o) a r bs :=
  h.same (by simp) (Below.heap_alloc w o a h.1) (Below.heap_alloc w o r h.2.1)
theorem Upd.alloc {w w' : World} {a r : Nat} (h : Upd w w' a r) (o : Obj) : Upd w (w'.alloc o) a r :=
  ⟨h.os, h.tape, h.output, by have := h.size; simp; omega, fun k hk h1 h2 => by rw [Below.heap_alloc w' o k (by have := h.size; omega)]; exact h.block k hk h1 h2⟩
theorem Upd.alloc' {w w' : World} {a r : Nat} {o : Obj} (h : Upd (w.alloc o) w' a r) : Upd w w' a r :=
  ⟨h.os, h.tape, h.output, by have := h.size; simp at this; omega, fun k hk h1 h2 => by rw [h.block k (by simp; omega) h1 h2]; exact Below.heap_alloc w o k hk⟩
/-- what a call leaves that puts bytes into a writer -/
def Put (w w' : World) (a r r' : Nat) (bs : List UInt8) : Prop := Wr w' a r' bs ∧ (r' = r ∨ w.heap.size ≤ r') ∧ Upd w w' a r
theorem Put.refl {w : World} {a r : Nat} {bs : List UInt8} (h : Wr w a r bs) : Put w w a r r bs := ⟨h, .inl rfl, Upd.refl _ _ _⟩
theorem Put.trans {w w1 w2 : World} {a r r1 r2 : Nat} {b1 b2 : List UInt8} (h : Put w w1 a r r1 b1) (k : Put w1 w2 a r1 r2 b2) : Put w w2 a r r2 b2 :=
  ⟨k.1, by rcases k.2.1 with e | e; · subst e; exact h.2.1
           · right; have := h.2.2.size; omega, h.2.2.trans k.2.2 h.2.1⟩
theorem Put.alloc' {w w' : World} {a r r' : Nat} {bs : List UInt8} {o : Obj} (h : Put (w.alloc o) w' a r r' bs) : Put w w' a r r' bs :=
  ⟨h.1, by rcases h.2.1 with e | e; exact .inl e; right; simp at e; omega, h.2.2.alloc'⟩

theorem info5 : (Try.prog.info? 5).map (fun i => (i.zero, i.size, i.bytes)) = some (some (.int .u8 0), 1, 1) := by kernel_rfl

/-- the store of the new row's value into the writer's cell -/
theorem put_of {w w1 : World} {a r : Nat} {bs news : List UInt8} {v v' : Value} (h : Wr w a r bs) (hc : w.cell? ⟨a, 0, none⟩ = some v) (hn : (bs ++ news).length ≤ 140737488355328)
    (hown : w1.ownsRow (a + 1) 5 1 v' (bs ++ news).length (Bs (bs ++ news))) (hg : w.grownBy w1 v.ownBlock) (hrow : NewRow w v v') : ∃ r', Put w (w1.setCell ⟨a, 0, none⟩ v') a r r' (bs ++ news) := by
  obtain ⟨h1, h2, h3, v0, h4, h5, h6, h7⟩ := h
  obtain rfl : v0 = v := by rw [h4] at hc; exact Option.some.inj hc
  have hne : ∀ k, v0.ownBlock = some k → k ≠ a := fun k hk => by have := (h6.lt k hk).1; omega
  have ha1 : w1.heap[a]? = w.heap[a]? := hg.block a h1 (fun h => hne a h.symm rfl)
  have hcell : w1.cell? ⟨a, 0, none⟩ = some v0 := by rw [World.cell?_of_block (w := w) (a := ⟨a, 0, none⟩) ha1]; exact h4
  have hfr : w1.frozen? ⟨a, 0, none⟩ = false := by rw [World.frozen?_of_block (w := w) (a := ⟨a, 0, none⟩) ha1]; exact h5
  have hs := hg.size
  have upd : Upd w (w1.setCell ⟨a, 0, none⟩ v') a r := ⟨hg.os, hg.tape, hg.output, by simp; exact hs, fun k hk k1 k2 => by
    rw [Below.heap_setCell w1 ⟨a, 0, none⟩ v' k k1]
    refine hg.block k hk fun e => ?_
    rcases h7 with h7 | h7
    · rw [h7] at e; cases e
    · rw [h7] at e; cases e; exact k2 rfl⟩
  have own' : (w1.setCell ⟨a, 0, none⟩ v').ownsRow (a + 1) 5 1 v' (bs ++ news).length (Bs (bs ++ news)) := owns_same hown fun k hk => Below.heap_setCell w1 ⟨a, 0, none⟩ v' k (by have := (hown.lt k hk).1; show k ≠ a; omega)
  have mk : ∀ r', r' < w1.heap.size → (v'.ownBlock = none ∨ v'.ownBlock = some r') → Wr (w1.setCell ⟨a, 0, none⟩ v') a r' (bs ++ news) := fun r' hr' hv =>
    ⟨by simp; omega, by simpa using hr', hn, v', World.cell?_setCell_same _ _ _ hcell, by simpa using hfr, own', hv⟩
  rcases hrow with e | ⟨g, e, hge⟩
  · exact ⟨r, mk r (by omega) (by rw [e]; exact h7), .inl rfl, upd⟩
  · exact ⟨g, mk g (hown.lt g e).2 (.inr e), .inr hge, upd⟩

theorem Wr.cellAt {w : World} {a r : Nat} {bs : List UInt8} (h : Wr w a r bs) : ∃ v, w.cell? ⟨a, 0, none⟩ = some v ∧ w.frozen? ⟨a, 0, none⟩ = false ∧ w.ownsRow (a + 1) 5 1 v bs.length (Bs bs) ∧ (∃ ao cap, v = .slice ao bs.length cap) := by
  obtain ⟨h1, h2, h3, v, h4, h5, h6, h7⟩ := h
  refine ⟨v, h4, h5, h6, ?_⟩
  rcases h6.2 with ⟨e, hn⟩ | ⟨g, cap, cur, e, _⟩
  · exact ⟨none, 0, by rw [e, hn]⟩
  · exact ⟨_, _, e⟩
/-- the writer's cell behind an append -/
theorem Wr.cellGrown {w w1 : World} {a r : Nat} {bs : List UInt8} {v : Value} (h : Wr w a r bs) (hc : w.cell? ⟨a, 0, none⟩ = some v) (hg : w.grownBy w1 v.ownBlock) : w1.cell? ⟨a, 0, none⟩ = some v ∧ w1.frozen? ⟨a, 0, none⟩ = false := by
  obtain ⟨h1, h2, h3, v0, h4, h5, h6, h7⟩ := h
  obtain rfl : v0 = v := by rw [h4] at hc; exact Option.some.inj hc
  have hne : ∀ k, v0.ownBlock = some k → k ≠ a := fun k hk => by have := (h6.lt k hk).1; omega
  have ha1 : w1.heap[a]? = w.heap[a]? := hg.block a h1 (fun h => hne a h.symm rfl)
  exact ⟨by rw [World.cell?_of_block (w := w) (a := ⟨a, 0, none⟩) ha1]; exact h4, by rw [World.frozen?_of_block (w := w) (a := ⟨a, 0, none⟩) ha1]; exact h5⟩
theorem owns_shape {w : World} {base : Nat} {e : TypeId} {size : Nat} {v : Value} {n : Nat} {xs : List Value} (h : w.ownsRow base e size v n xs) : ∃ ao cap, v = .slice ao n cap := by
  rcases h.2 with ⟨e, hn⟩ | ⟨g, cap, cur, e, _⟩
  · exact ⟨none, 0, by rw [e, hn]⟩
  · exact ⟨_, _, e⟩
theorem size_toList (s : ByteArray) : s.data.toList.length = s.size := by rw [Array.length_toList]; rfl
end
section
open Go.RowKit Go.Lib
/-- a reader at block a over the bytes s, so many taken, with that error -/
structure Rd (w : World) (a : Nat) (s : ByteArray) (p : Nat) (e : Int) : Prop where
  lt : a < w.heap.size
  le : p ≤ s.size
  max : s.size ≤ 281474976710656
  c0 : w.cell? ⟨a, 0, none⟩ = some (.string s)
  c1 : w.cell? ⟨a, 1, none⟩ = some (.int .i64 p)
  c2 : w.cell? ⟨a, 2, none⟩ = some (.int .i64 e)
  f1 : w.frozen? ⟨a, 1, none⟩ = false
  f2 : w.frozen? ⟨a, 2, none⟩ = false
/-- what a call leaves -/
def Rt (w w' : World) (a : Nat) (s : ByteArray) (p : Nat) (e : Int) : Prop := Rd w' a s p e ∧ Upd w w' a a
theorem Rd.same {w w' : World} {a : Nat} {s : ByteArray} {p : Nat} {e : Int} (h : Rd w a s p e) (hs : w.heap.size ≤ w'.heap.size) (hb : w'.heap[a]? = w.heap[a]?) : Rd w' a s p e where
  lt := by have := h.lt; omega
  le := h.le
  max := h.max
  c0 := by rw [World.cell?_of_block (w := w) (a := ⟨a, 0, none⟩) hb]; exact h.c0
  c1 := by rw [World.cell?_of_block (w := w) (a := ⟨a, 1, none⟩) hb]; exact h.c1
  c2 := by rw [World.cell?_of_block (w := w) (a := ⟨a, 2, none⟩) hb]; exact h.c2
  f1 := by rw [World.frozen?_of_block (w := w) (a := ⟨a, 1, none⟩) hb]; exact h.f1
  f2 := by rw [World.frozen?_of_block (w := w) (a := ⟨a, 2, none⟩) hb]; exact h.f2
theorem Rd.upd {w w' : World} {a a' r' : Nat} {s : ByteArray} {p : Nat} {e : Int} (h : Rd w a s p e) (u : Upd w w' a' r') (h1 : a ≠ a') (h2 : a ≠ r') : Rd w' a s p e :=
  h.same u.size (u.block a h.lt h1 h2)
theorem Rd.alloc {w : World} {a : Nat} {s : ByteArray} {p : Nat} {e : Int} (h : Rd w a s p e) (o : Obj) : Rd (w.alloc o) a s p e := h.same (by simp) (Below.heap_alloc w o a h.lt)
theorem Rd.drewN {w : World} {a : Nat} {s : ByteArray} {p : Nat} {e : Int} (h : Rd w a s p e) (n : Nat) : Rd (w.drewN n) a s p e := ⟨h.lt, h.le, h.max, h.c0, h.c1, h.c2, h.f1, h.f2⟩
theorem Rd.setErr {w : World} {a : Nat} {s : ByteArray} {p : Nat} {e : Int} (h : Rd w a s p e) (e' : Int) : Rd (w.setCell ⟨a, 2, none⟩ (.int .i64 e')) a s p e' where
  lt := by simpa using h.lt
  le := h.le
  max := h.max
  c0 := by rw [World.cell?_setCell_other _ _ _ _ (by simp)]; exact h.c0
  c1 := by rw [World.cell?_setCell_other _ _ _ _ (by simp)]; exact h.c1
  c2 := World.cell?_setCell_same _ _ _ h.c2
  f1 := by simpa using h.f1
  f2 := by simpa using h.f2
theorem Rd.setAt {w : World} {a : Nat} {s : ByteArray} {p : Nat} {e : Int} (h : Rd w a s p e) (p' : Nat) (hp : p' ≤ s.size) : Rd (w.setCell ⟨a, 1, none⟩ (.int .i64 p')) a s p' e where
  lt := by simpa using h.lt
  le := hp
  max := h.max
  c0 := by rw [World.cell?_setCell_other _ _ _ _ (by simp)]; exact h.c0
  c1 := World.cell?_setCell_same _ _ _ h.c1
  c2 := by rw [World.cell?_setCell_other _ _ _ _ (by simp)]; exact h.c2
  f1 := by simpa using h.f1
  f2 := by simpa using h.f2
theorem Upd.setCell {w w' : World} {a r : Nat} (h : Upd w w' a r) (i : Nat) (v : Value) : Upd w (w'.setCell ⟨a, i, none⟩ v) a r :=
  ⟨h.os, h.tape, h.output, by simp; exact h.size, fun k hk h1 h2 => by rw [Below.heap_setCell w' ⟨a, i, none⟩ v k h1]; exact h.block k hk h1 h2⟩
theorem Upd.drewN {w w' : World} {a r : Nat} (h : Upd w w' a r) (n : Nat) : Upd w (w'.drewN n) a r := ⟨h.os, h.tape, h.output, h.size, h.block⟩
theorem Rt.refl {w : World} {a : Nat} {s : ByteArray} {p : Nat} {e : Int} (h : Rd w a s p e) : Rt w w a s p e := ⟨h, Upd.refl _ _ _⟩
theorem Rt.trans {w w1 w2 : World} {a : Nat} {s : ByteArray} {p p' : Nat} {e e' : Int} (h : Rt w w1 a s p e) (k : Rt w1 w2 a s p' e') : Rt w w2 a s p' e' := ⟨k.1, h.2.trans k.2 (.inl rfl)⟩

theorem rErr (a : Nat) (s : ByteArray) (p : Nat) (e : Int) (w : World) (h : Rd w a s p e) :
    Calls Try.prog 88 #[.pointer (some ⟨a, 0, none⟩)] w fun x w' => x = .returned (.int .i64 e) ∧ w' = w := by
  obtain ⟨h1, h2, h3, c0, c1, c2, f1, f2⟩ := h
  go_enter Try.func88, Try.ntmps88
  go_wp2
  go_ret
  exact ⟨rfl, rfl⟩
theorem rStopped (a : Nat) (s : ByteArray) (p : Nat) (e : Int) (w : World) (h : Rd w a s p e) :
    Calls Try.prog 81 #[.pointer (some ⟨a, 0, none⟩)] w fun x w' => x = .returned (.bool (e != 0)) ∧ w' = w := by
  have H := hide h
  clear h
  go_enter Try.func81, Try.ntmps81
  go_wp2_with fail
  refine (rErr a s p e _ (unhide H)).mono ?_
  rintro x w1 ⟨rfl, rfl⟩
  go_wp2
  go_ret
  exact ⟨rfl, rfl⟩
theorem rStop0 (a : Nat) (s : ByteArray) (p : Nat) (w : World) (h : Rd w a s p 0) :
    Calls Try.prog 81 #[.pointer (some ⟨a, 0, none⟩)] w fun x w' => x = .returned (.bool false) ∧ w' = w := rStopped a s p 0 w h
theorem rStop1 (a : Nat) (s : ByteArray) (p : Nat) (e : Int) (w : World) (h : Rd w a s p e) (he : e ≠ 0) :
    Calls Try.prog 81 #[.pointer (some ⟨a, 0, none⟩)] w fun x w' => x = .returned (.bool true) ∧ w' = w := by
  have := rStopped a s p e w h
  rw [bne_iff_ne.2 he] at this
  exact this
theorem rLeft (a : Nat) (s : ByteArray) (p : Nat) (e : Int) (w : World) (h : Rd w a s p e) :
    Calls Try.prog 82 #[.pointer (some ⟨a, 0, none⟩)] w fun x w' => x = .returned (.int .i64 ((s.size : Int) - p)) ∧ ∃ n, w' = w.drewN n := by
  obtain ⟨h1, h2, h3, c0, c1, c2, f1, f2⟩ := h
  go_enter Try.func82, Try.ntmps82
  go_wp2
  go_quiet (fail)
  go_wp2
  go_ret
  exact ⟨rfl, _, rfl⟩
/-- what End says -/
def endE (n p : Nat) (e : Int) : Int := if e = 0 then (if p < n then 12 else 0) else e
theorem rFail1 (a : Nat) (s : ByteArray) (p : Nat) (e : Int) (x : Int) (w : World) (h : Rd w a s p e) (he : e ≠ 0) :
    Calls Try.prog 67 #[.pointer (some ⟨a, 0, none⟩), .int .i64 x] w fun x w' => x = .returned (.tuple #[]) ∧ w' = w := by
  have H := hide h
  clear h
  go_enter Try.func67, Try.ntmps67
  go_wp2_with fail
  refine (rStop1 a s p e _ (unhide H) he).mono ?_
  rintro x w1 ⟨rfl, rfl⟩
  go_wp2
  go_returns
  exact ⟨rfl, rfl⟩
theorem rFail0 (a : Nat) (s : ByteArray) (p : Nat) (x : Int) (w : World) (h : Rd w a s p 0) :
    Calls Try.prog 67 #[.pointer (some ⟨a, 0, none⟩), .int .i64 x] w fun y w' => y = .returned (.tuple #[]) ∧ Rt w w' a s p x := by
  have H := hide h
  obtain ⟨h1, h2, h3, c0, c1, c2, f1, f2⟩ := h
  clear c0 c1
  go_enter Try.func67, Try.ntmps67
  go_wp2_with fail
  refine (rStop0 a s p _ (unhide H)).mono ?_
  rintro y w1 ⟨rfl, rfl⟩
  go_wp2
  go_returns
  exact ⟨rfl, (unhide H).setErr x, (Upd.refl _ _ _).setCell _ _⟩
/-- what Fail makes of an error -/
def failE (e x : Int) : Int := if e = 0 then x else e
theorem rFail (a : Nat) (s : ByteArray) (p : Nat) (e x : Int) (w : World) (h : Rd w a s p e) :
    Calls Try.prog 67 #[.pointer (some ⟨a, 0, none⟩), .int .i64 x] w fun y w' => y = .returned (.tuple #[]) ∧ Rt w w' a s p (failE e x) := by
  by_cases he : e = 0
  · subst he
    exact rFail0 a s p x w h
  · refine (rFail1 a s p e x w h he).mono ?_
    rintro y w1 ⟨rfl, rfl⟩
    refine ⟨rfl, ?_⟩
    rw [failE, if_neg he]
    exact Rt.refl h
theorem rNew (s : ByteArray) (w : World) :
    Calls Try.prog 47 #[.string s] w fun e w' => e = .returned (.pointer (some ⟨w.heap.size, 0, none⟩)) ∧ w' = w.alloc (.cells #[.string s, .int .i64 0, .int .i64 0] 107) := by
  go_enter Try.func47, Try.ntmps47
  go_wp2
  go_ret
  exact ⟨rfl, rfl⟩
theorem Rd.new (s : ByteArray) (w : World) (t : TypeId) (hs : s.size ≤ 281474976710656) : Rd (w.alloc (.cells #[.string s, .int .i64 0, .int .i64 0] t)) w.heap.size s 0 0 where
  lt := by simp
  le := Nat.zero_le _
  max := hs
  c0 := by simp [go_sem]
  c1 := by simp [go_sem]
  c2 := by simp [go_sem]
  f1 := by rw [frozen?_alloc_cells]; simp [World.frozen?]
  f2 := by rw [frozen?_alloc_cells]; simp [World.frozen?]
end
section
open Go.RowKit Go.Lib
/-- the number that digits to the base 128 are, from the i-th on -/
def dg : List UInt8 → Nat → Nat → Nat × Nat × Int
  | [], _, _ => (0, 0, 10)
  | d :: l, i, v =>
    if 10 ≤ i then (0, 0, 10) else if i = 9 ∧ 1 < d.toNat then (0, 0, 11)
    else if 128 ≤ d.toNat then dg l (i + 1) (v + d.toNat % 128 * 128 ^ i)
    else if 0 < i ∧ d.toNat = 0 then (0, 0, 11) else (v + d.toNat % 128 * 128 ^ i, i + 1, 0)
theorem drop_cons (s : ByteArray) (k : Nat) (h : k < s.size) : s.data.toList.drop k = s[k] :: s.data.toList.drop (k + 1) := by
  rw [List.drop_eq_getElem_cons (by simpa using h)]; rfl
theorem dgA (t : ByteArray) (k x : Nat) (h : k < t.size) (h9 : k = 9) (hd : 1 < t[k].toNat) : dg (t.data.toList.drop k) k x = (0, 0, 11) := by
  rw [drop_cons t k h, dg, if_neg (by omega), if_pos ⟨h9, hd⟩]
theorem dgB (t : ByteArray) (k x : Nat) (h : k < t.size) (h9 : k < 9) (hd : 128 ≤ t[k].toNat) : dg (t.data.toList.drop k) k x = dg (t.data.toList.drop (k + 1)) (k + 1) (x + t[k].toNat % 128 * 128 ^ k) := by
  rw [drop_cons t k h, dg, if_neg (by omega), if_neg (by omega), if_pos hd]
theorem dgC (t : ByteArray) (k x : Nat) (h : k < t.size) (h9 : k < 10) (h0 : 0 < k) (hd : t[k].toNat = 0) : dg (t.data.toList.drop k) k x = (0, 0, 11) := by
  rw [drop_cons t k h, dg, if_neg (by omega), if_neg (by omega), if_neg (by omega), if_pos ⟨h0, hd⟩]
theorem dgD (t : ByteArray) (k x : Nat) (h : k < t.size) (h9 : k < 10) (hA : k = 9 → t[k].toNat ≤ 1) (hd : t[k].toNat < 128) (h0 : k = 0 ∨ t[k].toNat ≠ 0) : dg (t.data.toList.drop k) k x = (x + t[k].toNat % 128 * 128 ^ k, k + 1, 0) := by
  rw [drop_cons t k h, dg, if_neg (by omega), if_neg (by omega), if_neg (by omega), if_neg (by omega)]
theorem dgE (t : ByteArray) (k x : Nat) (h : t.size ≤ k ∨ 10 ≤ k) : dg (t.data.toList.drop k) k x = (0, 0, 10) := by
  rcases h with h | h
  · rw [List.drop_eq_nil_of_le (by rw [size_toList]; exact h)]; rfl
  · cases t.data.toList.drop k with
    | nil => rfl
    | cons d l => rw [dg, if_pos h]
theorem and127 (d : UInt8) : bits .and .u8 (d.toNat : Int) 127 = ((d.toNat % 128 : Nat) : Int) := by
  have hd := d.toNat_lt
  rw [u8_and _ _ (by omega) (by omega) (by omega) (by omega)]
  congr 1
  exact Nat.and_two_pow_sub_one_eq_mod d.toNat 7
theorem or_digit (x m j : Nat) (hj : j ≤ 9) (hx : x < 128 ^ j) (hm : m * 128 ^ j < 18446744073709551616) : bits .or .u64 (x : Int) (IntKind.u64.wrap (IntKind.u64.wrap ((m : Nat) : Int) * ((128 ^ j : Nat) : Int))) = ((x + m * 128 ^ j : Nat) : Int) := by
  have hp : 0 < 128 ^ j := Nat.pow_pos (by decide)
  have hj2 : 128 ^ j ≤ 128 ^ 9 := Nat.pow_le_pow_right (by decide) hj
  have hm1 : m < 18446744073709551616 := Nat.lt_of_le_of_lt (Nat.le_mul_of_pos_right m hp) hm
  have e1 : IntKind.u64.wrap ((m : Nat) : Int) = m := by rw [IntKind.wrap_u64]; omega
  have e2 : IntKind.u64.wrap ((m : Int) * ((128 ^ j : Nat) : Int)) = ((m * 128 ^ j : Nat) : Int) := by
    rw [IntKind.wrap_u64, ← Int.natCast_mul]; omega
  rw [e1, e2, u64_or_nat _ _ (by omega) hm]
  congr 1
  have e3 : (128 : Nat) ^ j = 2 ^ (7 * j) := (Nat.pow_mul 2 7 j).symm
  rw [e3] at hx ⊢
  have := Nat.two_pow_add_eq_or_of_lt (i := 7 * j) (b := x) hx m
  rw [Nat.or_comm, Nat.mul_comm m, ← this, Nat.add_comm]
theorem ret3 {A B C : Int} {q : Nat × Nat × Int} {v u : Nat} {e : Int} (h : q = (v, u, e)) (hA : A = v) (hB : B = u) (hC : C = e) :
    Ending.returned (.tuple #[.int .u64 A, .int .i64 B, .int .i64 C]) = .returned (.tuple #[.int .u64 q.1, .int .i64 q.2.1, .int .i64 q.2.2]) := by
  rw [h, hA, hB, hC]
/-- the digit laid behind the others -/
theorem orS (x : Nat) (d : UInt8) (k : Nat) (hk : k < 9) (hx : x < 128 ^ k) : bits .or .u64 (x : Int) (IntKind.u64.wrap (IntKind.u64.wrap (bits .and .u8 (d.toNat : Int) 127) * 2 ^ (7 * k))) = ((x + d.toNat % 128 * 128 ^ k : Nat) : Int) := by
  have e : ((2 : Int) ^ (7 * k)) = ((128 ^ k : Nat) : Int) := by
    have e : (128 : Nat) ^ k = 2 ^ (7 * k) := (Nat.pow_mul 2 7 k).symm
    rw [e]; simp
  rw [and127, e]
  refine or_digit x _ k (by omega) hx ?_
  have h1 : 128 ^ k ≤ 128 ^ 8 := Nat.pow_le_pow_right (by decide) (by omega)
  have h2 : d.toNat % 128 * 128 ^ k ≤ 127 * 128 ^ 8 := Nat.mul_le_mul (by omega) h1
  omega
theorem orS9 (x : Nat) (d : UInt8) (hd : d.toNat ≤ 1) (hx : x < 128 ^ 9) : bits .or .u64 (x : Int) (IntKind.u64.wrap (IntKind.u64.wrap (bits .and .u8 (d.toNat : Int) 127) * 9223372036854775808)) = ((x + d.toNat % 128 * 128 ^ 9 : Nat) : Int) := by
  rw [and127]
  exact or_digit x _ 9 (by omega) hx (by omega)
/-- what Uint takes -/
def uintS (s : ByteArray) (p : Nat) (e : Int) (most : Nat) : Nat × Nat × Int :=
  if e ≠ 0 then (0, p, e)
  else if (dg (s.data.toList.drop p) 0 0).2.2 ≠ 0 then (0, p, (dg (s.data.toList.drop p) 0 0).2.2)
  else if most < (dg (s.data.toList.drop p) 0 0).1 then (0, p, 11)
  else ((dg (s.data.toList.drop p) 0 0).1, p + (dg (s.data.toList.drop p) 0 0).2.1, 0)
theorem dg_used (l : List UInt8) (i v : Nat) : (dg l i v).2.1 ≤ i + l.length := by
  induction l generalizing i v with
  | nil => simp [dg]
  | cons d l ih =>
    rw [dg]
    split
    · simp
    · split
      · simp
      · split
        · have := ih (i + 1) (v + d.toNat % 128 * 128 ^ i); simp; omega
        · split <;> simp
end
section
open Go.RowKit Go.Lib
set_option maxHeartbeats 400000 in
theorem wByte' (a r : Nat) (bs : List UInt8) (b : UInt8) (w : World) (h : Wr w a r bs) (hl : bs.length < 140737488355328) :
    Calls Try.prog 32 #[.pointer (some ⟨a, 0, none⟩), .int .u8 (b.toNat : Int)] w fun e w' => e = .returned (.tuple #[]) ∧ ∃ r', Put w w' a r r' (bs ++ [b]) := by
  obtain ⟨i0, hi, hz0, hz1, hz2⟩ := info_parts info5
  obtain ⟨x, hc, hf, hown, ao, cap, rfl⟩ := h.cellAt
  have hlt := h.1
  go_enter Try.func32, Try.ntmps32
  go_wp2_with (at_builtin; refine wpList_put _ rfl (.tmp 10) (.tmp 12) 81 rfl (a + 1) 5 i0 (.int .u8 0) 1 1 Try.underlying81 hi hz0 hz1 hz2 rfl (by decide) _ _ _ rfl (hown.alloc _) ⟨w.heap.size, 0, none⟩ 1 1 [.int .u8 (b.toNat : Int)] rfl rfl ?c1 ?c2 ?c3 ?c4 ?c5 ?_)
  case c1 => intro j u hj; match j, hj with | 0, hj => simp at hj; subst hj; simp [Addr.add]
  case c2 => intro u hu; simp at hu; subst hu; rfl
  case c3 => unfold maxLen; omega
  case c4 => omega
  case c5 => simp; omega
  intro v' w1 hown' hg hrow
  have hown2 : w1.ownsRow (a + 1) 5 1 v' (bs ++ [b]).length (Bs (bs ++ [b])) := by
    rw [Bs_append, List.length_append]; exact hown'
  have hca : (w.alloc (.cells #[.int .u8 (b.toNat : Int)] 5)).cell? ⟨a, 0, none⟩ = some (.slice ao bs.length cap) := by rw [World.cell?_alloc_past _ _ _ hlt]; exact hc
  have hput := put_of (h.alloc _) hca (by simp; omega) hown2 hg hrow
  obtain ⟨hc1, hf1⟩ := (h.alloc _).cellGrown hca hg
  obtain ⟨ao', cap', rfl⟩ := owns_shape hown'
  have HP := hide hput
  clear hput hown2 hown' hg hrow hca hown
  go_wp2
  go_returns
  obtain ⟨r', hp⟩ := unhide HP
  exact ⟨rfl, r', hp.alloc'⟩
theorem u8_of (v : Int) (h0 : 0 ≤ v) (h1 : v < 256) : v = ((UInt8.ofNat v.toNat).toNat : Int) := by
  have : (UInt8.ofNat v.toNat).toNat = v.toNat := by simp; omega
  rw [this]; omega
theorem wByte (a r : Nat) (bs : List UInt8) (v : Int) (w : World) (h : Wr w a r bs) (h0 : 0 ≤ v) (h1 : v < 256) (hl : bs.length < 140737488355328) :
    Calls Try.prog 32 #[.pointer (some ⟨a, 0, none⟩), .int .u8 v] w fun e w' => e = .returned (.tuple #[]) ∧ ∃ r', Put w w' a r r' (bs ++ [UInt8.ofNat v.toNat]) := by
  have h := wByte' a r bs (UInt8.ofNat v.toNat) w h hl
  rw [← u8_of v h0 h1] at h
  exact h
/-- a number to the base 128, the lowest digit first -/
def uintB : Nat → Nat → List UInt8
  | 0, v => [UInt8.ofNat v]
  | f + 1, v => if v < 128 then [UInt8.ofNat v] else UInt8.ofNat (v % 128 + 128) :: uintB f (v / 128)
theorem or128 (u : Nat) : bits .or .u8 ((u : Int) % 256) 128 = ((u % 128 + 128 : Nat) : Int) := by
  rw [u8_or _ _ (by omega) (by omega) (by omega) (by omega)]
  have e1 : ((u : Int) % 256).toNat = u % 256 := by omega
  rw [e1]
  have e2 : (128 : Int).toNat = 128 := rfl
  rw [e2]
  congr 1
  have h : ∀ x : Fin 256, x.1 ||| 128 = x.1 % 128 + 128 := by decide +kernel
  have := h ⟨u % 256, Nat.mod_lt _ (by decide)⟩
  simp only at this
  rw [this]; omega
theorem or128_rng (u : Nat) : 0 ≤ bits .or .u8 ((u : Int) % 256) 128 ∧ bits .or .u8 ((u : Int) % 256) 128 < 256 := by rw [or128]; omega
set_option maxRecDepth 100000 in
set_option maxHeartbeats 400000 in
theorem wUint (a r : Nat) (bs : List UInt8) (v : Nat) (w : World) (h : Wr w a r bs) (hv : v < 18446744073709551616) (hl : bs.length + 10 ≤ 140737488355328) :
    Calls Try.prog 44 #[.pointer (some ⟨a, 0, none⟩), .int .u64 v] w fun e w' => e = .returned (.tuple #[]) ∧ ∃ r', Put w w' a r r' (bs ++ uintB 9 v) := by
  go_enter Try.func44, Try.ntmps44
  go_wp2
  go_loopw [1] (fun x wr => ∃ u f r' : Nat, ∃ acc : List UInt8, u < 18446744073709551616 ∧ x = .int .u64 u ∧ acc.length ≤ 9 ∧ Hid (Put w wr a r r' (bs ++ acc)) ∧ Hid (u < 128 ^ (f + 1) ∧ acc.length + f = 9 ∧ acc ++ uintB f u = uintB 9 v)) (fun x _ => (RowKit.intOf x).toNat)
  case atStart => exact ⟨v, 9, r, [], hv, rfl, by simp, hide (by simpa using Put.refl h), hide ⟨by omega, by simp, rfl⟩⟩
  case round =>
    obtain ⟨u, f, r1, acc, hu, rfl, hacc, HP, H⟩ := hrel
    by_cases hlt : u < 128
    · go_wp2_with fail
      refine (wByte a r1 (bs ++ acc) (u : Int) _ (unhide HP).1 (by omega) (by omega) ?_).mono ?_
      · rw [List.length_append]; omega
      rintro e w1 ⟨rfl, hp1⟩
      have H1 := hide hp1
      clear hp1
      go_wp2
      go_returns
      obtain ⟨k1, k2, k3⟩ := unhide H
      obtain ⟨r2, hp2⟩ := unhide H1
      have e1 : UInt8.ofNat ((u : Int)).toNat = UInt8.ofNat u := rfl
      have e2 : uintB f u = [UInt8.ofNat u] := by cases f <;> simp [uintB, hlt]
      rw [e1, List.append_assoc, ← e2, k3] at hp2
      exact ⟨rfl, r2, (unhide HP).trans hp2⟩
    · go_wp2_with fail
      refine (wByte a r1 (bs ++ acc) _ _ (unhide HP).1 (or128_rng u).1 (or128_rng u).2 ?_).mono ?_
      · rw [List.length_append]; omega
      rintro e w1 ⟨rfl, hp1⟩
      have H1 := hide hp1
      clear hp1
      go_wp2
      go_roundw
      case rel =>
        obtain ⟨k1, k2, k3⟩ := unhide H
        obtain ⟨r2, hp2⟩ := unhide H1
        match f, k1, k2, k3 with
        | 0, k1, _, _ => exact absurd k1 (by omega)
        | f + 1, k1, k2, k3 =>
        rw [uintB, if_neg hlt] at k3
        have e1 : UInt8.ofNat (bits .or .u8 ((u : Int) % 256) 128).toNat = UInt8.ofNat (u % 128 + 128) := by rw [or128]; rfl
        rw [e1, List.append_assoc] at hp2
        refine ⟨u / 128, f, r2, acc ++ [UInt8.ofNat (u % 128 + 128)], by omega, by go_num, by simp; omega, hide ((unhide HP).trans hp2), hide ⟨?_, by simp; omega, by simpa using k3⟩⟩
        rw [Nat.pow_succ] at k1
        omega
      case measure => simp [RowKit.intOf]; omega

theorem told_run {w : World} {a r : Nat} {bs : List UInt8} (h : Wr w a r bs) {ao : Option Addr} {cap : Nat} (hc : w.cell? ⟨a, 0, none⟩ = some (.slice ao bs.length cap)) :
    (convert 81 9 (.slice ao bs.length cap)).run Try.prog w = .ok (.string ⟨bs.toArray⟩) w := by
  obtain ⟨h1, h2, h3, v0, h4, h5, h6, h7⟩ := h
  obtain rfl : v0 = .slice ao bs.length cap := by rw [h4] at hc; exact Option.some.inj hc
  rcases h6.2 with ⟨e, hn⟩ | ⟨g, cap', cur, e, _⟩
  · have hb : bs = [] := List.eq_nil_of_length_eq_zero hn
    subst hb
    cases e
    exact run_convert_bytes_nil w 81 5 Try.underlying81 Try.underlying5 _ _ 9 Try.underlying9
  · cases e
    refine run_convert_bytes_back w 81 9 5 ⟨g, 0, none⟩ cap bs Try.underlying81 Try.underlying5 Try.underlying9 fun j hj => ?_
    refine h6.cells rfl j _ ?_
    simp [Bs, hj]
theorem wTold (a r : Nat) (bs : List UInt8) (w : World) (h : Wr w a r bs) :
    Calls Try.prog 36 #[.pointer (some ⟨a, 0, none⟩)] w fun e w' => e = .returned (.string ⟨bs.toArray⟩) ∧ w' = w := by
  obtain ⟨x, hc, hf, hown, ao, cap, rfl⟩ := h.cellAt
  have hrun := told_run h hc
  go_enter Try.func36, Try.ntmps36
  go_wp2
  go_ret
  exact ⟨rfl, rfl⟩
theorem wNew (w : World) :
    Calls Try.prog 31 #[] w fun e w' => e = .returned (.pointer (some ⟨w.heap.size, 0, none⟩)) ∧ w' = w.alloc (.cells #[.slice none 0 0] 83) := by
  go_enter Try.func31, Try.ntmps31
  go_wp2
  go_ret
  exact ⟨rfl, rfl⟩
theorem Wr.new (w : World) (t : TypeId) : Wr (w.alloc (.cells #[.slice none 0 0] t)) w.heap.size w.heap.size [] := by
  refine ⟨by simp, by simp, by simp, .slice none 0 0, ?_, ?_, World.ownsRow_nil _ _ _ _, .inl rfl⟩
  · simp [go_sem]
  · rw [frozen?_alloc_cells]; simp [World.frozen?]
end
end Go.Proofs.Ytopabadnbelegaa.W
namespace Go.Proofs.Ytopabadnbelegaa
open Go.RowKit

theorem hide {p : Prop} (h : p) : Hid p := h
theorem unhide {p : Prop} (h : Hid p) : p := h
theorem heapCell_same {w : World} {g : Nat} {cs : Array Value} {t : TypeId} {fr : Nat × Nat} (h : w.heap[g]? = some (.cells cs t fr)) (k : Nat) (v : Value) : (w.setCell ⟨g, k, none⟩ v).heap[g]? = some (.cells (cs.setIfInBounds k v) t fr) := by
  simp [World.setCell, Array.getElem?_modify, h]
theorem belowCell {B : Nat} {a w : World} (h : Below B a w) {p : Addr} (hg : B ≤ p.block) (v : Value) : Below B a (w.setCell p v) :=
  ⟨h.os, h.tape, h.output, by simpa [World.setCell] using h.size, fun k hk => (Deep.blk_setCell_other w p v k (by omega)).trans (h.block k hk)⟩
theorem belowDrewN {B : Nat} {a w : World} (h : Below B a w) (n : Nat) : Below B a (w.drewN n) := ⟨h.os, h.tape, h.output, h.size, h.block⟩
/-- what is done to the block g, and to new ones, alone -/
structure U1 (w w' : World) (g : Nat) : Prop where
  os : w'.os = w.os
  tape : w'.tape = w.tape
  output : w'.output = w.output
  size : w.heap.size ≤ w'.heap.size
  block : ∀ k, k < w.heap.size → k ≠ g → w'.heap[k]? = w.heap[k]?
theorem U1.refl (w : World) (g : Nat) : U1 w w g := ⟨rfl, rfl, rfl, Nat.le_refl _, fun _ _ _ => rfl⟩
theorem U1.set {w w' : World} {g : Nat} (h : U1 w w' g) (k : Nat) (v : Value) : U1 w (w'.setCell ⟨g, k, none⟩ v) g :=
  ⟨h.os, h.tape, h.output, by simpa [World.setCell] using h.size, fun q hq hn => (Deep.blk_setCell_other w' ⟨g, k, none⟩ v q hn).trans (h.block q hq hn)⟩
theorem U1.trans {a b c : World} {g : Nat} (h : U1 a b g) (k : U1 b c g) : U1 a c g :=
  ⟨k.os.trans h.os, k.tape.trans h.tape, k.output.trans h.output, Nat.le_trans h.size k.size, fun q hq hn => (k.block q (Nat.lt_of_lt_of_le hq h.size) hn).trans (h.block q hq hn)⟩
theorem U1.below' {a b : World} {g : Nat} (h : Below a.heap.size a b) : U1 a b g := ⟨h.os, h.tape, h.output, h.size, fun q hq _ => h.block q hq⟩
theorem U1.toBelow {w w' : World} {g B : Nat} (h : U1 w w' g) (hB : B ≤ w.heap.size) (hg : B ≤ g) : Below B w w' := ⟨h.os, h.tape, h.output, h.size, fun k hk => h.block k (by omega) (by omega)⟩
theorem U1.drewN {a b : World} {g : Nat} (h : U1 a b g) (n : Nat) : U1 a (b.drewN n) g := ⟨h.os, h.tape, h.output, h.size, h.block⟩
theorem U1.drew {a b : World} {g : Nat} (h : U1 a b g) : U1 a b.drew g := ⟨h.os, h.tape, h.output, h.size, h.block⟩
/-- a new variable that holds a value -/
theorem wpList_box_row {P : Program} {ops : Array Oper} {rest : List Oper} {o : Oper} {a : Act} {w : World} {Q : Exit → Act → World → Prop} (hg : o.guard = none) (t : TypeId) (x : Operand) (ho : o.op = .box t x) (d : Option Tmp) (hd : o.dst = d)
    (N : Nat) (hN : w.heap.size = N) (cells : Array Value) (hx : (a.eval x).cells = cells)
    (h : ∀ w', Hid (w'.heap[N]? = some (.cells cells t (0, 0))) → Hid (Below N w w') → Hid (w'.heap.size = N + 1) → wpList P ops Q rest (a.put d (.pointer (some ⟨N, 0, none⟩))) w') : wpList P ops Q (o :: rest) a w := by
  subst hN
  subst hd hx
  refine wpList_plain hg fun K hK => ?_
  unfold Oper.wp execOp
  simp only [ho, Sem.run_bind, Instr.box, newVar, newRow, run_newObj_alloc, Sem.run_pure, Result.andThen_ok]
  exact hK _ _ (h _ (heap_alloc_new _ _) ((Below.refl _ _).alloc (Nat.le_refl _) _) (hide (by simp)))
end Go.Proofs.Ytopabadnbelegaa
namespace Go.Proofs.Ytopabadnbelegaa
open Go.RowKit

section
variable {P : Program} {ops : Array Oper} {Q : Exit → Act → World → Prop} {md : Region.Mode} {S : World → Prop} {last : Nat}
/-- whatever order is picked from here on, and S holds behind each but the last -/
def wpAnyL (P : Program) (md : Region.Mode) (ops : Array Oper) (Q : Exit → Act → World → Prop) (S : World → Prop) (last : Nat) : Nat → Array Bool → Act → World → Prop
  | 0, listed, a, w => Region.ready md ops listed = [] ∧ Q .normal a w
  | fuel + 1, listed, a, w =>
    (Region.ready md ops listed = [] → Q .normal a w) ∧
    ∀ i ∈ Region.ready md ops listed, wpOp P ops Q i (fun a' w' => (i ≠ last → S w') ∧ wpAnyL P md ops Q S last fuel (listed.setIfInBounds i true) a' w') a w
theorem wpAny_of_L : ∀ (fuel : Nat) (listed : Array Bool) (a : Act) (w : World), wpAnyL P md ops Q S last fuel listed a w → wpAny P md ops Q fuel listed a w
  | 0, _, _, _, h => h
  | fuel + 1, _, _, _, h => ⟨h.1, fun i hi => wpOp_mono (fun a' w' h' => wpAny_of_L fuel _ a' w' h'.2) (h.2 i hi)⟩
/-- y waits for x -/
def waits (md : Region.Mode) (ops : Array Oper) (y x : Nat) : Bool :=
  match ops[y]? with
  | some o => o.after.any fun e => Region.binds md e && e.on == x
  | none => false
/-- a chain of those that wait, from x to the last -/
def chained (md : Region.Mode) (ops : Array Oper) (last : Nat) : Nat → List Nat → Bool
  | x, [] => waits md ops last x
  | x, y :: r => waits md ops y x && chained md ops last y r
/-- none of them has come up -/
def unlisted (listed : Array Bool) : List Nat → Prop
  | [] => True
  | y :: r => listed.getD y true = false ∧ unlisted listed r
theorem waits_ready {listed : Array Bool} {y x : Nat} (h : waits md ops y x = true) (hx : listed.getD x true = false) : y ∉ Region.ready md ops listed := by
  intro hy
  obtain ⟨_, oy, hoy, hall⟩ := mem_ready.1 hy
  rw [waits, hoy] at h
  simp only [Array.any_eq_true] at h
  obtain ⟨k, hk, h⟩ := h
  simp only [Bool.and_eq_true, beq_iff_eq] at h
  have h1 := hall _ (Array.getElem_mem hk) h.1
  rw [h.2] at h1
  rcases Nat.lt_or_ge x listed.size with h' | h'
  · simp [h'] at hx h1; rw [hx] at h1; cases h1
  · simp [Array.getElem?_eq_none h'] at h1
theorem chained_last : ∀ (r : List Nat) (x : Nat) (listed : Array Bool), chained md ops last x r = true → listed.getD x true = false → unlisted listed r → last ∉ Region.ready md ops listed
  | [], _, _, h, hx, _ => waits_ready h hx
  | y :: r, x, listed, h, _, hu => by
    rw [chained, Bool.and_eq_true] at h
    exact chained_last r y listed h.2 hu.1 hu.2
theorem chained_keep : ∀ (r : List Nat) (x j : Nat) (listed : Array Bool), chained md ops last x r = true → listed.getD x true = false → unlisted listed r → j ∈ Region.ready md ops listed → unlisted (listed.setIfInBounds j true) r
  | [], _, _, _, _, _, _, _ => trivial
  | y :: r, x, j, listed, h, hx, hu, hj => by
    rw [chained, Bool.and_eq_true] at h
    refine ⟨?_, chained_keep r y j listed h.2 hu.1 hu.2 hj⟩
    have hne : j ≠ y := fun e => waits_ready h.1 hx (e ▸ hj)
    rw [getD_set_ne true hne]
    exact hu.1
theorem wpAnyL_first {i : Nat} {oi : Oper} {v : Value} (hi : ops[i]? = some oi) (hsel : ∀ (j : Nat) (o : Oper) cs b, ops[j]? = some o → o.op ≠ .select cs b)
    (hQ : ∀ c a w, Q (.panic c) (a.put oi.dst v) w → Q (.panic c) a w) (r : List Nat) (hc : chained md ops last i r = true) :
    ∀ (fuel : Nat) (listed : Array Bool) (a : Act) (w : World), unlisted listed r →
      (∀ j oj, ops[j]? = some oj → j ≠ i → listed.getD j true = false → (∀ e ∈ oj.after, Region.binds md e = true → e.on ≠ i) → oi.apart ops oj = true) →
      i ∈ Region.ready md ops listed → YieldsIf P ops S oi v a → S w →
      wpAnyL P md ops Q S last fuel (listed.setIfInBounds i true) (a.put oi.dst v) w → wpAnyL P md ops Q S last (fuel + 1) listed a w := by
  intro fuel
  induction fuel with
  | zero =>
    intro listed a w _ _ hr hy hS H
    refine ⟨fun h => (by rw [h] at hr; cases hr), fun j hj => ?_⟩
    by_cases hji : j = i
    · subst hji; exact hy.wpOp hi hS ⟨fun _ => hS, H⟩
    · have := ready_mono hj hji
      rw [H.1] at this
      cases this
  | succ fuel ih =>
    intro listed a w hu hfree hr hy hS H
    refine ⟨fun h => (by rw [h] at hr; cases hr), fun j hj => ?_⟩
    by_cases hji : j = i
    · subst hji; exact hy.wpOp hi hS ⟨fun _ => hS, H⟩
    · have h1 := H.2 j (ready_mono hj hji)
      obtain ⟨hjun, oj, hoj, hall⟩ := mem_ready.1 hj
      have hiun : listed.getD i true = false := (mem_ready.1 hr).1
      have hnot : ∀ e ∈ oj.after, Region.binds md e = true → e.on ≠ i := fun e he hb heq => by
        have h1 := hall e he hb
        have h0 := (mem_ready.1 hr).1
        rw [heq] at h1
        rcases Nat.lt_or_ge i listed.size with h' | h'
        · simp [h'] at h0 h1; rw [h0] at h1; cases h1
        · simp [Array.getElem?_eq_none h'] at h1
      have hjl : j ≠ last := fun e => chained_last r i listed hc hiun hu (e ▸ hj)
      have h2 := wpOp_putIf hoj (hfree j oj hoj hji hjun hnot) (fun cs b => hsel i oi cs b hi) (fun cs b => hsel j oj cs b hoj) hQ hy h1
      have hfree' : ∀ k ok, ops[k]? = some ok → k ≠ i → (listed.setIfInBounds j true).getD k true = false →
          (∀ e ∈ ok.after, Region.binds md e = true → e.on ≠ i) → oi.apart ops ok = true := fun k ok hk hki hun hno => by
        refine hfree k ok hk hki ?_ hno
        by_cases hjk : j = k
        · subst hjk; exact hjun
        · rw [getD_set_ne true hjk] at hun; exact hun
      refine wpOp_mono (fun a' w' h3 => ⟨h3.2.1, ih (listed.setIfInBounds j true) a' w' (chained_keep r i j listed hc hiun hu hj) hfree' (ready_mono hr (Ne.symm hji)) h3.1 (h3.2.1 hjl) ?_⟩) h2
      rw [Array.setIfInBounds_comm _ _ hji]
      exact h3.2.2
/-- take number i first -/
theorem wpAnyL_take (i : Nat) (d : Tmp) (v : Value) (r : List Nat) {oi : Oper} {fuel : Nat} {listed : Array Bool} {a : Act} {w : World} (hi : ops[i]? = some oi) (hd : oi.dst = some d)
    (hs : Region.noSelect ops = true) (hf : Region.free md ops listed i = true) (hr : (Region.ready md ops listed).contains i = true) (hc : chained md ops last i r = true) (hu : (r.all fun y => !listed.getD y true) = true)
    (hQ : ∀ c a w, Q (.panic c) (a.put (some d) v) w → Q (.panic c) a w) (hg : Region.wanted oi (yielded ops a.tmps) = true) (hy : ∀ u, S u → (execOp a.eval oi).run P u = .ok (.value v) u) (hS : S w)
    (h : wpAnyL P md ops Q S last fuel (listed.setIfInBounds i true) (a.put (some d) v) w) : wpAnyL P md ops Q S last (fuel + 1) listed a w := by
  have hu' : unlisted listed r := by
    clear hc
    induction r with
    | nil => trivial
    | cons y r ih =>
      simp only [List.all_cons, Bool.and_eq_true, Bool.not_eq_true'] at hu
      exact ⟨hu.1, ih hu.2⟩
  exact wpAnyL_first hi (Region.noSelect_spec hs) (by rw [hd]; exact hQ) r hc fuel listed a w hu' (Region.free_spec hi hf) (by simpa using hr) (.inl ⟨hg, hy⟩) hS (by rw [hd]; exact h)
/-- one alone may come up -/
theorem wpAnyL_one {i : Nat} {o : Oper} {fuel : Nat} {listed : Array Bool} {a : Act} {w : World} (hr : Region.ready md ops listed = [i]) (ho : ops[i]? = some o) (hg : Region.wanted o (yielded ops a.tmps) = true)
    (h : ∀ K : Act → World → Prop, (∀ a w, (i ≠ last → S w) → wpAnyL P md ops Q S last fuel (listed.setIfInBounds i true) a w → K a w) → Oper.wp P o a w K Q) : wpAnyL P md ops Q S last (fuel + 1) listed a w := by
  refine ⟨fun h0 => absurd (hr ▸ h0) (by simp), ?_⟩
  rw [hr]
  intro j hj
  obtain rfl : j = i := by simpa using hj
  refine wpOp_step ho fun K hK => ?_
  rw [if_pos hg]
  exact h K fun a w hs hw => hK a w ⟨hs, hw⟩
theorem wpAnyL_done {listed : Array Bool} {a : Act} {w : World} (hr : Region.ready md ops listed = []) (h : Q .normal a w) : ∀ fuel, wpAnyL P md ops Q S last fuel listed a w
  | 0 => ⟨hr, h⟩
  | _ + 1 => ⟨fun _ => h, by rw [hr]; simp⟩
theorem wp_region_last {id : Nat} {a : Act} {w : World} (S : World → Prop) (last : Nat) (hm : P.follows .mixedOrders = true) (hS : S w.drew)
    (h : S w.drew → wpAnyL P .any ops Q S last ops.size (Array.replicate ops.size false) a w.drew) : (Code.region id ops true).wp P Q a w :=
  wp_region_any hm (wpAny_of_L _ _ _ _ (h hS))
end
end Go.Proofs.Ytopabadnbelegaa
namespace Go.Proofs.Ytopabadnbelegaa.S
open Go.RowKit Go.Lib
/-- cells that lie somewhere -/
def Lies (w : World) (ao : Option Addr) (xs : List Value) : Prop := 0 < xs.length → ∃ g o, ao = some ⟨g, o, none⟩ ∧ w.rangeAt g o xs
theorem Lies.below {w w' : World} {ao : Option Addr} {xs : List Value} (h : Lies w ao xs) (hb : Below w.heap.size w w') : Lies w' ao xs := fun h0 => by
  obtain ⟨g, o, h1, h2⟩ := h h0
  exact ⟨g, o, h1, fun j v hv => (hb.cell (p := ⟨g, o + j, none⟩) (World.block_lt_of_cell? w _ (h2 j v hv))).trans (h2 j v hv)⟩
theorem Lies.nil (w : World) (ao : Option Addr) : Lies w ao [] := fun h => absurd h (by simp)
theorem Lies.pre {w : World} {ao : Option Addr} {xs ys : List Value} (h : Lies w ao (xs ++ ys)) : Lies w ao xs := fun h0 => by
  obtain ⟨g, o, e, hr⟩ := h (by rw [List.length_append]; omega)
  exact ⟨g, o, e, fun j v hv => hr j v (by rw [List.getElem?_append_left (List.getElem?_eq_some_iff.1 hv).1]; exact hv)⟩
theorem box_below {W u : World} {N : Nat} {o : Obj} (h : W.heap[N]? = some o) (hb : Below W.heap.size W u) : u.heap[N]? = some o := (hb.block N (Array.getElem?_eq_some_iff.1 h).1).trans h
theorem sizeN {P : Program} {t n : Nat} (h : (P.info? t).map (·.size) = some n) (W : World) : (Go.sizeOf t).run P W = .ok n W := by
  cases hq : P.info? t with
  | none => simp [hq] at h
  | some i => simp only [hq, Option.map_some, Option.some.injEq] at h; simp [Go.sizeOf, typeInfo, hq, h]
theorem zero_run {P : Program} {t : TypeId} {cells : Array Value} (hz : ((P.info? t).bind (·.zero)).map (·.cells) = some cells) (w : World) : ∃ z, (zeroValue t).run P w = .ok z w ∧ z.cells = cells := by
  cases hq : P.info? t with
  | none => simp [hq] at hz
  | some i =>
    cases hz' : i.zero with
    | none => simp [hq, hz'] at hz
    | some z => exact ⟨z, by simp [zeroValue, typeInfo, hq, hz'], by simpa [hq, hz'] using hz⟩
/-- a new variable -/
theorem wpList_alloc_row {P : Program} {ops : Array Oper} {rest : List Oper} {o : Oper} {a : Act} {w : World} {Q : Exit → Act → World → Prop} (hg : o.guard = none) (t : TypeId) (ho : o.op = .alloc t) (d : Option Tmp) (hd : o.dst = d)
    (N : Nat) (hN : w.heap.size = N) (cells : Array Value) (hz : ((P.info? t).bind (·.zero)).map (·.cells) = some cells)
    (h : ∀ w', Hid (w'.heap[N]? = some (.cells cells t (0, 0))) → Hid (Below N w w') → Hid (w'.heap.size = N + 1) → wpList P ops Q rest (a.put d (.pointer (some ⟨N, 0, none⟩))) w') : wpList P ops Q (o :: rest) a w := by
  subst hd hN
  obtain ⟨z, h1, h2⟩ := zero_run hz w
  refine wpList_plain hg fun K hK => ?_
  unfold Oper.wp execOp
  simp only [ho, Sem.run_bind, Instr.alloc, h1, newVar, newRow, run_newObj_alloc, Sem.run_pure, Result.andThen_ok, h2]
  exact hK _ _ (h _ (heap_alloc_new _ _) ((Below.refl _ _).alloc (Nat.le_refl _) _) (hide (by simp)))
theorem heapRow_same {w : World} {g : Nat} {cs : Array Value} {t : TypeId} {fr : Nat × Nat} (h : w.heap[g]? = some (.cells cs t fr)) (cs' : Array Value) : (w.setRow g cs').heap[g]? = some (.cells cs' t fr) := by
  simp [World.setRow, Array.getElem?_modify, h]
theorem heapRow_other (w : World) (g k : Nat) (cs' : Array Value) (h : k ≠ g) : (w.setRow g cs').heap[k]? = w.heap[k]? := by
  simp only [World.setRow, Array.getElem?_modify]
  rw [if_neg (by omega)]
theorem belowRow {B : Nat} {a w : World} (h : Below B a w) {g : Nat} (hg : B ≤ g) (cs' : Array Value) : Below B a (w.setRow g cs') :=
  ⟨h.os, h.tape, h.output, by simpa [World.setRow] using h.size, fun k hk => (heapRow_other w g k cs' (by omega)).trans (h.block k hk)⟩
theorem size_setRow (w : World) (g : Nat) (cs : Array Value) : (w.setRow g cs).heap.size = w.heap.size := by simp [World.setRow]
theorem wpList_store_hid {P : Program} {ops : Array Oper} {rest : List Oper} {o : Oper} {a : Act} {w : World} {Q : Exit → Act → World → Prop} (hgd : o.guard = none) (ty : TypeId) (x y : Operand) (ho : o.op = .store ty x y)
    (g : Nat) (cells : Array Value) (hx : a.eval x = .pointer (some ⟨g, 0, none⟩)) (hy : a.eval y = .agg cells)
    (t : TypeId) (old : Array Value) (hg : w.heap[g]? = some (.cells old t (0, 0))) (hi : (P.info? ty).map (·.size) = some cells.size)
    (hold : old.size = cells.size) (h1 : cells.all (·.oneCell') = true)
    (h : ∀ w', Hid (w'.heap[g]? = some (.cells cells t (0, 0))) → Hid (w' = w.setRow g cells) → wpList P ops Q rest (a.put o.dst undef) w') : wpList P ops Q (o :: rest) a w :=
  wpList_store_row hgd ty x y ho g cells hx hy t old hg hi hold h1 (h _ (heapRow_same hg _) rfl)
theorem cell_one {W : World} {N : Nat} {c : Value} {t : TypeId} (h : W.heap[N]? = some (.cells #[c] t (0, 0))) : W.cell? ⟨N, 0, none⟩ = some c := by simp [World.cell?, h]
theorem box2 {W : World} {N : Nat} {c0 c1 : Value} {t : TypeId} (h : W.heap[N]? = some (.cells #[c0, c1] t (0, 0))) : W.cell? ⟨N, 0, none⟩ = some c0 ∧ W.cell? ⟨N, 1, none⟩ = some c1 := by
  refine ⟨?_, ?_⟩ <;> simp [World.cell?, h]
theorem box3 {W : World} {N : Nat} {c0 c1 c2 : Value} {t : TypeId} (h : W.heap[N]? = some (.cells #[c0, c1, c2] t (0, 0))) : W.cell? ⟨N, 0, none⟩ = some c0 ∧ W.cell? ⟨N, 1, none⟩ = some c1 ∧ W.cell? ⟨N, 2, none⟩ = some c2 := by
  refine ⟨?_, ?_, ?_⟩ <;> simp [World.cell?, h]
theorem arr_cell {W : World} {N i : Nat} {cs : Array Value} {t : TypeId} {x : Value} (h : W.heap[N]? = some (.cells cs t (0, 0))) (hi : cs[i]? = some x) : W.cell? ⟨N, i, none⟩ = some x := by
  simp [World.cell?, h, hi]
theorem results_cell_tmp {P : Program} {fn : Func} {p q : Tmp} {ty : TypeId} (h : fn.results = #[.cell p ty, .tmp q]) (tmps : Array Value) (w : World) (g : Nat) (t : TypeId) (cs : Array Value) (fr : Nat × Nat) (d : TypeDesc)
    (hp : tmps.getD p undef = .pointer (some ⟨g, 0, none⟩)) (hg : w.heap[g]? = some (.cells cs t fr))
    (hu : P.underlying ty = some d) (hd : (match d with | .struct _ | .array _ _ => true | _ => false) = true) (hi : (P.info? ty).map (·.size) = some cs.size) :
    (results fn tmps).run P w = .ok (.tuple #[.agg cs, tmps.getD q undef]) w := by
  have hp' : tmps[p]?.getD undef = .pointer (some ⟨g, 0, none⟩) := by simpa using hp
  simp [results, h, hp', asAddr, run_loadVar_row w g t ty cs fr d hg hu hd hi]
theorem results_cell {P : Program} {fn : Func} {p : Tmp} {ty : TypeId} (h : fn.results = #[.cell p ty]) (tmps : Array Value) (w : World) (g : Nat) (t : TypeId) (cs : Array Value) (fr : Nat × Nat) (d : TypeDesc)
    (hp : tmps.getD p undef = .pointer (some ⟨g, 0, none⟩)) (hg : w.heap[g]? = some (.cells cs t fr))
    (hu : P.underlying ty = some d) (hd : (match d with | .struct _ | .array _ _ => true | _ => false) = true) (hi : (P.info? ty).map (·.size) = some cs.size) :
    (results fn tmps).run P w = .ok (.agg cs) w := by
  have hp' : tmps[p]?.getD undef = .pointer (some ⟨g, 0, none⟩) := by simpa using hp
  simp [results, h, hp', asAddr, run_loadVar_row w g t ty cs fr d hg hu hd hi]
theorem belowDrew {B : Nat} {a w : World} (h : Below B a w) : Below B a w.drew := ⟨h.os, h.tape, h.output, h.size, h.block⟩
theorem belowDrewN {B : Nat} {a w : World} (h : Below B a w) (n : Nat) : Below B a (w.drewN n) := ⟨h.os, h.tape, h.output, h.size, h.block⟩
theorem wp_val {P : Program} {o : Oper} {a : Act} {w : World} {K : Act → World → Prop} {Q : Exit → Act → World → Prop} (v : Value) (hrun : (execOp a.eval o).run P w = .ok (.value v) w) (d : Option Tmp) (hd : o.dst = d) (h : K (a.put d v) w) : o.wp P a w K Q := by
  subst hd
  unfold Oper.wp
  rw [hrun]
  exact h
/-- a call of a function of the program, within a drawn region -/
theorem wp_call_fn {P : Program} {o : Oper} {a : Act} {w : World} {K : Act → World → Prop} {Q : Exit → Act → World → Prop} (F : FuncId) (args : Array Operand) (ats : Array TypeId) (ho : o.op = .call { callee := .value (.func F), args := args, argTypes := ats })
    (xs : Array Value) (hx : args.map a.eval = xs) (hent : ∀ args (w : World), (callFunc F args).run P w = .ok (.enter F args) w) (d : Option Tmp) (hd : o.dst = d) (R : Value → World → Prop)
    (hc : Calls P F xs w fun e w' => ∃ v, e = .returned v ∧ R v w') (h : ∀ v w', R v w' → K (a.put d v) w') : o.wp P a w K Q := by
  subst hd
  have hrun : (execOp a.eval o).run P w = .ok (.enter F xs) w := by
    unfold execOp
    simp only [ho, resolve, Deferred.ofValue, Act.eval, invoke, Sem.run_bind, Sem.run_pure, Result.andThen_ok, hx]
    simpa using hent xs w
  unfold Oper.wp
  rw [hrun, Oper.upon_enter]
  refine hc.mono fun e w'' hh => ?_
  obtain ⟨v, rfl, hr⟩ := hh
  exact h v _ hr
/-- a call of a function value, within a drawn region -/
theorem wp_call_val {P : Program} {o : Oper} {a : Act} {w : World} {K : Act → World → Prop} {Q : Exit → Act → World → Prop} (f : Operand) (args : Array Operand) (ats : Array TypeId) (ho : o.op = .call { callee := .value f, args := args, argTypes := ats })
    (F : FuncId) (caps : Array Value) (hf : a.eval f = .func (.func F) #[] caps) (xs : Array Value) (hx : args.map a.eval = xs) (hent : ∀ args (w : World), (callFunc F args).run P w = .ok (.enter F args) w) (d : Option Tmp) (hd : o.dst = d) (R : Value → World → Prop)
    (hc : Calls P F (xs ++ caps) w fun e w' => ∃ v, e = .returned v ∧ R v w') (h : ∀ v w', R v w' → K (a.put d v) w') : o.wp P a w K Q := by
  subst hd
  have hrun : (execOp a.eval o).run P w = .ok (.enter F (xs ++ caps)) w := by
    unfold execOp
    simp only [ho, resolve, Deferred.ofValue, hf, invoke, Sem.run_bind, Sem.run_pure, Result.andThen_ok, hx]
    simpa using hent (xs ++ caps) w
  unfold Oper.wp
  rw [hrun, Oper.upon_enter]
  refine hc.mono fun e w'' hh => ?_
  obtain ⟨v, rfl, hr⟩ := hh
  exact h v _ hr
/-- the same in a plain region -/
theorem wpList_callv {P : Program} {ops : Array Oper} {rest : List Oper} {o : Oper} {a : Act} {w : World} {Q : Exit → Act → World → Prop} (hgd : o.guard = none) (f : Operand) (args : Array Operand) (ats : Array TypeId) (ho : o.op = .call { callee := .value f, args := args, argTypes := ats })
    (F : FuncId) (caps : Array Value) (hf : a.eval f = .func (.func F) #[] caps) (xs : Array Value) (hx : args.map a.eval = xs) (hent : ∀ args (w : World), (callFunc F args).run P w = .ok (.enter F args) w) (d : Option Tmp) (hd : o.dst = d) (R : Value → World → Prop)
    (hc : Calls P F (xs ++ caps) w fun e w' => ∃ v, e = .returned v ∧ R v w') (h : ∀ v w', R v w' → wpList P ops Q rest (a.put d v) w') : wpList P ops Q (o :: rest) a w :=
  wpList_plain hgd fun _ hK => wp_call_val f args ats ho F caps hf xs hx hent d hd R hc fun v w' hr => hK _ _ (h v w' hr)
theorem ent_lit {P : Program} (F : FuncId) (h : (P.funcs[F]?).map (fun fn => (fn.name == "runtime.NumGoroutine", fn.body.isNone)) = some (false, false)) (args : Array Value) (w : World) : (callFunc F args).run P w = .ok (.enter F args) w := by
  cases hq : P.funcs[F]? with
  | none => simp [hq] at h
  | some fn =>
    simp only [hq, Option.map_some, Option.some.injEq, Prod.mk.injEq] at h
    have h1 : fn.name ≠ "runtime.NumGoroutine" := by simpa using h.1
    cases hb : fn.body with
    | none => simp [hb] at h
    | some c => simp [callFunc, hq, h1, hb]
section
variable {w w' : World} {B e size : Nat} {v : Value} {n : Nat} {xs : List Value}
theorem own_keep (h : w.ownsRow B e size v n xs) (hk : ∀ g, v.ownBlock = some g → w'.heap[g]? = w.heap[g]?) : w'.ownsRow B e size v n xs := by
  refine ⟨h.1, ?_⟩
  rcases h.2 with hn | ⟨g, cap, cur, rfl, hb, hgg, rest⟩
  · exact .inl hn
  · exact .inr ⟨g, cap, cur, rfl, hb, (hk g rfl).trans hgg, rest⟩
theorem own_down {B' : Nat} (h : w.ownsRow B e size v n xs) (hb : B' ≤ B) : w.ownsRow B' e size v n xs := by
  refine ⟨h.1, ?_⟩
  rcases h.2 with hn | ⟨g, cap, cur, rfl, hb', rest⟩
  · exact .inl hn
  · exact .inr ⟨g, cap, cur, rfl, Nat.le_trans hb hb', rest⟩
theorem own_below (h : w.ownsRow B e size v n xs) (hb : Below w.heap.size w w') : w'.ownsRow B e size v n xs := own_keep h fun g hg => hb.block g (h.lt g hg).2
end
theorem own_lies {w : World} {B size : Nat} {e : TypeId} {ao : Option Addr} {n cp : Nat} {xs : List Value} (h : w.ownsRow B e size (.slice ao n cp) n xs) : Lies w ao xs ∧ n ≤ cp ∧ (ao = none → cp = 0) ∧ ∀ b o, ao = some ⟨b, o, none⟩ → B ≤ b ∧ b < w.heap.size := by
  have hlen := h.1
  rcases h.2 with ⟨hv, hn⟩ | ⟨g, cap, cur, hv, h1, h2, h3, h4, h5, h6⟩
  · cases hv
    exact ⟨fun h0 => by rw [hlen, hn] at h0; simp at h0, Nat.le_refl _, fun _ => rfl, fun b o e => by cases e⟩
  · cases hv
    refine ⟨fun h0 => ⟨g, 0, rfl, fun j x hx => ?_⟩, h3, (fun e => by cases e), (fun b o e => by cases e; exact ⟨h1, (Array.getElem?_eq_some_iff.1 h2).1⟩)⟩
    simp only [World.cell?, h2, Nat.zero_add]
    rw [← h6] at hx
    rw [List.getElem?_take] at hx
    split at hx
    · simpa using hx
    · cases hx
theorem own_addr {w : World} {B size : Nat} {e : TypeId} {ao : Option Addr} {n cp : Nat} {xs : List Value} (h : w.ownsRow B e size (.slice ao n cp) n xs) (ad : Addr) (ha : ao = some ad) : ∃ g, ad = ⟨g, 0, none⟩ := by
  rcases h.2 with ⟨hv, hn⟩ | ⟨g, cap, cur, hv, h1⟩
  · rw [ha] at hv; cases hv
  · rw [ha] at hv; cases hv; exact ⟨g, rfl⟩
/-- a kind of records: the types of a slice of them and of one of them, and the cells of one -/
structure Rec (P : Program) (α : Type) where
  st : TypeId
  et : TypeId
  n : Nat
  bts : Nat
  cs : α → List Value
  hn : 0 < n
  len : ∀ x, (cs x).length = n
  one : ∀ x, ∀ v ∈ cs x, v.oneCell' = true
  und : P.underlying st = some (.slice et)
  info : ∃ i z, P.info? et = some i ∧ i.zero = some z ∧ z.cells.size = n ∧ i.size = n ∧ i.bytes = bts
  pos : 0 < bts
section
variable {P : Program} {α : Type} (R : Rec P α)
def Rec.flat (l : List α) : List Value := l.flatMap R.cs
theorem Rec.elem : P.elem R.st = R.et := by simp [Program.elem, R.und]
theorem Rec.size : (P.info? R.et).map (·.size) = some R.n := by
  obtain ⟨i, z, h1, h2, h3, h4, h5⟩ := R.info
  simp [h1, h4]
theorem Rec.flat_len (l : List α) : (R.flat l).length = l.length * R.n := by
  induction l with
  | nil => simp [Rec.flat]
  | cons c l ih =>
    simp only [Rec.flat, List.flatMap_cons, List.length_append, R.len, List.length_cons, Nat.succ_mul] at ih ⊢
    omega
theorem Rec.flat_app (a b : List α) : R.flat (a ++ b) = R.flat a ++ R.flat b := by simp [Rec.flat]
theorem Rec.flat_one (l : List α) : ∀ v ∈ R.flat l, v.oneCell' = true := by
  intro v hv
  obtain ⟨d, _, h⟩ := List.mem_flatMap.1 hv
  exact R.one d v h
theorem Rec.flat_get : ∀ (l : List α) (i : Nat) (hi : i < l.length) (j : Nat), j < R.n → (R.flat l)[i * R.n + j]? = (R.cs l[i])[j]?
  | [], _, hi, _, _ => by simp at hi
  | c :: l, 0, _, j, hj => by
    simp only [Rec.flat, List.flatMap_cons, Nat.zero_mul, Nat.zero_add, List.getElem_cons_zero]
    rw [List.getElem?_append_left (by rw [R.len]; exact hj)]
  | c :: l, i + 1, hi, j, hj => by
    have := Rec.flat_get l i (by simpa using hi) j hj
    have e : R.flat (c :: l) = R.cs c ++ R.flat l := rfl
    rw [e, List.getElem?_append_right (by rw [R.len, Nat.succ_mul]; omega), R.len, show (i + 1) * R.n + j - R.n = i * R.n + j by rw [Nat.succ_mul]; omega]
    simpa using this
theorem Rec.ix (g o n c i : Nat) (hi : i < n) (W : World) : (Instr.indexAt R.st (.slice (some ⟨g, o, none⟩) n c) (.int .i64 (i : Int))).run P W = .ok (.pointer (some ⟨g, o + i * R.n, none⟩)) W := by
  rw [run_indexAt_slice W R.st _ _ _ _ _ (by rw [R.elem]; exact R.und), if_pos ⟨by omega, by omega⟩, R.elem, sizeN R.size]
  simp only [Result.andThen_ok, Int.toNat_natCast, Addr.add_mid]
/-- a list behind a slice -/
structure Rec.At (w : World) (l : List α) (ao : Option Addr) (c : Nat) : Prop where
  lies : Lies w ao (R.flat l)
  cap : l.length ≤ c
  nil : ao = none → c = 0
  many : l.length ≤ 4398046511000
variable {R}
theorem Rec.At.below {w w' : World} {l : List α} {ao : Option Addr} {c : Nat} (h : R.At w l ao c) (hb : Below w.heap.size w w') : R.At w' l ao c := ⟨h.lies.below hb, h.cap, h.nil, h.many⟩
theorem Rec.At.none (w : World) : R.At w [] .none 0 := ⟨Lies.nil _ _, Nat.le_refl _, fun _ => rfl, Nat.zero_le _⟩
theorem Rec.At.get {w : World} {l : List α} {ao : Option Addr} {c : Nat} (h : R.At w l ao c) {i : Nat} (hi : i < l.length) : ∃ g o, ao = some ⟨g, o, .none⟩ ∧ ∀ j v, (R.cs l[i])[j]? = some v → w.cell? ⟨g, o + i * R.n + j, .none⟩ = some v := by
  obtain ⟨g, o, h1, h2⟩ := h.lies (by rw [R.flat_len]; exact Nat.mul_pos (by omega) R.hn)
  refine ⟨g, o, h1, fun j v hv => ?_⟩
  have hj : j < R.n := by have := (List.getElem?_eq_some_iff.1 hv).1; rwa [R.len] at this
  rw [Nat.add_assoc]
  exact h2 _ _ ((R.flat_get l i hi j hj).trans hv)
variable (R)
/-- a list of one's own -/
def Rec.Own (w : World) (B : Nat) (l : List α) (ao : Option Addr) (c : Nat) : Prop := w.ownsRow B R.et R.n (.slice ao l.length c) l.length (R.flat l)
variable {R}
theorem Rec.Own.at {w : World} {B : Nat} {l : List α} {ao : Option Addr} {c : Nat} (h : R.Own w B l ao c) (hm : l.length ≤ 4398046511000) : R.At w l ao c := ⟨(own_lies h).1, (own_lies h).2.1, (own_lies h).2.2.1, hm⟩
theorem Rec.Own.below {w w' : World} {B : Nat} {l : List α} {ao : Option Addr} {c : Nat} (h : R.Own w B l ao c) (hb : Below w.heap.size w w') : R.Own w' B l ao c := own_below h hb
theorem Rec.Own.none (w : World) (B : Nat) : R.Own w B [] .none 0 := ⟨by simp [Rec.flat], .inl ⟨rfl, rfl⟩⟩
theorem Rec.Own.down {w : World} {B B' : Nat} {l : List α} {ao : Option Addr} {c : Nat} (h : R.Own w B l ao c) (hb : B' ≤ B) : R.Own w B' l ao c := own_down h hb
variable (R)
/-- append of a list onto a list of one's own -/
theorem Rec.run_put (w : World) (ty : TypeId) (B : Nat) (l m : List α) (ao bo : Option Addr) (c d : Nat) (ho : R.Own w B l ao c) (hm : R.At w m bo d) (hl : (l.length + m.length) * R.bts ≤ 140737488355328) (hB : B ≤ w.heap.size) :
    ∃ ao' c' w', (Builtin.append_ #[R.st, R.st] ty #[.slice ao l.length c, .slice bo m.length d]).run P w = .ok (.slice ao' (l ++ m).length c') w' ∧ R.Own w' B (l ++ m) ao' c' ∧ w.grownBy w' (Value.slice ao l.length c).ownBlock ∧ (∀ g o, ao' = some ⟨g, o, none⟩ → (∃ o', ao = some ⟨g, o', none⟩) ∨ w.heap.size ≤ g) := by
  obtain ⟨i, z, hi, hz, hzs, hs, hby⟩ := R.info
  cases bo with
  | none =>
    obtain rfl := hm.nil rfl
    obtain rfl : m = [] := List.eq_nil_of_length_eq_zero (by have := hm.cap; omega)
    rw [List.append_nil]
    exact ⟨ao, c, w, run_append_owned_none (P := P) (w := w) B R.st ty R.et i R.n R.und hi _ _ _ ho, ho, World.grownBy.refl _ _, fun g o h => .inl ⟨o, h⟩⟩
  | some ad =>
    have hle : l.length + m.length ≤ 140737488355328 := Nat.le_trans (Nat.le_mul_of_pos_right _ R.pos) hl
    obtain ⟨v', w', hr, h2, h3, h4⟩ := W.run_append_own' (P := P) w B R.st ty R.et i z R.n R.bts R.und hi hz hs hby hzs R.hn (.slice ao l.length c) l.length (R.flat l) ho ad m.length d (R.flat m) (R.flat_len m) (fun j u hu => by
      obtain ⟨g, o, he, hr⟩ := hm.lies (by have := (List.getElem?_eq_some_iff.1 hu).1; omega)
      cases he
      rw [Addr.add_mid]
      exact hr j u hu) (R.flat_one m) (by unfold maxLen; omega) hl hB
    obtain ⟨ao', c', rfl⟩ := W.owns_shape h2
    rw [← List.length_append, ← R.flat_app] at h2
    rw [← List.length_append] at hr
    refine ⟨ao', c', w', hr, h2, h3, fun g o hg => ?_⟩
    subst hg
    rcases h4 with h4 | ⟨g', h4, h5⟩
    · cases ao with
      | none => cases h4
      | some ad =>
        obtain ⟨g1, o1, i1⟩ := ad
        rcases ho.2 with ⟨hv, _⟩ | ⟨g2, cap2, cur2, hv, _⟩
        · simp at hv
        · simp only [Value.slice.injEq, Option.some.injEq] at hv
          rw [hv.1] at h4 ⊢
          cases h4
          exact .inl ⟨0, rfl⟩
    · cases h4
      exact .inr h5
theorem Rec.grown_below {w w' : World} {B : Nat} {l : List α} {ao : Option Addr} {c : Nat} (ho : R.Own w B l ao c) (hg : w.grownBy w' (Value.slice ao l.length c).ownBlock) (hB : B ≤ w.heap.size) : Below B w w' :=
  (Below.refl B w).grown hg hB (fun k hk => (World.ownsRow.lt ho k hk).1)
/-- what an append leaves -/
structure Rec.Put (w w' : World) (B : Nat) (l m : List α) (ao : Option Addr) (c : Nat) (ao' : Option Addr) (n' c' : Nat) : Prop where
  len : n' = (l ++ m).length
  own : R.Own w' B (l ++ m) ao' c'
  grown : w.grownBy w' (Value.slice ao l.length c).ownBlock
  below : Below B w w'
  new : ∀ g o, ao' = some ⟨g, o, none⟩ → (∃ o', ao = some ⟨g, o', none⟩) ∨ w.heap.size ≤ g
theorem Rec.wp_put {o : Oper} {a : Act} {w : World} {K : Act → World → Prop} {Q : Exit → Act → World → Prop} (s x : Operand) (ho : o.op = .call { callee := .builtin .append, args := #[s, x], argTypes := #[R.st, R.st] }) (d : Option Tmp) (hd : o.dst = d)
    (B : Nat) (l m : List α) (n1 n2 : Nat) (e1 : n1 = l.length) (e2 : n2 = m.length) (ao bo : Option Addr) (c c2 : Nat) (hs : a.eval s = .slice ao n1 c) (hx : a.eval x = .slice bo n2 c2) (hown : R.Own w B l ao c) (hm : R.At w m bo c2) (hl : (l.length + m.length) * R.bts ≤ 140737488355328) (hB : B ≤ w.heap.size)
    (h : ∀ ao' n' c' w', Hid (R.Put w w' B l m ao c ao' n' c') → K (a.put d (.slice ao' n' c')) w') : o.wp P a w K Q := by
  subst hd e1 e2
  obtain ⟨ao', c', w', hr, h1, h2, h3⟩ := R.run_put w o.type B l m ao bo c c2 hown hm hl hB
  unfold Oper.wp execOp
  simp only [ho, resolve, invoke, builtin, Sem.run_bind, Sem.run_pure, Result.andThen_ok, List.map_toArray, List.map_cons, List.map_nil, hs, hx, hr]
  exact h ao' _ c' w' ⟨rfl, h1, h2, R.grown_below hown h2 hB, h3⟩
theorem Rec.wpList_put {ops : Array Oper} {rest : List Oper} {o : Oper} {a : Act} {w : World} {Q : Exit → Act → World → Prop} (hgd : o.guard = none) (s x : Operand) (ho : o.op = .call { callee := .builtin .append, args := #[s, x], argTypes := #[R.st, R.st] }) (d : Option Tmp) (hd : o.dst = d)
    (B : Nat) (l m : List α) (n1 n2 : Nat) (e1 : n1 = l.length) (e2 : n2 = m.length) (ao bo : Option Addr) (c c2 : Nat) (hs : a.eval s = .slice ao n1 c) (hx : a.eval x = .slice bo n2 c2) (hown : R.Own w B l ao c) (hm : R.At w m bo c2) (hl : (l.length + m.length) * R.bts ≤ 140737488355328) (hB : B ≤ w.heap.size)
    (h : ∀ ao' n' c' w', Hid (R.Put w w' B l m ao c ao' n' c') → wpList P ops Q rest (a.put d (.slice ao' n' c')) w') : wpList P ops Q (o :: rest) a w :=
  wpList_plain hgd fun _ hK => R.wp_put s x ho d hd B l m n1 n2 e1 e2 ao bo c c2 hs hx hown hm hl hB fun ao' n' c' w' hp => hK _ _ (h ao' n' c' w' hp)
end
end Go.Proofs.Ytopabadnbelegaa.S
namespace Go.Proofs.Ytopabadnbelegaa.K
open Go.RowKit Go.Lib
/-- a cell -/
structure Ce where
  c : BitVec 16
  x : BitVec 64
  k : BitVec 32
def Ce.add (a b : Ce) : Ce := ⟨a.c + b.c, a.x ^^^ b.x, a.k ^^^ b.k⟩
def Ce.neg (a : Ce) : Ce := ⟨-a.c, a.x, a.k⟩
def Ce.zer : Ce := ⟨0, 0, 0⟩
theorem Ce.eq {a b : Ce} (h1 : a.c = b.c) (h2 : a.x = b.x) (h3 : a.k = b.k) : a = b := by cases a; cases b; simp_all
theorem Ce.add_comm (a b : Ce) : a.add b = b.add a := Ce.eq (BitVec.add_comm _ _) (BitVec.xor_comm _ _) (BitVec.xor_comm _ _)
theorem Ce.add_assoc (a b c : Ce) : (a.add b).add c = a.add (b.add c) := Ce.eq (BitVec.add_assoc _ _ _) (BitVec.xor_assoc _ _ _) (BitVec.xor_assoc _ _ _)
theorem Ce.add_zer (a : Ce) : a.add .zer = a := Ce.eq (BitVec.add_zero _) (BitVec.xor_zero) (BitVec.xor_zero)
theorem Ce.zer_add (a : Ce) : Ce.zer.add a = a := by rw [Ce.add_comm, Ce.add_zer]
theorem Ce.add_neg (a : Ce) : a.add a.neg = .zer := Ce.eq (by show a.c + -a.c = 0; exact BitVec.add_right_neg _) BitVec.xor_self BitVec.xor_self
theorem Ce.neg_add (a : Ce) : a.neg.add a = .zer := by rw [Ce.add_comm, Ce.add_neg]
theorem Ce.neg_neg (a : Ce) : a.neg.neg = a := Ce.eq (BitVec.neg_neg) rfl rfl
theorem Ce.neg_zer : Ce.zer.neg = .zer := rfl
theorem Ce.neg_dist (a b : Ce) : (a.add b).neg = a.neg.add b.neg := Ce.eq (by show -(a.c + b.c) = -a.c + -b.c; rw [BitVec.neg_add, BitVec.sub_eq_add_neg]) rfl rfl
theorem Ce.add_left_comm (a b c : Ce) : a.add (b.add c) = b.add (a.add c) := by rw [← Ce.add_assoc, Ce.add_comm a b, Ce.add_assoc]
theorem Ce.cancel {a b c : Ce} (h : a.add b = a.add c) : b = c := by
  have := congrArg (a.neg.add ·) h
  simpa only [← Ce.add_assoc, Ce.neg_add, Ce.zer_add] using this
/-- 'Mix' of the document -/
def mixB (x j : BitVec 64) : BitVec 64 :=
  let z := x + (j + 1) * 11400714819323198485
  let z := (z ^^^ (z >>> 30)) * 13787848793156543929
  let z := (z ^^^ (z >>> 27)) * 10723151780598845931
  z ^^^ (z >>> 31)
def chk (x : BitVec 64) : BitVec 32 := (mixB x 3).setWidth 32
def plc (x : BitVec 64) (n j : Nat) : Nat := j * (n / 3) + (mixB x (BitVec.ofNat 64 j)).toNat % (n / 3)
theorem plc_lt (x : BitVec 64) (n j : Nat) (hn : 3 ≤ n) (hj : j < 3) : plc x n j < n := by
  unfold plc
  have h1 : 0 < n / 3 := by omega
  have h2 := Nat.mod_lt (mixB x (BitVec.ofNat 64 j)).toNat h1
  have h3 : j * (n / 3) ≤ 2 * (n / 3) := Nat.mul_le_mul_right _ (by omega)
  omega
theorem plc_ne (x y : BitVec 64) (n j i : Nat) (hn : 3 ≤ n) (h : plc x n j = plc y n i) : j = i := by
  unfold plc at h
  have h1 : 0 < n / 3 := by omega
  have h2 := Nat.mod_lt (mixB x (BitVec.ofNat 64 j)).toNat h1
  have h3 := Nat.mod_lt (mixB y (BitVec.ofNat 64 i)).toNat h1
  generalize (mixB x (BitVec.ofNat 64 j)).toNat % (n / 3) = p at *
  generalize (mixB y (BitVec.ofNat 64 i)).toNat % (n / 3) = q at *
  generalize n / 3 = k at *
  rcases Nat.lt_trichotomy j i with h4 | h4 | h4
  · have : (j + 1) * k ≤ i * k := Nat.mul_le_mul_right _ h4
    rw [Nat.succ_mul] at this
    omega
  · exact h4
  · have : (i + 1) * k ≤ j * k := Nat.mul_le_mul_right _ h4
    rw [Nat.succ_mul] at this
    omega
/-- a cell laid over the one at a place -/
def at1 (l : List Ce) (i : Nat) (d : Ce) : List Ce := l.modify i (fun a => a.add d)
theorem at1_len (l : List Ce) (i : Nat) (d : Ce) : (at1 l i d).length = l.length := List.length_modify _ _ _
theorem at1_get (l : List Ce) (i : Nat) (d : Ce) (j : Nat) : (at1 l i d)[j]? = l[j]?.map (fun a => a.add (if i = j then d else .zer)) := by
  unfold at1
  rw [List.getElem?_modify]
  split
  · rfl
  · cases l[j]? with
    | none => rfl
    | some a => simp [Ce.add_zer]
/-- the cell of an item, there so many times more -/
def cel (x : BitVec 64) (c : BitVec 16) : Ce := ⟨c, x, chk x⟩
theorem cel_neg (x : BitVec 64) (c : BitVec 16) : (cel x c).neg = cel x (-c) := rfl
def layB (l : List Ce) (x : BitVec 64) (c : BitVec 16) : List Ce := at1 (at1 (at1 l (plc x l.length 0) (cel x c)) (plc x l.length 1) (cel x c)) (plc x l.length 2) (cel x c)
theorem layB_len (l : List Ce) (x : BitVec 64) (c : BitVec 16) : (layB l x c).length = l.length := by unfold layB; rw [at1_len, at1_len, at1_len]
/-- what an item puts into the cell j -/
def con (n : Nat) (x : BitVec 64) (c : BitVec 16) (j : Nat) : Ce := ((if plc x n 0 = j then cel x c else .zer).add (if plc x n 1 = j then cel x c else .zer)).add (if plc x n 2 = j then cel x c else .zer)
theorem layB_get (l : List Ce) (x : BitVec 64) (c : BitVec 16) (j : Nat) : (layB l x c)[j]? = l[j]?.map (fun a => a.add (con l.length x c j)) := by
  unfold layB con
  rw [at1_get, at1_get, at1_get]
  cases l[j]? with
  | none => simp only [Option.map_none]
  | some a => simp only [Option.map_some, Ce.add_assoc]
theorem ite_neg (p : Prop) [Decidable p] (a : Ce) : (if p then a.neg else Ce.zer) = (if p then a else Ce.zer).neg := by
  by_cases h : p
  · rw [if_pos h, if_pos h]
  · rw [if_neg h, if_neg h, Ce.neg_zer]
theorem con_neg (n : Nat) (x : BitVec 64) (c : BitVec 16) (j : Nat) : con n x (-c) j = (con n x c j).neg := by
  unfold con
  rw [Ce.neg_dist, Ce.neg_dist, ← cel_neg, ite_neg, ite_neg, ite_neg]
/-- a cell each -/
def zip (f : Nat → Ce) (l : List Ce) : List Ce := l.mapIdx fun j a => a.add (f j)
theorem zip_len (f : Nat → Ce) (l : List Ce) : (zip f l).length = l.length := List.length_mapIdx
theorem zip_get (f : Nat → Ce) (l : List Ce) (j : Nat) : (zip f l)[j]? = l[j]?.map (fun a => a.add (f j)) := by unfold zip; rw [List.getElem?_mapIdx]
theorem layB_zip (l : List Ce) (x : BitVec 64) (c : BitVec 16) : layB l x c = zip (con l.length x c) l := List.ext_getElem? fun j => by rw [layB_get, zip_get]
theorem zip_zip (f g : Nat → Ce) (l : List Ce) : zip g (zip f l) = zip (fun j => (f j).add (g j)) l := List.ext_getElem? fun j => by
  rw [zip_get, zip_get, zip_get]
  cases l[j]? with
  | none => rfl
  | some a => simp only [Option.map_some, Ce.add_assoc]
theorem zip_zer (l : List Ce) : zip (fun _ => .zer) l = l := List.ext_getElem? fun j => by
  rw [zip_get]
  cases l[j]? with
  | none => rfl
  | some a => simp only [Option.map_some, Ce.add_zer]
def zerL (n : Nat) : List Ce := List.replicate n .zer
theorem zerL_len (n : Nat) : (zerL n).length = n := List.length_replicate
/-- one less another -/
def minB (a b : List Ce) : List Ce := a.mapIdx fun j x => x.add (b.getD j .zer).neg
theorem minB_len (a b : List Ce) : (minB a b).length = a.length := List.length_mapIdx
theorem minB_get (a b : List Ce) (j : Nat) : (minB a b)[j]? = a[j]?.map (fun x => x.add (b.getD j .zer).neg) := by unfold minB; rw [List.getElem?_mapIdx]
theorem minB_zip (f g : Nat → Ce) (n : Nat) : minB (zip f (zerL n)) (zip g (zerL n)) = zip (fun j => (f j).add (g j).neg) (zerL n) := List.ext_getElem? fun j => by
  rw [minB_get, zip_get, zip_get]
  unfold zerL
  by_cases h : j < n
  · rw [List.getElem?_replicate, if_pos h, List.getD_eq_getElem?_getD, zip_get, List.getElem?_replicate, if_pos h]
    simp only [Option.map_some, Option.getD_some, Ce.zer_add]
  · rw [List.getElem?_replicate, if_neg h]; rfl
/- sums -/
section
variable {α : Type} (f : α → Ce)
def sumA (l : List α) : Ce := l.foldr (fun a s => (f a).add s) .zer
theorem sumA_cons (a : α) (l : List α) : sumA f (a :: l) = (f a).add (sumA f l) := rfl
theorem sumA_append (l m : List α) : sumA f (l ++ m) = (sumA f l).add (sumA f m) := by
  induction l with
  | nil => exact (Ce.zer_add _).symm
  | cons a l ih => rw [List.cons_append, sumA_cons, sumA_cons, ih, Ce.add_assoc]
variable [DecidableEq α]
/-- those whose count, from there on, is above a threshold -/
def sumD (t : α → Nat) : List α → Ce
  | [] => .zer
  | a :: l => if t a < (a :: l).count a then (sumD t l).add (f a) else sumD t l
theorem sumD_up (t : α → Nat) (e : α) (m : List α) : sumD f t m = (sumD f (fun a => if a = e then t a + 1 else t a) m).add (if t e < m.count e then f e else .zer) := by
  induction m with
  | nil => simp [sumD, Ce.add_zer]
  | cons x m ih =>
    unfold sumD
    by_cases h : x = e
    · subst h
      simp only [List.count_cons_self, if_true]
      rw [ih]
      by_cases h1 : t x < m.count x
      · rw [if_pos h1, if_pos (show t x + 1 < m.count x + 1 by omega), if_pos (show t x < m.count x + 1 by omega), if_pos (show t x < m.count x + 1 by omega)]
      · rw [if_neg h1, if_neg (show ¬ t x + 1 < m.count x + 1 by omega), Ce.add_zer]
        by_cases h2 : t x < m.count x + 1
        · rw [if_pos h2, if_pos h2]
        · rw [if_neg h2, if_neg h2, Ce.add_zer]
    · rw [List.count_cons_of_ne h, if_neg h, ih]
      by_cases h1 : t x < (x :: m).count x
      · rw [if_pos h1, if_pos h1, Ce.add_assoc, Ce.add_assoc, Ce.add_comm (f x)]
      · rw [if_neg h1, if_neg h1]
theorem sumD_out (t : α → Nat) (e : α) (m : List α) (h : m.count e ≤ t e) : sumD f (fun a => if a = e then t a + 1 else t a) m = sumD f t m := by
  rw [sumD_up f t e m, if_neg (by omega), Ce.add_zer]
theorem sumD_all (m : List α) : sumD f (fun _ => 0) m = sumA f m := by
  induction m with
  | nil => rfl
  | cons a m ih => unfold sumD; rw [if_pos (by rw [List.count_cons_self]; omega), ih, sumA_cons, Ce.add_comm]
/-- what is left of the ones less the others -/
theorem sum_left (l m : List α) : (sumA f l).add (sumA f m).neg = (sumD f (fun a => m.count a) l).add (sumD f (fun a => l.count a) m).neg := by
  induction l with
  | nil =>
    have : sumD f (fun a => ([] : List α).count a) m = sumA f m := by simpa using sumD_all f m
    rw [this]
    rfl
  | cons e l ih =>
    have hf : (fun a => (e :: l).count a) = fun a => if a = e then l.count a + 1 else l.count a := by
      funext a
      by_cases h : a = e
      · subst h; simp
      · rw [if_neg h, List.count_cons_of_ne (Ne.symm h)]
    rw [sumA_cons, Ce.add_assoc, ih, hf]
    have hu := sumD_up f (fun a => l.count a) e m
    rw [show sumD f (fun a => m.count a) (e :: l) = if m.count e < (e :: l).count e then (sumD f (fun a => m.count a) l).add (f e) else sumD f (fun a => m.count a) l from rfl, List.count_cons_self]
    by_cases h : m.count e ≤ l.count e
    · rw [if_pos (by omega), sumD_out f (fun a => l.count a) e m h, ← Ce.add_assoc, Ce.add_comm (f e)]
    · rw [if_neg (by omega)]
      rw [if_pos (by omega)] at hu
      rw [hu, Ce.neg_dist, Ce.add_left_comm, ← Ce.add_assoc (f e), Ce.add_comm (f e), Ce.add_assoc _ (f e), ← Ce.add_assoc, Ce.add_assoc, Ce.add_neg, Ce.add_zer]
end
end Go.Proofs.Ytopabadnbelegaa.K
namespace Go.Proofs.Ytopabadnbelegaa.K
open Go.RowKit Go.Lib
theorem hide {p : Prop} (h : p) : Hid p := h
theorem unhide {p : Prop} (h : Hid p) : p := h
theorem u64n (n : Nat) : IntKind.u64.wrap (n : Int) = ((n % 18446744073709551616 : Nat) : Int) := by rw [IntKind.wrap_u64]; omega
theorem b_add (a b : BitVec 64) : IntKind.u64.wrap ((a.toNat : Int) + (b.toNat : Int)) = ((a + b).toNat : Int) := by
  rw [← Int.natCast_add, u64n, BitVec.toNat_add]
theorem b_one (a : BitVec 64) : IntKind.u64.wrap ((a.toNat : Int) + 1) = ((a + 1).toNat : Int) := b_add a 1
theorem b_mul (a b : BitVec 64) (n : Int) (hn : n = (b.toNat : Int)) : IntKind.u64.wrap ((a.toNat : Int) * n) = ((a * b).toNat : Int) := by
  rw [hn, ← Int.natCast_mul, u64n, BitVec.toNat_mul]
theorem b_m1 (a : BitVec 64) : IntKind.u64.wrap ((a.toNat : Int) * 11400714819323198485) = ((a * 11400714819323198485).toNat : Int) := b_mul a 11400714819323198485 _ rfl
theorem b_m2 (a : BitVec 64) : IntKind.u64.wrap ((a.toNat : Int) * 13787848793156543929) = ((a * 13787848793156543929).toNat : Int) := b_mul a 13787848793156543929 _ rfl
theorem b_m3 (a : BitVec 64) : IntKind.u64.wrap ((a.toNat : Int) * 10723151780598845931) = ((a * 10723151780598845931).toNat : Int) := b_mul a 10723151780598845931 _ rfl
theorem b_shr (a : BitVec 64) (k : Nat) : (a.toNat : Int) / ((2 ^ k : Nat) : Int) = ((a >>> k).toNat : Int) := by
  rw [BitVec.toNat_ushiftRight, Nat.shiftRight_eq_div_pow, Int.natCast_ediv]
theorem b_s30 (a : BitVec 64) : (a.toNat : Int) / (1073741824 : Int) = ((a >>> 30).toNat : Int) := b_shr a 30
theorem b_s27 (a : BitVec 64) : (a.toNat : Int) / (134217728 : Int) = ((a >>> 27).toNat : Int) := b_shr a 27
theorem b_s31 (a : BitVec 64) : (a.toNat : Int) / (2147483648 : Int) = ((a >>> 31).toNat : Int) := b_shr a 31
theorem b_xor (a b : BitVec 64) : bits .xor .u64 (a.toNat : Int) (b.toNat : Int) = ((a ^^^ b).toNat : Int) := by
  rw [u64_xor_nat _ _ a.isLt b.isLt, BitVec.toNat_xor]
theorem b_xor32 (a b : BitVec 32) : bits .xor .u32 (a.toNat : Int) (b.toNat : Int) = ((a ^^^ b).toNat : Int) := by
  rw [u32_xor_nat _ _ a.isLt b.isLt, BitVec.toNat_xor]
set_option maxHeartbeats 1000000 in
theorem kMix (x j : BitVec 64) (u : World) : Calls Try.prog 53 #[.int .u64 x.toNat, .int .u64 j.toNat] u fun e u' => e = .returned (.int .u64 ((mixB x j).toNat : Int)) ∧ u' = u := by
  go_enter Try.func53, Try.ntmps53
  go_wp2
  go_ret
  refine ⟨?_, rfl⟩
  simp only [b_one, b_m1, b_add, b_s30, b_xor, b_m2, b_s27, b_m3, b_s31]
  rfl
theorem kMixN (x : BitVec 64) (j : Nat) (hj : j < 4) (u : World) : Calls Try.prog 53 #[.int .u64 x.toNat, .int .u64 (j : Int)] u fun e u' => e = .returned (.int .u64 ((mixB x (BitVec.ofNat 64 j)).toNat : Int)) ∧ u' = u := by
  have h := kMix x (BitVec.ofNat 64 j) u
  have e : (BitVec.ofNat 64 j).toNat = j := by rw [BitVec.toNat_ofNat]; exact Nat.mod_eq_of_lt (by omega)
  rw [e] at h
  exact h
set_option maxHeartbeats 1000000 in
theorem kChk (x : BitVec 64) (u : World) : Calls Try.prog 39 #[.int .u64 x.toNat] u fun e u' => e = .returned (.int .u32 ((chk x).toNat : Int)) ∧ u' = u := by
  have HM := hide (kMixN x 3 (by omega) u)
  obtain ⟨m, hm⟩ : ∃ m, m = mixB x (BitVec.ofNat 64 3) := ⟨_, rfl⟩
  have hc : ((chk x).toNat : Int) = IntKind.u32.wrap (m.toNat : Int) := by
    rw [hm, IntKind.wrap_u32]
    unfold chk
    rw [BitVec.toNat_setWidth]
    show (((mixB x 3).toNat % 2 ^ 32 : Nat) : Int) = _
    rw [show (BitVec.ofNat 64 3 : BitVec 64) = 3 from rfl]
    generalize (mixB x 3).toNat = q
    omega
  rw [hc]
  rw [← hm] at HM
  clear hm hc
  go_enter Try.func39, Try.ntmps39
  go_wp2_with (first
    | (go_at_call 53; refine (unhide HM).mono ?_; rintro e W1 ⟨rfl, rfl⟩)
    | fail)
  go_ret
  exact ⟨rfl, rfl⟩
end Go.Proofs.Ytopabadnbelegaa.K
namespace Go.Proofs.Ytopabadnbelegaa.K
open Go.RowKit Go.Lib
theorem hcSame {w : World} {g : Nat} {cs : Array Value} {t : TypeId} {fr : Nat × Nat} (h : w.heap[g]? = some (.cells cs t fr)) (k : Nat) (v : Value) : (w.setCell ⟨g, k, none⟩ v).heap[g]? = some (.cells (cs.setIfInBounds k v) t fr) := by
  simp [World.setCell, Array.getElem?_modify, h]
theorem hcOther {w : World} {g k i : Nat} {v : Value} (h : i ≠ g) : (w.setCell ⟨g, k, none⟩ v).heap[i]? = w.heap[i]? := by
  simp [World.setCell, Array.getElem?_modify, Ne.symm h]
theorem frz0 {w : World} {g : Nat} {cs : Array Value} {t : TypeId} (h : w.heap[g]? = some (.cells cs t (0, 0))) (j : Nat) : w.frozen? ⟨g, j, none⟩ = false := by simp [World.frozen?, h]
theorem belowCell {B : Nat} {a w : World} (h : Below B a w) {g : Nat} (hg : B ≤ g) (k : Nat) (v : Value) : Below B a (w.setCell ⟨g, k, none⟩ v) :=
  ⟨h.os, h.tape, h.output, by simpa [World.setCell] using h.size, fun i hi => (hcOther (by omega)).trans (h.block i hi)⟩
theorem heapOld {w : World} (o : Obj) {k : Nat} {x : Obj} (h : w.heap[k]? = some x) : (w.alloc o).heap[k]? = some x := (Below.heap_alloc w o k (Array.getElem?_eq_some_iff.1 h).1).trans h
theorem w1 (n : Nat) (h : n ≤ 1000000) : wrap64 (n : Int) = (n : Int) := by simp only [wrap64]; omega
theorem w2 (q r : Nat) (hq : q ≤ 100000) (hr : r ≤ 100000) : wrap64 (wrap64 (q : Int) + wrap64 (r : Int)) = ((q + r : Nat) : Int) := by
  rw [w1 q (by omega), w1 r (by omega), ← Int.natCast_add, w1 _ (by omega)]
def plA (x : BitVec 64) (n : Nat) : Array Value := #[.int .i64 (plc x n 0), .int .i64 (plc x n 1), .int .i64 (plc x n 2)]
/-- as far as they are laid -/
def plU (x : BitVec 64) (n i : Nat) : Array Value := #[.int .i64 ((if 0 < i then plc x n 0 else 0 : Nat) : Int), .int .i64 ((if 1 < i then plc x n 1 else 0 : Nat) : Int), .int .i64 ((if 2 < i then plc x n 2 else 0 : Nat) : Int)]
theorem plU_next (x : BitVec 64) (n i : Nat) (hi : i < 3) : (plU x n i).setIfInBounds i (.int .i64 (plc x n i)) = plU x n (i + 1) := by
  rcases (by omega : i = 0 ∨ i = 1 ∨ i = 2) with rfl | rfl | rfl <;> simp [plU]
theorem plU_all (x : BitVec 64) (n : Nat) : plU x n 3 = plA x n := by
  unfold plU plA
  rw [if_pos (by decide), if_pos (by decide), if_pos (by decide)]
theorem plU_zero (x : BitVec 64) (n : Nat) : plU x n 0 = #[.int .i64 0, .int .i64 0, .int .i64 0] := by
  unfold plU
  rw [if_neg (by decide), if_neg (by decide), if_neg (by decide)]
  rfl
theorem plA_size (x : BitVec 64) (n : Nat) : (plA x n).size = 3 := by unfold plA; exact rfl
theorem plU_cell (x : BitVec 64) (n i j : Nat) (hj : j < 3) : ∃ v, (plU x n i)[j]? = some v := by
  have h : j < (plU x n i).size := hj
  exact ⟨_, Array.getElem?_eq_getElem h⟩
theorem int3 : (Try.prog.info? 75).map (·.size) = some 3 := by kernel_rfl
theorem int3z : ((Try.prog.info? 75).bind (·.zero)).map (·.cells) = some #[.int .i64 0, .int .i64 0, .int .i64 0] := by kernel_rfl
set_option maxRecDepth 100000 in
set_option maxHeartbeats 2000000 in
theorem kPlaces (x : BitVec 64) (n : Nat) (h3 : 3 ≤ n) (hn : n ≤ 256) (u : World) : Calls Try.prog 40 #[.int .u64 x.toNat, .int .i64 (n : Int)] u fun e u' => e = .returned (.agg (plA x n)) ∧ Below u.heap.size u u' := by
  obtain ⟨k, hk⟩ : ∃ k, k = n / 3 := ⟨_, rfl⟩
  have hkq : (n : Int).tdiv 3 = (k : Int) := by rw [hk]; exact (Int.natCast_ediv n 3).symm ▸ (Int.tdiv_eq_ediv_of_nonneg (by omega))
  have hkd : (n : Int) / 3 = (k : Int) := by omega
  have HK1 : Hid (1 ≤ k ∧ k ≤ 85) := by show 1 ≤ k ∧ k ≤ 85; omega
  have HPL : Hid (∀ j, j < 3 → plc x n j = j * k + (mixB x (BitVec.ofNat 64 j)).toNat % k) := by show ∀ j, j < 3 → _; intro j _; rw [hk]; unfold plc; exact rfl
  have HM := hide (kMixN x)
  clear hk
  go_enter Try.func40, Try.ntmps40
  go_wp2
  obtain ⟨Z, hZ⟩ : ∃ Z : Array Value, Z = #[.int .i64 0, .int .i64 0, .int .i64 0] := ⟨_, rfl⟩
  have HX2 : Hid (((u.alloc (.cells Z 75)).alloc (.cells Z 75)).heap[u.heap.size + 1]? = some (.cells (plU x n 0) 75 (0, 0))) := by
    show _ = _
    have h := heap_alloc_new (u.alloc (.cells Z 75)) (.cells Z 75)
    rw [World.size_alloc] at h
    rw [h, hZ, plU_zero]
  have HX0 : Hid (((u.alloc (.cells Z 75)).alloc (.cells Z 75)).heap[u.heap.size]? = some (.cells Z 75 (0, 0))) := by
    show _ = _
    exact heapOld _ (heap_alloc_new _ _)
  have HB0 : Hid (Below u.heap.size u ((u.alloc (.cells Z 75)).alloc (.cells Z 75))) := ((Below.refl _ _).alloc (Nat.le_refl _) _).alloc (by simp) _
  rw [← hZ]
  generalize (u.alloc (.cells Z 75)).alloc (.cells Z 75) = U at *
  go_loopw [10] (fun v wr => ∃ i : Nat, i ≤ 3 ∧ v = .int .i64 i ∧ Hid (wr.heap[u.heap.size + 1]? = some (.cells (plU x n i) 75 (0, 0))) ∧ Hid (Below u.heap.size u wr) ∧ Hid (wr.heap[u.heap.size]? = some (.cells Z 75 (0, 0)))) (fun v _ => 3 - (intOf v).toNat)
  case atStart => exact ⟨0, by omega, rfl, HX2, HB0, HX0⟩
  case round =>
    clear HX2 HB0 HX0
    obtain ⟨i, hi, rfl, HX, HB, HX0⟩ := hrel
    by_cases hlt : i < 3
    · have hii : (i : Int) < 3 := by omega
      have HMi := hide (unhide HM i (by omega))
      have HPi := hide (unhide HPL i hlt)
      have HPX := hide (plU_next x n i hlt)
      generalize (mixB x (BitVec.ofNat 64 i)).toNat = m at *
      generalize plc x n i = p at *
      obtain ⟨q, hq⟩ : ∃ q, q = i * k := ⟨_, rfl⟩
      have HQ := hide hq
      have hqi : (i : Int) * (k : Int) = (q : Int) := by rw [hq]; exact (Int.natCast_mul i k).symm
      clear hq
      clear HM HPL
      obtain ⟨vc, hvc⟩ := plU_cell x n i i hlt
      have hc := S.arr_cell (unhide HX) hvc
      have hf := frz0 (unhide HX) i
      clear hvc
      have hu := unhide HK1
      have hk0 : ¬ ((k : Int) = 0) := by omega
      have hiw : IntKind.u64.wrap (i : Int) = (i : Int) := by rw [IntKind.wrap_u64]; omega
      have hkw : IntKind.u64.wrap (k : Int) = (k : Int) := by rw [IntKind.wrap_u64]; omega
      clear hu
      go_wp2_with (first
        | (go_at_call 53; refine (unhide HMi _).mono ?_; rintro e wq ⟨rfl, hwq⟩; obtain rfl := hwq.symm; clear HMi)
        | fail)
      go_roundw
      case rel =>
        have hp : wrap64 (wrap64 (q : Int) + wrap64 ((m : Int) % (k : Int))) = (p : Int) := by
          have h1 := unhide HPi
          have h2 := unhide HQ
          have h3 := unhide HK1
          rw [← h2] at h1
          have h4 : (m : Int) % (k : Int) = ((m % k : Nat) : Int) := (Int.natCast_emod m k).symm
          have h5 := Nat.mod_lt m (show 0 < k by omega)
          have h6 : q ≤ 2 * k := by rw [h2]; exact Nat.mul_le_mul_right _ (by omega)
          rw [h4, h1]
          exact w2 _ _ (by omega) (by omega)
        rw [hp]
        refine ⟨i + 1, by omega, by go_num, ?_, belowCell (unhide HB) (Nat.le_succ _) _ _, (hcOther (by omega)).trans (unhide HX0)⟩
        rw [← unhide HPX]
        exact hcSame (unhide HX) _ _
      case measure => simp [intOf]; omega
    · obtain rfl : i = 3 := by omega
      have hki : ¬ ((3 : Nat) : Int) < 3 := by decide
      have hpl : plU x n 3 = plA x n := plU_all x n
      rw [hpl] at HX
      have HSA : Hid ((Try.prog.info? 75).map (·.size) = some (plA x n).size) := by show _ = _; rw [plA_size]; exact int3
      have HSZ : Hid (Z.size = (plA x n).size) := by show _ = _; rw [hZ, plA_size]; exact rfl
      have HON : Hid ((plA x n).all (·.oneCell') = true) := by show _ = _; simp [plA, Value.oneCell']
      obtain ⟨A, hA⟩ : ∃ A, A = plA x n := ⟨_, rfl⟩
      rw [← hA] at HSA HSZ HON HX
      have HA := hide hA
      clear hA hpl hZ HM HPL
      go_wp2_with (first
        | ((with_reducible refine wpList_load_row (by rfl) _ (.tmp 6) (by rfl) (u.heap.size + 1) (by with_unfolding_all rfl) _ A _ _ (unhide HX) Try.underlying75 rfl (unhide HSA) ?_); simp only [Act.put, List.setIfInBounds_toArray, List.set_cons_zero, List.set_cons_succ])
        | ((with_reducible refine S.wpList_store_hid (by rfl) _ (.tmp 4) (.tmp 28) (by rfl) u.heap.size _ (by with_unfolding_all rfl) (by with_unfolding_all rfl) _ _ (unhide HX0) (unhide HSA) (unhide HSZ) (unhide HON) ?_); intro W3 HX3 HE3; simp only [Act.put])
        | fail)
      refine bodyPost_ret (results_cell_row rfl _ _ u.heap.size 75 A (0, 0) _ rfl (unhide HX3) Try.underlying75 rfl (unhide HSA)) rfl ?_
      refine ⟨by rw [unhide HA], ?_⟩
      rw [unhide HE3]
      exact S.belowRow (unhide HB) (Nat.le_refl _) _
end Go.Proofs.Ytopabadnbelegaa.K
namespace Go.Proofs.Ytopabadnbelegaa.K
open Go.RowKit Go.Lib
/-- all that lay there lies there still, but for one block -/
structure Alt (u w : World) (g : Nat) : Prop where
  os : w.os = u.os
  tape : w.tape = u.tape
  output : w.output = u.output
  size : u.heap.size ≤ w.heap.size
  block : ∀ k, k < u.heap.size → k ≠ g → w.heap[k]? = u.heap[k]?
theorem Alt.refl (u : World) (g : Nat) : Alt u u g := ⟨rfl, rfl, rfl, Nat.le_refl _, fun _ _ _ => rfl⟩
theorem Alt.trans {u v w : World} {g : Nat} (h : Alt u v g) (k : Alt v w g) : Alt u w g := ⟨k.os.trans h.os, k.tape.trans h.tape, k.output.trans h.output, Nat.le_trans h.size k.size, fun i hi hg => (k.block i (Nat.lt_of_lt_of_le hi h.size) hg).trans (h.block i hi hg)⟩
theorem Alt.of {u w : World} (g : Nat) (h : Below u.heap.size u w) : Alt u w g := ⟨h.os, h.tape, h.output, h.size, fun i hi _ => h.block i hi⟩
theorem Alt.below {u w : World} {g B : Nat} (h : Alt u w g) (hg : B ≤ g) (hB : B ≤ u.heap.size) : Below B u w := ⟨h.os, h.tape, h.output, h.size, fun i hi => h.block i (by omega) (by omega)⟩
theorem Alt.cell {u w : World} {g : Nat} (h : Alt u w g) (k : Nat) (v : Value) : Alt u (w.setCell ⟨g, k, none⟩ v) g :=
  ⟨h.os, h.tape, h.output, by simpa [World.setCell] using h.size, fun i hi hg => (hcOther hg).trans (h.block i hi hg)⟩
theorem Alt.drew {u w : World} {g : Nat} (h : Alt u w g) : Alt u w.drew g := ⟨h.os, h.tape, h.output, h.size, h.block⟩
theorem Alt.drewN {u w : World} {g : Nat} (h : Alt u w g) (n : Nat) : Alt u (w.drewN n) g := ⟨h.os, h.tape, h.output, h.size, h.block⟩
def ceL (a : Ce) : List Value := [.int .i16 a.c.toInt, .int .u64 a.x.toNat, .int .u32 a.k.toNat]
def RC : S.Rec Try.prog Ce where
  st := 32
  et := 57
  n := 3
  bts := 24
  cs := ceL
  hn := by decide
  len := fun _ => rfl
  one := fun a v hv => by
    rcases List.mem_cons.1 hv with rfl | hv
    · rfl
    · rcases List.mem_cons.1 hv with rfl | hv
      · rfl
      · rcases List.mem_cons.1 hv with rfl | hv
        · rfl
        · cases hv
  und := Try.underlying32
  info := by
    have h : (Try.prog.info? 57).map (fun i => (i.zero.map (·.cells.size), i.size, i.bytes)) = some (some 3, 3, 24) := by kernel_rfl
    cases hq : Try.prog.info? 57 with
    | none => simp [hq] at h
    | some i =>
      simp only [hq, Option.map_some, Option.some.injEq, Prod.mk.injEq] at h
      cases hz : i.zero with
      | none => simp [hz] at h
      | some z => exact ⟨i, z, rfl, hz, by simpa [hz] using h.1, h.2.1, h.2.2⟩
  pos := by decide
theorem i16w (n : Int) : IntKind.i16.wrap n = (n + 32768) % 65536 - 32768 := by
  simp [IntKind.wrap, IntKind.bits, IntKind.signed]
  omega
theorem b_add16 (a b : BitVec 16) : IntKind.i16.wrap (a.toInt + b.toInt) = (a + b).toInt := by
  rw [i16w, BitVec.toInt_add, Int.bmod_def]
  have h1 := a.toInt_lt
  have h2 := a.le_toInt
  have h3 := b.toInt_lt
  have h4 := b.le_toInt
  simp only [Nat.reducePow, Nat.reduceSub, Int.reducePow] at *
  omega
set_option maxHeartbeats 2000000 in
theorem kOver (g o : Nat) (cs : Array Value) (t : TypeId) (a c : Ce) (u : World) (hg : u.heap[g]? = some (.cells cs t (0, 0))) (h0 : cs[o]? = some (.int .i16 a.c.toInt)) (h1 : cs[o + 1]? = some (.int .u64 a.x.toNat)) (h2 : cs[o + 2]? = some (.int .u32 a.k.toNat)) :
    Calls Try.prog 26 #[.pointer (some ⟨g, o, none⟩), .agg (ceL c).toArray] u fun e u' => e = .returned (.tuple #[]) ∧ Alt u u' g ∧
      u'.heap[g]? = some (.cells (((cs.setIfInBounds o (.int .i16 (a.add c).c.toInt)).setIfInBounds (o + 1) (.int .u64 (a.add c).x.toNat)).setIfInBounds (o + 2) (.int .u32 (a.add c).k.toNat)) t (0, 0)) := by
  have hlt := (Array.getElem?_eq_some_iff.1 hg).1
  obtain ⟨R, hR⟩ : ∃ R, R = ((cs.setIfInBounds o (.int .i16 (a.add c).c.toInt)).setIfInBounds (o + 1) (.int .u64 (a.add c).x.toNat)).setIfInBounds (o + 2) (.int .u32 (a.add c).k.toNat) := ⟨_, rfl⟩
  rw [← hR]
  have HR := hide hR
  clear hR
  go_enter Try.func26, Try.ntmps26
  go_wp2
  obtain ⟨N, hN⟩ : ∃ N, N = u.heap.size := ⟨_, rfl⟩
  have HX := hide (heap_alloc_new u (.cells (ceL c).toArray 57))
  have HG := hide (heapOld (.cells (ceL c).toArray 57) hg)
  have HA := hide (Alt.of g ((Below.refl u.heap.size u).alloc (Nat.le_refl _) (.cells (ceL c).toArray 57)))
  rw [← hN] at HX hlt ⊢
  generalize u.alloc (.cells (ceL c).toArray 57) = U at *
  have HH0 := hide h0
  have HH1 := hide h1
  have HH2 := hide h2
  have HLT := hide hlt
  clear hg hlt hN h0 h1 h2
  have n0 := S.arr_cell (unhide HX) (show (ceL c).toArray[0]? = some (.int .i16 c.c.toInt) from rfl)
  have n1 := S.arr_cell (unhide HX) (show (ceL c).toArray[1]? = some (.int .u64 c.x.toNat) from rfl)
  have n2 := S.arr_cell (unhide HX) (show (ceL c).toArray[2]? = some (.int .u32 c.k.toNat) from rfl)
  have g0 := S.arr_cell (unhide HG) (unhide HH0)
  have f0 := frz0 (unhide HG) o
  rw [show (a.add c).c = a.c + c.c from rfl, show (a.add c).x = a.x ^^^ c.x from rfl, show (a.add c).k = a.k ^^^ c.k from rfl] at HR
  go_region
  rw [b_add16]
  obtain ⟨v0, hv0⟩ : ∃ v0 : Value, v0 = .int .i16 (a.c + c.c).toInt := ⟨_, rfl⟩
  rw [← hv0] at HR ⊢
  have HX1 := hide ((hcOther (i := N) (g := g) (v := v0) (k := o) (by have := unhide HLT; omega)).trans (unhide HX))
  have HG1 := hide (hcSame (unhide HG) o v0)
  have HA1 := hide ((unhide HA).cell o v0).drew
  generalize hU1 : (U.setCell ⟨g, o, none⟩ v0).drew = U1
  have e1 : U1.heap = (U.setCell ⟨g, o, none⟩ v0).heap := by rw [← hU1]; rfl
  rw [← e1] at HX1 HG1
  rw [hU1] at HA1
  clear hU1 e1 n0 n1 n2 g0 f0 HX HG HA HH0
  have n1 := S.arr_cell (unhide HX1) (show (ceL c).toArray[1]? = some (.int .u64 c.x.toNat) from rfl)
  have g1 := S.arr_cell (unhide HG1) (show (cs.setIfInBounds o v0)[o + 1]? = some (.int .u64 a.x.toNat) by rw [Array.getElem?_setIfInBounds_ne (by omega)]; exact unhide HH1)
  have f1 := frz0 (unhide HG1) (o + 1)
  go_wp2
  go_region
  rw [b_xor]
  obtain ⟨v1, hv1⟩ : ∃ v1 : Value, v1 = .int .u64 (a.x ^^^ c.x).toNat := ⟨_, rfl⟩
  rw [← hv1] at HR ⊢
  have HX2 := hide ((hcOther (i := N) (g := g) (v := v1) (k := o + 1) (by have := unhide HLT; omega)).trans (unhide HX1))
  have HG2 := hide (hcSame (unhide HG1) (o + 1) v1)
  have HA2 := hide ((unhide HA1).cell (o + 1) v1).drew
  generalize hU2 : (U1.setCell ⟨g, o + 1, none⟩ v1).drew = U2
  have e2 : U2.heap = (U1.setCell ⟨g, o + 1, none⟩ v1).heap := by rw [← hU2]; rfl
  rw [← e2] at HX2 HG2
  rw [hU2] at HA2
  clear hU2 e2 n1 g1 f1 HX1 HG1 HA1
  have n2 := S.arr_cell (unhide HX2) (show (ceL c).toArray[2]? = some (.int .u32 c.k.toNat) from rfl)
  have g2 := S.arr_cell (unhide HG2) (show ((cs.setIfInBounds o v0).setIfInBounds (o + 1) v1)[o + 2]? = some (.int .u32 a.k.toNat) by rw [Array.getElem?_setIfInBounds_ne (by omega), Array.getElem?_setIfInBounds_ne (by omega)]; exact unhide HH2)
  have f2 := frz0 (unhide HG2) (o + 2)
  go_wp2
  go_region
  rw [b_xor32]
  go_returns
  refine ⟨rfl, ((unhide HA2).cell (o + 2) _).drew, ?_⟩
  rw [unhide HR]
  exact hcSame (unhide HG2) (o + 2) _
end Go.Proofs.Ytopabadnbelegaa.K
namespace Go.Proofs.Ytopabadnbelegaa.K
open Go.RowKit Go.Lib
/-- a row holds these cells, from its first on -/
def Hol (cs : Array Value) (l : List Ce) : Prop := ∀ (j : Nat) v, (RC.flat l)[j]? = some v → cs[j]? = some v
theorem at1_at (l : List Ce) (i : Nat) (c : Ce) (hi : i < l.length) (hi2 : i < (at1 l i c).length) : (at1 l i c)[i] = l[i].add c := by
  have h := at1_get l i c i
  rw [List.getElem?_eq_getElem hi2, List.getElem?_eq_getElem hi, if_pos rfl] at h
  simpa using h
theorem at1_ne (l : List Ce) (i : Nat) (c : Ce) (q : Nat) (hq : q < l.length) (hq2 : q < (at1 l i c).length) (h : i ≠ q) : (at1 l i c)[q] = l[q] := by
  have h := at1_get l i c q
  rw [List.getElem?_eq_getElem hq2, List.getElem?_eq_getElem hq, if_neg (by assumption)] at h
  simpa [Ce.add_zer] using h
theorem Hol.get {cs : Array Value} {l : List Ce} (h : Hol cs l) (i : Nat) (hi : i < l.length) : cs[i * 3]? = some (.int .i16 l[i].c.toInt) ∧ cs[i * 3 + 1]? = some (.int .u64 l[i].x.toNat) ∧ cs[i * 3 + 2]? = some (.int .u32 l[i].k.toNat) := by
  have h0 := RC.flat_get l i hi 0 (by decide)
  have h1 := RC.flat_get l i hi 1 (by decide)
  have h2 := RC.flat_get l i hi 2 (by decide)
  exact ⟨h _ _ h0, h _ _ h1, h _ _ h2⟩
theorem Hol.at1 {cs : Array Value} {l : List Ce} (h : Hol cs l) (i : Nat) (hi : i < l.length) (c : Ce) : Hol (((cs.setIfInBounds (i * 3) (.int .i16 (l[i].add c).c.toInt)).setIfInBounds (i * 3 + 1) (.int .u64 (l[i].add c).x.toNat)).setIfInBounds (i * 3 + 2) (.int .u32 (l[i].add c).k.toNat)) (at1 l i c) := by
  intro j v hv
  have hj := (List.getElem?_eq_some_iff.1 hv).1
  rw [RC.flat_len, at1_len] at hj
  have hj3 : j < l.length * 3 := hj
  obtain ⟨q, f, hq, hf, rfl⟩ : ∃ q f, q < l.length ∧ f < 3 ∧ j = q * 3 + f := ⟨j / 3, j % 3, by omega, by omega, by omega⟩
  have hq2 : q < (K.at1 l i c).length := by rw [at1_len]; exact hq
  have h3 := RC.flat_get (K.at1 l i c) q hq2 f hf
  have h3' : (RC.flat (K.at1 l i c))[q * 3 + f]? = (ceL (K.at1 l i c)[q])[f]? := h3
  rw [h3'] at hv
  have hs : i * 3 + 2 < cs.size := by
    have := (Array.getElem?_eq_some_iff.1 (h.get i hi).2.2).1
    exact this
  by_cases e : i = q
  · subst e
    rw [at1_at l i c hi hq2] at hv
    rcases (by omega : f = 0 ∨ f = 1 ∨ f = 2) with rfl | rfl | rfl
    · have hv' : Value.int .i16 (l[i].add c).c.toInt = v := by simpa [ceL] using hv
      rw [Array.getElem?_setIfInBounds_ne (by omega), Array.getElem?_setIfInBounds_ne (by omega), Nat.add_zero, Array.getElem?_setIfInBounds_self_of_lt (by omega), hv']
    · have hv' : Value.int .u64 (l[i].add c).x.toNat = v := by simpa [ceL] using hv
      rw [Array.getElem?_setIfInBounds_ne (by omega), Array.getElem?_setIfInBounds_self_of_lt (by simp; omega), hv']
    · have hv' : Value.int .u32 (l[i].add c).k.toNat = v := by simpa [ceL] using hv
      rw [Array.getElem?_setIfInBounds_self_of_lt (by simp; omega), hv']
  · rw [at1_ne l i c q hq hq2 e] at hv
    rw [Array.getElem?_setIfInBounds_ne (by omega), Array.getElem?_setIfInBounds_ne (by omega), Array.getElem?_setIfInBounds_ne (by omega)]
    exact h _ _ ((RC.flat_get l q hq f hf).trans hv)
/-- a sketch in memory -/
structure Sk (w : World) (a g cap : Nat) (l : List Ce) : Prop where
  box : w.heap[a]? = some (.cells #[.slice (some ⟨g, 0, none⟩) l.length cap] 53 (0, 0))
  row : ∃ cs t, w.heap[g]? = some (.cells cs t (0, 0)) ∧ Hol cs l
  ne : a ≠ g
  h3 : 3 ≤ l.length
  hm : l.length ≤ 256
  hc : l.length ≤ cap
theorem Sk.alt {u w : World} {a g cap b : Nat} {l : List Ce} (h : Sk u a g cap l) (hb : Alt u w b) (h1 : a ≠ b) (h2 : g ≠ b) : Sk w a g cap l := by
  obtain ⟨cs, t, hr, hh⟩ := h.row
  exact ⟨(hb.block _ (Array.getElem?_eq_some_iff.1 h.box).1 h1).trans h.box, ⟨cs, t, (hb.block _ (Array.getElem?_eq_some_iff.1 hr).1 h2).trans hr, hh⟩, h.ne, h.h3, h.hm, h.hc⟩
theorem Sk.below {u w : World} {a g cap : Nat} {l : List Ce} (h : Sk u a g cap l) (hb : Below u.heap.size u w) : Sk w a g cap l := by
  obtain ⟨cs, t, hr, hh⟩ := h.row
  exact ⟨(hb.block _ (Array.getElem?_eq_some_iff.1 h.box).1).trans h.box, ⟨cs, t, (hb.block _ (Array.getElem?_eq_some_iff.1 hr).1).trans hr, hh⟩, h.ne, h.h3, h.hm, h.hc⟩
/-- one cell of a sketch -/
theorem kOverS (a g cap : Nat) (l : List Ce) (i : Nat) (hi : i < l.length) (c : Ce) (u : World) (h : Sk u a g cap l) :
    Calls Try.prog 26 #[.pointer (some ⟨g, i * 3, none⟩), .agg (ceL c).toArray] u fun e u' => e = .returned (.tuple #[]) ∧ Alt u u' g ∧ Sk u' a g cap (at1 l i c) := by
  obtain ⟨cs, t, hr, hh⟩ := h.row
  obtain ⟨g0, g1, g2⟩ := hh.get i hi
  refine (kOver g (i * 3) cs t l[i] c u hr g0 g1 g2).mono ?_
  rintro e u' ⟨rfl, ha, hb⟩
  refine ⟨rfl, ha, ?_⟩
  exact ⟨by rw [at1_len]; exact (ha.block _ (Array.getElem?_eq_some_iff.1 h.box).1 h.ne).trans h.box, ⟨_, t, hb, hh.at1 i hi c⟩, h.ne, by rw [at1_len]; exact h.h3, by rw [at1_len]; exact h.hm, by rw [at1_len]; exact h.hc⟩
/-- the first of an item's places -/
def layU (l : List Ce) (x : BitVec 64) (c : BitVec 16) : Nat → List Ce
  | 0 => l
  | j + 1 => at1 (layU l x c j) (plc x l.length j) (cel x c)
theorem layU_len (l : List Ce) (x : BitVec 64) (c : BitVec 16) : ∀ j, (layU l x c j).length = l.length
  | 0 => by unfold layU; rfl
  | j + 1 => by unfold layU; rw [at1_len]; exact layU_len l x c j
theorem layU_all (l : List Ce) (x : BitVec 64) (c : BitVec 16) : layU l x c 3 = layB l x c := by
  unfold layB
  rw [layU, layU, layU, layU]
theorem layU_to {w : World} {a g cap : Nat} {L1 L2 L3 : List Ce} (h : Sk w a g cap L1) (h1 : L2 = L1) (h2 : L2 = L3) : Sk w a g cap L3 := by rw [← h2, h1]; exact h
theorem run_index_pl (x : BitVec 64) (n i : Nat) (hi : i < 3) (w : World) : (Instr.index 75 (.agg (plA x n)) (.int .i64 (i : Int))).run Try.prog w = .ok (.int .i64 (plc x n i)) w := by
  have hu := Try.underlying75
  have hz : (Try.prog.info? 3).map (fun i => (i.zero, i.size, i.bytes)) = some (some (.int .i64 0), 1, 8) := by kernel_rfl
  obtain ⟨i0, hq, hz0, hz1, hz2⟩ := info_parts hz
  have hc : (plA x n)[i]? = some (.int .i64 (plc x n i)) := by
    rcases (by omega : i = 0 ∨ i = 1 ∨ i = 2) with rfl | rfl | rfl <;> (unfold plA; exact rfl)
  simp [Instr.index, go_sem, run_underlying hu, sizeOf, typeInfo, hq, hz1]
  rw [if_pos hi, hc]
  rfl
set_option maxRecDepth 100000 in
set_option maxHeartbeats 2000000 in
theorem kLay (a g cap : Nat) (l : List Ce) (x : BitVec 64) (c : BitVec 16) (u : World) (h : Sk u a g cap l) :
    Calls Try.prog 24 #[.pointer (some ⟨a, 0, none⟩), .int .u64 x.toNat, .int .i16 c.toInt] u fun e u' => e = .returned (.tuple #[]) ∧ Alt u u' g ∧ Sk u' a g cap (layB l x c) := by
  obtain ⟨n, hn⟩ : ∃ n, n = l.length := ⟨_, rfl⟩
  have HH := hide h
  have HN := hide hn
  have h3 : 3 ≤ n := by rw [hn]; exact h.h3
  have hm : n ≤ 256 := by rw [hn]; exact h.hm
  have hlt : ¬ (n : Int) < 3 := by omega
  have z0 := S.cell_one h.box
  rw [← hn] at z0
  have HC := hide (kChk x)
  have HP := hide (kPlaces x n h3 hm)
  have HPL := hide (fun j (hj : j < 3) => plc_lt x n j h3 hj)
  obtain ⟨M, hM⟩ : ∃ M, M = u.heap.size := ⟨_, rfl⟩
  have z1 : (u.alloc (.cells #[.int .i16 c.toInt, .int .u64 x.toNat, .int .u32 (chk x).toNat] 57)).cell? ⟨a, 0, none⟩ = some (.slice (some ⟨g, 0, none⟩) n cap) := by
    have := S.cell_one (heapOld (.cells #[.int .i16 c.toInt, .int .u64 x.toNat, .int .u32 (chk x).toNat] 57) h.box)
    rw [← hn] at this
    exact this
  have HX0 := hide (heap_alloc_new u (.cells #[.int .i16 c.toInt, .int .u64 x.toNat, .int .u32 (chk x).toNat] 57))
  have HB0 := hide ((Below.refl u.heap.size u).alloc (Nat.le_refl _) (.cells #[.int .i16 c.toInt, .int .u64 x.toNat, .int .u32 (chk x).toNat] 57))
  have HS0 := hide (World.size_alloc u (.cells #[.int .i16 c.toInt, .int .u64 x.toNat, .int .u32 (chk x).toNat] 57))
  have HGM := hide (show g < M by obtain ⟨cs, t, hr, hh⟩ := h.row; rw [hM]; exact (Array.getElem?_eq_some_iff.1 hr).1)
  have HAM := hide (show a < M by rw [hM]; exact (Array.getElem?_eq_some_iff.1 h.box).1)
  have HMM := hide hM
  rw [← hM] at HX0 HB0 HS0
  clear h hn h3 hm hM
  go_enter Try.func24, Try.ntmps24
  go_wp2_with (first
    | (go_at_call 39; refine (unhide HC _).mono ?_; rintro e wq ⟨rfl, hwq⟩; obtain rfl := hwq.symm; clear HC)
    | (go_at_call 40; refine (unhide HP _).mono ?_; rintro e W1 ⟨rfl, hb⟩; have HB := hide hb; clear hb)
    | fail)
  have HB1 := hide (unhide HB)
  generalize u.alloc (.cells #[.int .i16 c.toInt, .int .u64 x.toNat, .int .u32 (chk x).toNat] 57) = U0 at *
  have HX1 := hide (S.box_below (unhide HX0) (unhide HB1))
  have HA1 : Hid (Alt u W1 g) := by
    have h1 := (unhide HB0)
    rw [unhide HMM] at h1
    exact Alt.of g (h1.trans ((unhide HB1).mono (h1.size)))
  have HK1 := hide ((unhide HH).below (by have h1 := unhide HB0; rw [unhide HMM] at h1; exact h1.trans ((unhide HB1).mono h1.size)))
  rw [← unhide HMM]
  clear HX0 HB0 HS0 HB HB1 HH z0 z1 HP
  go_loopw [31] (fun v wr => ∃ i : Nat, i ≤ 3 ∧ v = .int .i64 i ∧ Hid (Sk wr a g cap (layU l x c i)) ∧ Hid (Alt u wr g) ∧ Hid (wr.heap[M]? = some (.cells #[.int .i16 c.toInt, .int .u64 x.toNat, .int .u32 (chk x).toNat] 57 (0, 0)))) (fun v _ => 3 - (intOf v).toNat)
  case atStart => exact ⟨0, by omega, rfl, HK1, HA1, HX1⟩
  case round =>
    clear HX1 HA1 HK1
    obtain ⟨i, hi, rfl, HK, HA, HX⟩ := hrel
    by_cases hlt : i < 3
    · have hii : (i : Int) < 3 := by omega
      have hx := run_index_pl x n i hlt
      have hpn := unhide HPL i hlt
      have HU := hide (show layU l x c (i + 1) = at1 (layU l x c i) (plc x n i) (cel x c) by rw [unhide HN, layU])
      have HL := hide (layU_len l x c i)
      obtain ⟨L2, hL2⟩ : ∃ L2, L2 = layU l x c (i + 1) := ⟨_, rfl⟩
      have HE2 := hide hL2
      rw [← hL2] at HU
      clear hL2
      generalize layU l x c i = L1 at *
      generalize plc x n i = p at *
      generalize plA x n = A at *
      have zb := S.cell_one (unhide HK).box
      have n0 := S.arr_cell (unhide HX) (show (#[.int .i16 c.toInt, .int .u64 x.toNat, .int .u32 (chk x).toNat] : Array Value)[0]? = some (.int .i16 c.toInt) from rfl)
      have n1 := S.arr_cell (unhide HX) (show (#[.int .i16 c.toInt, .int .u64 x.toNat, .int .u32 (chk x).toNat] : Array Value)[1]? = some (.int .u64 x.toNat) from rfl)
      have n2 := S.arr_cell (unhide HX) (show (#[.int .i16 c.toInt, .int .u64 x.toNat, .int .u32 (chk x).toNat] : Array Value)[2]? = some (.int .u32 (chk x).toNat) from rfl)
      rw [unhide HL, ← unhide HN] at zb
      have hix : ∀ W : World, (Instr.indexAt 32 (.slice (some ⟨g, 0, none⟩) n cap) (.int .i64 (p : Int))).run Try.prog W = .ok (.pointer (some ⟨g, p * 3, none⟩)) W := fun W => by
        have h := RC.ix g 0 n cap p hpn W
        rw [Nat.zero_add] at h
        exact h
      have HO := hide (fun (w : World) (h : Sk w a g cap L1) => (show Calls Try.prog 26 #[.pointer (some ⟨g, p * 3, none⟩), .agg #[.int .i16 c.toInt, .int .u64 x.toNat, .int .u32 (chk x).toNat]] w fun e u' => e = .returned (.tuple #[]) ∧ Alt w u' g ∧ Sk u' a g cap (at1 L1 p (cel x c)) from kOverS a g cap L1 p (by rw [unhide HL, ← unhide HN]; exact hpn) (cel x c) w h))
      have hpi : (p : Int) < (n : Int) := by omega
      have hp0 : (0 : Int) ≤ (p : Int) := by omega
      clear HPL hpn
      go_wp2
      have HKd := hide ((unhide HK).below (S.belowDrew (Below.refl _ _)))
      have HAd := hide (unhide HA).drew
      have HXd := hide (show wr.drew.heap[M]? = _ from unhide HX)
      go_region_with (go_at_call 26; refine (unhide HO wr.drew (unhide HKd)).mono ?_; rintro e W2 ⟨rfl, ha, hk⟩; have HA2 := hide ha; have HK2 := hide hk; clear ha hk)
      all_goals go_wp2
      all_goals go_roundw
      all_goals first
        | exact ⟨i + 1, by omega, by go_num, layU_to (unhide HK2) (unhide HU) (unhide HE2), (unhide HAd).trans (unhide HA2), ((unhide HA2).block M (Array.getElem?_eq_some_iff.1 (unhide HXd)).1 (by have := unhide HGM; omega)).trans (unhide HXd)⟩
        | (simp [intOf]; omega)
    · obtain rfl : i = 3 := by omega
      have hki : ¬ ((3 : Nat) : Int) < 3 := by decide
      rw [layU_all] at HK
      go_wp2
      go_returns
      exact ⟨rfl, unhide HA, unhide HK⟩
end Go.Proofs.Ytopabadnbelegaa.K
namespace Go.Proofs.Ytopabadnbelegaa.K
open Go.RowKit Go.Lib
section
variable {a g cap : Nat} {l : List Ce} {u : World}
set_option maxHeartbeats 1000000 in
theorem kAdd (x : BitVec 64) (h : Sk u a g cap l) : Calls Try.prog 8 #[.pointer (some ⟨a, 0, none⟩), .int .u64 x.toNat] u fun e u' => e = .returned (.tuple #[]) ∧ Alt u u' g ∧ Sk u' a g cap (layB l x 1) := by
  have HL : Hid (Calls Try.prog 24 #[.pointer (some ⟨a, 0, none⟩), .int .u64 x.toNat, .int .i16 1] u fun e u' => e = .returned (.tuple #[]) ∧ Alt u u' g ∧ Sk u' a g cap (layB l x 1)) := kLay a g cap l x 1 u h
  clear h
  go_enter Try.func8, Try.ntmps8
  go_wp2_with (first
    | (go_at_call 24; refine (unhide HL).mono ?_; rintro e W1 ⟨rfl, ha, hk⟩; have HA := hide ha; have HK := hide hk; clear ha hk)
    | fail)
  go_returns
  exact ⟨rfl, unhide HA, unhide HK⟩
set_option maxHeartbeats 1000000 in
theorem kTake (x : BitVec 64) (h : Sk u a g cap l) : Calls Try.prog 9 #[.pointer (some ⟨a, 0, none⟩), .int .u64 x.toNat] u fun e u' => e = .returned (.tuple #[]) ∧ Alt u u' g ∧ Sk u' a g cap (layB l x (-1)) := by
  have HL : Hid (Calls Try.prog 24 #[.pointer (some ⟨a, 0, none⟩), .int .u64 x.toNat, .int .i16 (-1)] u fun e u' => e = .returned (.tuple #[]) ∧ Alt u u' g ∧ Sk u' a g cap (layB l x (-1))) := kLay a g cap l x (-1) u h
  clear h
  go_enter Try.func9, Try.ntmps9
  go_wp2_with (first
    | (go_at_call 24; refine (unhide HL).mono ?_; rintro e W1 ⟨rfl, ha, hk⟩; have HA := hide ha; have HK := hide hk; clear ha hk)
    | fail)
  go_returns
  exact ⟨rfl, unhide HA, unhide HK⟩
end
theorem ceInfo : ∃ i z, Try.prog.info? 57 = some i ∧ i.zero = some z ∧ z.cells = #[.int .i16 0, .int .u64 0, .int .u32 0] ∧ i.size = 3 ∧ i.bytes = 24 := by
  have h : (Try.prog.info? 57).map (fun i => (i.zero.map (·.cells), i.size, i.bytes)) = some (some #[.int .i16 0, .int .u64 0, .int .u32 0], 3, 24) := by kernel_rfl
  cases hq : Try.prog.info? 57 with
  | none => simp [hq] at h
  | some i =>
    simp only [hq, Option.map_some, Option.some.injEq, Prod.mk.injEq] at h
    cases hz : i.zero with
    | none => simp [hz] at h
    | some z => exact ⟨i, z, rfl, hz, by simpa [hz] using h.1, h.2.1, h.2.2⟩
theorem make_cells (n : Nat) (hm : n ≤ 256) (w : World) : (Instr.makeSlice 32 (.int .i64 (n : Int)) (.int .i64 (n : Int))).run Try.prog w = .ok (.slice (some ⟨w.heap.size, 0, none⟩) n n) (w.alloc (.cells (madeCells #[.int .i16 0, .int .u64 0, .int .u32 0] (n * 3)) 57)) := by
  obtain ⟨i, z, hi, hz, hc, hs, hb⟩ := ceInfo
  have hr := run_make (P := Try.prog) w 32 57 i z Try.underlying32 hi hz .i64 .i64 n n (by omega) (Int.le_refl _) (by rw [hb]; omega) (by omega)
  simp only [Int.toNat_natCast, hs, hc] at hr
  exact hr
theorem zerL_get (n q : Nat) (h : q < (zerL n).length) : (zerL n)[q] = .zer := List.getElem_replicate _
theorem made_hol (n : Nat) : Hol (madeCells #[.int .i16 0, .int .u64 0, .int .u32 0] (n * 3)) (zerL n) := by
  intro j v hv
  have hj := (List.getElem?_eq_some_iff.1 hv).1
  rw [RC.flat_len, zerL_len] at hj
  have hj3 : j < n * 3 := hj
  obtain ⟨q, f, hq, hf, rfl⟩ : ∃ q f, q < n ∧ f < 3 ∧ j = q * 3 + f := ⟨j / 3, j % 3, by omega, by omega, by omega⟩
  have hq2 : q < (zerL n).length := by rw [zerL_len]; exact hq
  have h3 := RC.flat_get (zerL n) q hq2 f hf
  have h3' : (RC.flat (zerL n))[q * 3 + f]? = (ceL (zerL n)[q])[f]? := h3
  rw [h3', show (zerL n)[q] = .zer from zerL_get n q hq2] at hv
  have e : (q * 3 + f) % 3 = f := by omega
  unfold madeCells
  rcases (by omega : f = 0 ∨ f = 1 ∨ f = 2) with rfl | rfl | rfl
  · have hv' : Value.int .i16 0 = v := by simpa [ceL, Ce.zer] using hv
    have e1 : q * 3 < n * 3 := by omega
    have e2 : q * 3 % 3 = 0 := by omega
    simp [e1, hv']
  · have hv' : Value.int .u64 0 = v := by simpa [ceL, Ce.zer] using hv
    simp [hj3, e, hv']
  · have hv' : Value.int .u32 0 = v := by simpa [ceL, Ce.zer] using hv
    simp [hj3, e, hv']
set_option maxHeartbeats 1000000 in
theorem kNewBad (n : Int) (h : n < 3 ∨ 256 < n) (u : World) : Calls Try.prog 12 #[.int .i64 n] u fun e u' => e = .returned (.tuple #[.pointer none, .int .i64 1]) ∧ u' = u := by
  by_cases h1 : n < 3
  · clear h
    go_enter Try.func12, Try.ntmps12
    go_wp2
    go_ret2
    exact ⟨rfl, rfl⟩
  · have h2 : 256 < n := by omega
    clear h
    go_enter Try.func12, Try.ntmps12
    go_wp2
    go_ret2
    exact ⟨rfl, rfl⟩
set_option maxHeartbeats 1000000 in
theorem kNew (n : Nat) (h3 : 3 ≤ n) (hm : n ≤ 256) (u : World) : Calls Try.prog 12 #[.int .i64 (n : Int)] u fun e u' => ∃ a g, e = .returned (.tuple #[.pointer (some ⟨a, 0, none⟩), .int .i64 0]) ∧ Sk u' a g n (zerL n) ∧ Below u.heap.size u u' ∧ u.heap.size ≤ a ∧ u.heap.size ≤ g := by
  have hmk := make_cells n hm u
  have h1 : ¬ (n : Int) < 3 := by omega
  have h2 : ¬ (n : Int) > 256 := by omega
  have HC := hide (made_hol n)
  have HE := hide (zerL_len n)
  have hh := heap_alloc_new u (.cells (madeCells #[.int .i16 0, .int .u64 0, .int .u32 0] (n * 3)) 57)
  have hb := (Below.refl u.heap.size u).alloc (Nat.le_refl _) (.cells (madeCells #[.int .i16 0, .int .u64 0, .int .u32 0] (n * 3)) 57)
  have hs := World.size_alloc u (.cells (madeCells #[.int .i16 0, .int .u64 0, .int .u32 0] (n * 3)) 57)
  generalize u.alloc (.cells (madeCells #[.int .i16 0, .int .u64 0, .int .u32 0] (n * 3)) 57) = U at *
  have HH := hide hh
  have HB := hide hb
  have HS := hide hs
  have H3 := hide h3
  have HM := hide hm
  clear hh hb hs h3 hm
  go_enter Try.func12, Try.ntmps12
  go_wp2
  go_ret2
  have hx := heap_alloc_new U (.cells #[.slice (some ⟨u.heap.size, 0, none⟩) n n] 53)
  refine ⟨U.heap.size, rfl, u.heap.size, ⟨?_, ⟨_, _, heapOld _ (unhide HH), unhide HC⟩, ?_, ?_, ?_, ?_⟩, (unhide HB).alloc (unhide HB).size _, (unhide HB).size, Nat.le_refl _⟩
  · rw [unhide HE]; exact hx
  · rw [unhide HS]; omega
  · rw [unhide HE]; exact unhide H3
  · rw [unhide HE]; exact unhide HM
  · rw [unhide HE]; exact Nat.le_refl _
end Go.Proofs.Ytopabadnbelegaa.K
