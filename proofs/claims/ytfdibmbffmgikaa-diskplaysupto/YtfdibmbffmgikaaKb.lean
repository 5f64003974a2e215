/- The disk in memory. -/
import Derived.Test.YtfdibmbffmgikaaKa
import Derived.Test.YtfdibmbffmgikaaOwn
import Derived.Deep.MidRow
namespace Go.Proofs.Ytfdibmbffmgikaa
open Go.RowKit Go.Lib

/-- what is done to the blocks F, and to new ones, alone -/
structure UpS (w w' : World) (F : List Nat) : Prop where
  os : w'.os = w.os
  tape : w'.tape = w.tape
  output : w'.output = w.output
  size : w.heap.size ≤ w'.heap.size
  block : ∀ k, k < w.heap.size → k ∉ F → w'.heap[k]? = w.heap[k]?
theorem UpS.refl (w : World) (F : List Nat) : UpS w w F := ⟨rfl, rfl, rfl, Nat.le_refl _, fun _ _ _ => rfl⟩
theorem UpS.trans {a b c : World} {F G : List Nat} (h : UpS a b F) (k : UpS b c G) (hs : ∀ x ∈ G, x ∈ F ∨ a.heap.size ≤ x) : UpS a c F :=
  ⟨k.os.trans h.os, k.tape.trans h.tape, k.output.trans h.output, Nat.le_trans h.size k.size, fun q hq hn =>
    (k.block q (Nat.lt_of_lt_of_le hq h.size) (fun hx => (hs q hx).elim hn (fun h' => by omega))).trans (h.block q hq hn)⟩
theorem UpS.setCell {a b : World} {F : List Nat} (h : UpS a b F) {p : Addr} (hp : p.block ∈ F ∨ a.heap.size ≤ p.block) (v : Value) : UpS a (b.setCell p v) F :=
  ⟨h.os, h.tape, h.output, by simpa [World.setCell] using h.size, fun q hq hn => (Deep.blk_setCell_other b p v q (fun e => hp.elim (fun h' => hn (e ▸ h')) (fun h' => by omega))).trans (h.block q hq hn)⟩
theorem heapRow_same {w : World} {g : Nat} {cs : Array Value} {t : TypeId} {fr : Nat × Nat} (h : w.heap[g]? = some (.cells cs t fr)) (cs' : Array Value) : (w.setRow g cs').heap[g]? = some (.cells cs' t fr) := by
  simp [World.setRow, Array.getElem?_modify, h]
theorem heapRow_other (w : World) (g k : Nat) (cs' : Array Value) (h : k ≠ g) : (w.setRow g cs').heap[k]? = w.heap[k]? := by
  simp only [World.setRow, Array.getElem?_modify]
  rw [if_neg (by omega)]
theorem UpS.setRow {a b : World} {F : List Nat} (h : UpS a b F) {g : Nat} (hp : g ∈ F ∨ a.heap.size ≤ g) (cs : Array Value) : UpS a (b.setRow g cs) F :=
  ⟨h.os, h.tape, h.output, by simpa [World.setRow] using h.size, fun q hq hn => (heapRow_other b g q cs (fun e => hp.elim (fun h' => hn (e ▸ h')) (fun h' => by omega))).trans (h.block q hq hn)⟩
theorem UpS.alloc {a b : World} {F : List Nat} (h : UpS a b F) (o : Obj) : UpS a (b.alloc o) F :=
  ⟨h.os, h.tape, h.output, by simp; have := h.size; omega, fun q hq hn => (Deep.blk_alloc_lt b o q (by have := h.size; omega)).trans (h.block q hq hn)⟩
theorem UpS.drew {a b : World} {F : List Nat} (h : UpS a b F) : UpS a b.drew F := ⟨h.os, h.tape, h.output, h.size, h.block⟩
theorem UpS.drewN {a b : World} {F : List Nat} (h : UpS a b F) (n : Nat) : UpS a (b.drewN n) F := ⟨h.os, h.tape, h.output, h.size, h.block⟩
theorem UpS.ofBelow {a b : World} (F : List Nat) (h : Below a.heap.size a b) : UpS a b F := ⟨h.os, h.tape, h.output, h.size, fun q hq _ => h.block q hq⟩
theorem UpS.ofGrown {a b : World} {F : List Nat} {r : Option Nat} (h : a.grownBy b r) (hr : ∀ k, r = some k → k ∈ F ∨ a.heap.size ≤ k) : UpS a b F :=
  ⟨h.os, h.tape, h.output, h.size, fun q hq hn => h.block q hq (fun e => (hr q e.symm).elim hn (fun h' => by omega))⟩
theorem UpS.below {a b : World} {F : List Nat} {B : Nat} (h : UpS a b F) (hB : B ≤ a.heap.size) (hF : ∀ k ∈ F, B ≤ k) : Below B a b :=
  ⟨h.os, h.tape, h.output, h.size, fun q hq => h.block q (by omega) (fun hx => by have := hF q hx; omega)⟩
theorem UpS.mono {a b : World} {F G : List Nat} (h : UpS a b F) (hs : ∀ x ∈ F, x ∈ G ∨ a.heap.size ≤ x) : UpS a b G :=
  ⟨h.os, h.tape, h.output, h.size, fun q hq hn => h.block q hq (fun hx => (hs q hx).elim hn (fun h' => by omega))⟩

theorem belowRow {B : Nat} {a w : World} (h : Below B a w) {g : Nat} (hg : B ≤ g) (cs' : Array Value) : Below B a (w.setRow g cs') :=
  ⟨h.os, h.tape, h.output, by simpa [World.setRow] using h.size, fun k hk => (heapRow_other w g k cs' (by omega)).trans (h.block k hk)⟩
theorem UpS.cell {a b : World} {F : List Nat} (h : UpS a b F) {p : Addr} (hp : p.block < a.heap.size) (hn : p.block ∉ F) : b.cell? p = a.cell? p := World.cell?_of_block (h.block _ hp hn)
def img (l : List UInt8) : Array Value := (byteCells l).toArray
theorem img_size (l : List UInt8) : (img l).size = l.length := by simp [img, byteCells]
theorem img_at (l : List UInt8) (k : Nat) (h : k < l.length) : (img l)[k]? = some (.int .u8 (l[k].toNat : Int)) := by simp [img, byteCells, h]
theorem img_one (l : List UInt8) : (img l).all (·.oneCell') = true := by
  rw [Array.all_eq_true']
  intro v hv
  simp only [img, List.mem_toArray] at hv
  exact byteCells_one l v hv
def zeros (n : Nat) : List UInt8 := List.replicate n 0
def nums (f : List Nat) : Array Value := (f.map fun x : Nat => Value.int .i64 (x : Int)).toArray
def dCells (n L T : Nat) (v : Value) (off : Bool) (fuse : Int) : Array Value := #[.slice (some ⟨L, 0, none⟩) n n, v, .slice (some ⟨T, 0, none⟩) n n, .bool off, .int .i64 fuse]

/-- a disk at D: its pages at L, the numbers of the last writes at T, what is pending at v -/
structure DskM (B : Nat) (u : World) (D L T : Nat) (v : Value) (f : List Nat) (d : Dk) : Prop where
  blk : u.heap[D]? = some (.cells (dCells d.lies.length L T v d.off d.fuse) 70 (0, 0))
  lies : u.heap[L]? = some (.cells (img d.lies.flatten) 78 (0, 0))
  last : u.heap[T]? = some (.cells (nums f) 3 (0, 0))
  pend : u.ownsRow B 80 1025 v d.pend.length (pCells d.pend)
  flen : f.length = d.lies.length
  bD : B ≤ D
  bL : B ≤ L
  bT : B ≤ T
  dl : D ≠ L
  dt : D ≠ T
  lt : L ≠ T
  vd : v.ownBlock ≠ some D
  vl : v.ownBlock ≠ some L
  vt : v.ownBlock ≠ some T
  ok : d.Ok
structure DskX (B : Nat) (u : World) (D L T : Nat) (v : Value) (f : List Nat) (d : Dk) : Prop extends DskM B u D L T v f d where
  lst : ∀ k x, f[k]? = some x → Lst d.pend k x
/-- .. and the blocks that it takes up -/
def Dsk (B : Nat) (u : World) (D : Nat) (F : List Nat) (d : Dk) : Prop := ∃ L T v f, F = D :: L :: T :: v.ownBlock.toList ∧ DskX B u D L T v f d
section
variable {B : Nat} {u u' : World} {D L T : Nat} {v : Value} {f : List Nat} {d : Dk} {F : List Nat}
theorem DskM.lt_of (h : DskM B u D L T v f d) : D < u.heap.size ∧ L < u.heap.size ∧ T < u.heap.size :=
  ⟨(Array.getElem?_eq_some_iff.1 h.blk).1, (Array.getElem?_eq_some_iff.1 h.lies).1, (Array.getElem?_eq_some_iff.1 h.last).1⟩
theorem mem_toList {o : Option Nat} {k : Nat} (h : k ∈ o.toList) : o = some k := by cases o <;> simp_all
theorem Dsk.ge (h : Dsk B u D F d) : ∀ k ∈ F, B ≤ k ∧ k < u.heap.size := by
  obtain ⟨L, T, v, f, rfl, h⟩ := h
  intro k hk
  have := h.lt_of
  simp only [List.mem_cons] at hk
  rcases hk with rfl | rfl | rfl | hk
  · exact ⟨h.bD, this.1⟩
  · exact ⟨h.bL, this.2.1⟩
  · exact ⟨h.bT, this.2.2⟩
  · exact h.pend.lt k (mem_toList hk)
theorem ownsRow_keep {e : TypeId} {s n : Nat} {xs : List Value} (h : u.ownsRow B e s v n xs) (hb : ∀ k, v.ownBlock = some k → u'.heap[k]? = u.heap[k]?) : u'.ownsRow B e s v n xs := by
  refine ⟨h.1, ?_⟩
  rcases h.2 with h' | ⟨g, cap, cur, hv, h1, h2, h3⟩
  · exact .inl h'
  · exact .inr ⟨g, cap, cur, hv, h1, (hb g (by rw [hv]; rfl)).trans h2, h3⟩
theorem DskM.keep (h : DskM B u D L T v f d) (hb : ∀ k, k = D ∨ k = L ∨ k = T ∨ v.ownBlock = some k → u'.heap[k]? = u.heap[k]?) : DskM B u' D L T v f d :=
  { h with
    blk := (hb D (by simp)).trans h.blk
    lies := (hb L (by simp)).trans h.lies
    last := (hb T (by simp)).trans h.last
    pend := ownsRow_keep h.pend fun k hk => hb k (.inr (.inr (.inr hk))) }
theorem DskX.keep (h : DskX B u D L T v f d) (hb : ∀ k, k = D ∨ k = L ∨ k = T ∨ v.ownBlock = some k → u'.heap[k]? = u.heap[k]?) : DskX B u' D L T v f d := ⟨h.toDskM.keep hb, h.lst⟩
theorem Dsk.keep (h : Dsk B u D F d) (hb : ∀ k ∈ F, u'.heap[k]? = u.heap[k]?) : Dsk B u' D F d := by
  obtain ⟨L, T, v, f, rfl, h⟩ := h
  refine ⟨L, T, v, f, rfl, h.keep fun k hk => hb k ?_⟩
  rcases hk with rfl | rfl | rfl | hk <;> simp_all
theorem Dsk.upd {G : List Nat} (h : Dsk B u D F d) (hu : UpS u u' G) (hd : ∀ k ∈ F, k ∉ G) : Dsk B u' D F d :=
  h.keep fun k hk => hu.block k (h.ge k hk).2 (hd k hk)
theorem Dsk.below (h : Dsk B u D F d) (hb : Below u.heap.size u u') : Dsk B u' D F d := h.keep fun k hk => hb.block k (h.ge k hk).2
theorem DskM.below (h : DskM B u D L T v f d) (hb : Below u.heap.size u u') : DskM B u' D L T v f d := h.keep fun k hk => hb.block k (by
  have := h.lt_of
  rcases hk with rfl | rfl | rfl | hk
  · exact this.1
  · exact this.2.1
  · exact this.2.2
  · exact (h.pend.lt k hk).2)
theorem DskX.below (h : DskX B u D L T v f d) (hb : Below u.heap.size u u') : DskX B u' D L T v f d := ⟨h.toDskM.below hb, h.lst⟩
theorem Dsk.ok (h : Dsk B u D F d) : d.Ok := by obtain ⟨L, T, v, f, rfl, h⟩ := h; exact h.ok
theorem DskM.cell (h : DskM B u D L T v f d) (k : Nat) : u.cell? ⟨D, k, none⟩ = (dCells d.lies.length L T v d.off d.fuse)[k]? := cell_of_row u D k _ _ _ h.blk
theorem DskM.c0 (h : DskM B u D L T v f d) : u.cell? ⟨D, 0, none⟩ = some (.slice (some ⟨L, 0, none⟩) d.lies.length d.lies.length) := h.cell 0
theorem DskM.c1 (h : DskM B u D L T v f d) : u.cell? ⟨D, 1, none⟩ = some v := h.cell 1
theorem DskM.c2 (h : DskM B u D L T v f d) : u.cell? ⟨D, 2, none⟩ = some (.slice (some ⟨T, 0, none⟩) d.lies.length d.lies.length) := h.cell 2
theorem DskM.c3 (h : DskM B u D L T v f d) : u.cell? ⟨D, 3, none⟩ = some (.bool d.off) := h.cell 3
theorem DskM.c4 (h : DskM B u D L T v f d) : u.cell? ⟨D, 4, none⟩ = some (.int .i64 d.fuse) := h.cell 4
theorem DskM.fz (h : DskM B u D L T v f d) (k : Nat) : u.frozen? ⟨D, k, none⟩ = false := by simp [World.frozen?, h.blk]
/-- power and fuse set -/
theorem DskM.setOff (h : DskM B u D L T v f d) (x : Bool) : DskM B (u.setCell ⟨D, 3, none⟩ (.bool x)) D L T v f ⟨d.lies, d.pend, x, d.fuse⟩ := by
  have ho : ∀ k, k ≠ D → (u.setCell ⟨D, 3, none⟩ (.bool x)).heap[k]? = u.heap[k]? := fun k hk => Deep.blk_setCell_other u ⟨D, 3, none⟩ _ k hk
  exact { h with
    blk := by rw [heapCell_same h.blk]; simp [dCells]
    lies := (ho L (Ne.symm h.dl)).trans h.lies
    last := (ho T (Ne.symm h.dt)).trans h.last
    pend := ownsRow_keep h.pend fun k hk => ho k (fun e => h.vd (e ▸ hk))
    ok := ⟨h.ok.pos, h.ok.max, h.ok.len, h.ok.pg, h.ok.f0, h.ok.f1⟩ }
theorem DskM.setFuse (h : DskM B u D L T v f d) (x : Int) (h0 : -1 ≤ x) (h1 : x ≤ 9223372036854775807) : DskM B (u.setCell ⟨D, 4, none⟩ (.int .i64 x)) D L T v f ⟨d.lies, d.pend, d.off, x⟩ := by
  have ho : ∀ k, k ≠ D → (u.setCell ⟨D, 4, none⟩ (.int .i64 x)).heap[k]? = u.heap[k]? := fun k hk => Deep.blk_setCell_other u ⟨D, 4, none⟩ _ k hk
  exact { h with
    blk := by rw [heapCell_same h.blk]; simp [dCells]
    lies := (ho L (Ne.symm h.dl)).trans h.lies
    last := (ho T (Ne.symm h.dt)).trans h.last
    pend := ownsRow_keep h.pend fun k hk => ho k (fun e => h.vd (e ▸ hk))
    ok := ⟨h.ok.pos, h.ok.max, h.ok.len, h.ok.pg, h0, h1⟩ }
theorem DskX.setOff (h : DskX B u D L T v f d) (x : Bool) : DskX B (u.setCell ⟨D, 3, none⟩ (.bool x)) D L T v f ⟨d.lies, d.pend, x, d.fuse⟩ := ⟨h.toDskM.setOff x, h.lst⟩
theorem DskX.setFuse (h : DskX B u D L T v f d) (x : Int) (h0 : -1 ≤ x) (h1 : x ≤ 9223372036854775807) : DskX B (u.setCell ⟨D, 4, none⟩ (.int .i64 x)) D L T v f ⟨d.lies, d.pend, d.off, x⟩ := ⟨h.toDskM.setFuse x h0 h1, h.lst⟩
theorem ownsRow_len {e : TypeId} {s n : Nat} {xs : List Value} (h : u.ownsRow B e s v n xs) : ∃ ao c, v = .slice ao n c := by
  rcases h.2 with ⟨h1, h2⟩ | ⟨g, cap, cur, hv, _⟩
  · exact ⟨none, 0, by rw [h1, h2]⟩
  · exact ⟨_, _, hv⟩
end
end Go.Proofs.Ytfdibmbffmgikaa
