/- Sketches in memory: cells behind a slice; one cell laid over another; items laid. -/
import Derived.Test.YtdmdenbpokmelaaSkc
namespace Go.Proofs.Ytdmdenbpokmelaa.K
open Go.RowKit Go.Lib
/-- all that lay there lies there still, but for one block -/
structure Alt (u w : World) (g : Nat) : Prop where
  os : w.os = u.os
  tape : w.tape = u.tape
  output : w.output = u.output
  size : u.heap.size ≤ w.heap.size
  block : ∀ k, k < u.heap.size → k ≠ g → w.heap[k]? = u.heap[k]?
theorem Alt.refl (u : World) (g : Nat) : Alt u u g := ⟨rfl, rfl, rfl, Nat.le_refl _, fun _ _ _ => rfl⟩
theorem Alt.trans {u v w : World} {g : Nat} (h : Alt u v g) (k : Alt v w g) : Alt u w g := ⟨k.os.trans h.os, k.tape.trans h.tape, k.output.trans h.output, Nat.le_trans h.size k.size, fun i hi hg => (k.block i (Nat.lt_of_lt_of_le hi h.size) hg).trans (h.block i hi hg)⟩
theorem Alt.of {u w : World} (g : Nat) (h : Below u.heap.size u w) : Alt u w g := ⟨h.os, h.tape, h.output, h.size, fun i hi _ => h.block i hi⟩
theorem Alt.below {u w : World} {g B : Nat} (h : Alt u w g) (hg : B ≤ g) (hB : B ≤ u.heap.size) : Below B u w := ⟨h.os, h.tape, h.output, h.size, fun i hi => h.block i (by omega) (by omega)⟩
theorem Alt.cell {u w : World} {g : Nat} (h : Alt u w g) (k : Nat) (v : Value) : Alt u (w.setCell ⟨g, k, none⟩ v) g :=
  ⟨h.os, h.tape, h.output, by simpa [World.setCell] using h.size, fun i hi hg => (hcOther hg).trans (h.block i hi hg)⟩
theorem Alt.drew {u w : World} {g : Nat} (h : Alt u w g) : Alt u w.drew g := ⟨h.os, h.tape, h.output, h.size, h.block⟩
theorem Alt.drewN {u w : World} {g : Nat} (h : Alt u w g) (n : Nat) : Alt u (w.drewN n) g := ⟨h.os, h.tape, h.output, h.size, h.block⟩
def ceL (a : Ce) : List Value := [.int .i16 a.c.toInt, .int .u64 a.x.toNat, .int .u32 a.k.toNat]
def RC : S.Rec Try.prog Ce where
  st := 32
  et := 57
  n := 3
  bts := 24
  cs := ceL
  hn := by decide
  len := fun _ => rfl
  one := fun a v hv => by
    rcases List.mem_cons.1 hv with rfl | hv
    · rfl
    · rcases List.mem_cons.1 hv with rfl | hv
      · rfl
      · rcases List.mem_cons.1 hv with rfl | hv
        · rfl
        · cases hv
  und := Try.underlying32
  info := by
    have h : (Try.prog.info? 57).map (fun i => (i.zero.map (·.cells.size), i.size, i.bytes)) = some (some 3, 3, 24) := by kernel_rfl
    cases hq : Try.prog.info? 57 with
    | none => simp [hq] at h
    | some i =>
      simp only [hq, Option.map_some, Option.some.injEq, Prod.mk.injEq] at h
      cases hz : i.zero with
      | none => simp [hz] at h
      | some z => exact ⟨i, z, rfl, hz, by simpa [hz] using h.1, h.2.1, h.2.2⟩
  pos := by decide
theorem i16w (n : Int) : IntKind.i16.wrap n = (n + 32768) % 65536 - 32768 := by
  simp [IntKind.wrap, IntKind.bits, IntKind.signed]
  omega
theorem b_add16 (a b : BitVec 16) : IntKind.i16.wrap (a.toInt + b.toInt) = (a + b).toInt := by
  rw [i16w, BitVec.toInt_add, Int.bmod_def]
  have h1 := a.toInt_lt
  have h2 := a.le_toInt
  have h3 := b.toInt_lt
  have h4 := b.le_toInt
  simp only [Nat.reducePow, Nat.reduceSub, Int.reducePow] at *
  omega
set_option maxHeartbeats 2000000 in
theorem kOver (g o : Nat) (cs : Array Value) (t : TypeId) (a c : Ce) (u : World) (hg : u.heap[g]? = some (.cells cs t (0, 0))) (h0 : cs[o]? = some (.int .i16 a.c.toInt)) (h1 : cs[o + 1]? = some (.int .u64 a.x.toNat)) (h2 : cs[o + 2]? = some (.int .u32 a.k.toNat)) :
    Calls Try.prog 26 #[.pointer (some ⟨g, o, none⟩), .agg (ceL c).toArray] u fun e u' => e = .returned (.tuple #[]) ∧ Alt u u' g ∧
      u'.heap[g]? = some (.cells (((cs.setIfInBounds o (.int .i16 (a.add c).c.toInt)).setIfInBounds (o + 1) (.int .u64 (a.add c).x.toNat)).setIfInBounds (o + 2) (.int .u32 (a.add c).k.toNat)) t (0, 0)) := by
  have hlt := (Array.getElem?_eq_some_iff.1 hg).1
  obtain ⟨R, hR⟩ : ∃ R, R = ((cs.setIfInBounds o (.int .i16 (a.add c).c.toInt)).setIfInBounds (o + 1) (.int .u64 (a.add c).x.toNat)).setIfInBounds (o + 2) (.int .u32 (a.add c).k.toNat) := ⟨_, rfl⟩
  rw [← hR]
  have HR := hide hR
  clear hR
  go_enter Try.func26, Try.ntmps26
  go_wp2
  obtain ⟨N, hN⟩ : ∃ N, N = u.heap.size := ⟨_, rfl⟩
  have HX := hide (heap_alloc_new u (.cells (ceL c).toArray 57))
  have HG := hide (heapOld (.cells (ceL c).toArray 57) hg)
  have HA := hide (Alt.of g ((Below.refl u.heap.size u).alloc (Nat.le_refl _) (.cells (ceL c).toArray 57)))
  rw [← hN] at HX hlt ⊢
  generalize u.alloc (.cells (ceL c).toArray 57) = U at *
  have HH0 := hide h0
  have HH1 := hide h1
  have HH2 := hide h2
  have HLT := hide hlt
  clear hg hlt hN h0 h1 h2
  have n0 := S.arr_cell (unhide HX) (show (ceL c).toArray[0]? = some (.int .i16 c.c.toInt) from rfl)
  have n1 := S.arr_cell (unhide HX) (show (ceL c).toArray[1]? = some (.int .u64 c.x.toNat) from rfl)
  have n2 := S.arr_cell (unhide HX) (show (ceL c).toArray[2]? = some (.int .u32 c.k.toNat) from rfl)
  have g0 := S.arr_cell (unhide HG) (unhide HH0)
  have f0 := frz0 (unhide HG) o
  rw [show (a.add c).c = a.c + c.c from rfl, show (a.add c).x = a.x ^^^ c.x from rfl, show (a.add c).k = a.k ^^^ c.k from rfl] at HR
  go_region
  rw [b_add16]
  obtain ⟨v0, hv0⟩ : ∃ v0 : Value, v0 = .int .i16 (a.c + c.c).toInt := ⟨_, rfl⟩
  rw [← hv0] at HR ⊢
  have HX1 := hide ((hcOther (i := N) (g := g) (v := v0) (k := o) (by have := unhide HLT; omega)).trans (unhide HX))
  have HG1 := hide (hcSame (unhide HG) o v0)
  have HA1 := hide ((unhide HA).cell o v0).drew
  generalize hU1 : (U.setCell ⟨g, o, none⟩ v0).drew = U1
  have e1 : U1.heap = (U.setCell ⟨g, o, none⟩ v0).heap := by rw [← hU1]; rfl
  rw [← e1] at HX1 HG1
  rw [hU1] at HA1
  clear hU1 e1 n0 n1 n2 g0 f0 HX HG HA HH0
  have n1 := S.arr_cell (unhide HX1) (show (ceL c).toArray[1]? = some (.int .u64 c.x.toNat) from rfl)
  have g1 := S.arr_cell (unhide HG1) (show (cs.setIfInBounds o v0)[o + 1]? = some (.int .u64 a.x.toNat) by rw [Array.getElem?_setIfInBounds_ne (by omega)]; exact unhide HH1)
  have f1 := frz0 (unhide HG1) (o + 1)
  go_wp2
  go_region
  rw [b_xor]
  obtain ⟨v1, hv1⟩ : ∃ v1 : Value, v1 = .int .u64 (a.x ^^^ c.x).toNat := ⟨_, rfl⟩
  rw [← hv1] at HR ⊢
  have HX2 := hide ((hcOther (i := N) (g := g) (v := v1) (k := o + 1) (by have := unhide HLT; omega)).trans (unhide HX1))
  have HG2 := hide (hcSame (unhide HG1) (o + 1) v1)
  have HA2 := hide ((unhide HA1).cell (o + 1) v1).drew
  generalize hU2 : (U1.setCell ⟨g, o + 1, none⟩ v1).drew = U2
  have e2 : U2.heap = (U1.setCell ⟨g, o + 1, none⟩ v1).heap := by rw [← hU2]; rfl
  rw [← e2] at HX2 HG2
  rw [hU2] at HA2
  clear hU2 e2 n1 g1 f1 HX1 HG1 HA1
  have n2 := S.arr_cell (unhide HX2) (show (ceL c).toArray[2]? = some (.int .u32 c.k.toNat) from rfl)
  have g2 := S.arr_cell (unhide HG2) (show ((cs.setIfInBounds o v0).setIfInBounds (o + 1) v1)[o + 2]? = some (.int .u32 a.k.toNat) by rw [Array.getElem?_setIfInBounds_ne (by omega), Array.getElem?_setIfInBounds_ne (by omega)]; exact unhide HH2)
  have f2 := frz0 (unhide HG2) (o + 2)
  go_wp2
  go_region
  rw [b_xor32]
  go_returns
  refine ⟨rfl, ((unhide HA2).cell (o + 2) _).drew, ?_⟩
  rw [unhide HR]
  exact hcSame (unhide HG2) (o + 2) _
end Go.Proofs.Ytdmdenbpokmelaa.K
