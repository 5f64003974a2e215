/- Blocks of memory, one of them changed. Of no program. -/
import Derived.Test.YtajbkgcgmkkpiaaRows
import Derived.WalkKit
import Derived.WalkLawsBesides
import Derived.ProofKit
import Derived.OpenShut
import Derived.Handy
import Derived.Below
import Derived.Laws.Rows
import Derived.Laws.BitsAllLaws
import Derived.Deep.QuietTactic
import Derived.Deep.RegionHeld3
import Derived.Deep.RegionWith
import Derived.Deep.MidRow
import Derived.Deep.OwnRows
import Derived.Deep.Heap
import Derived.Lib.ConvBytes
namespace Go.Proofs.Ytajbkgcgmkkpiaa
open Go.RowKit

theorem hide {p : Prop} (h : p) : Hid p := h
theorem unhide {p : Prop} (h : Hid p) : p := h
theorem heapCell_same {w : World} {g : Nat} {cs : Array Value} {t : TypeId} {fr : Nat × Nat} (h : w.heap[g]? = some (.cells cs t fr)) (k : Nat) (v : Value) : (w.setCell ⟨g, k, none⟩ v).heap[g]? = some (.cells (cs.setIfInBounds k v) t fr) := by
  simp [World.setCell, Array.getElem?_modify, h]
theorem belowCell {B : Nat} {a w : World} (h : Below B a w) {p : Addr} (hg : B ≤ p.block) (v : Value) : Below B a (w.setCell p v) :=
  ⟨h.os, h.tape, h.output, by simpa [World.setCell] using h.size, fun k hk => (Deep.blk_setCell_other w p v k (by omega)).trans (h.block k hk)⟩
theorem belowDrewN {B : Nat} {a w : World} (h : Below B a w) (n : Nat) : Below B a (w.drewN n) := ⟨h.os, h.tape, h.output, h.size, h.block⟩
/-- what is done to the block g, and to new ones, alone -/
structure U1 (w w' : World) (g : Nat) : Prop where
  os : w'.os = w.os
  tape : w'.tape = w.tape
  output : w'.output = w.output
  size : w.heap.size ≤ w'.heap.size
  block : ∀ k, k < w.heap.size → k ≠ g → w'.heap[k]? = w.heap[k]?
theorem U1.refl (w : World) (g : Nat) : U1 w w g := ⟨rfl, rfl, rfl, Nat.le_refl _, fun _ _ _ => rfl⟩
theorem U1.set {w w' : World} {g : Nat} (h : U1 w w' g) (k : Nat) (v : Value) : U1 w (w'.setCell ⟨g, k, none⟩ v) g :=
  ⟨h.os, h.tape, h.output, by simpa [World.setCell] using h.size, fun q hq hn => (Deep.blk_setCell_other w' ⟨g, k, none⟩ v q hn).trans (h.block q hq hn)⟩
theorem U1.trans {a b c : World} {g : Nat} (h : U1 a b g) (k : U1 b c g) : U1 a c g :=
  ⟨k.os.trans h.os, k.tape.trans h.tape, k.output.trans h.output, Nat.le_trans h.size k.size, fun q hq hn => (k.block q (Nat.lt_of_lt_of_le hq h.size) hn).trans (h.block q hq hn)⟩
theorem U1.below' {a b : World} {g : Nat} (h : Below a.heap.size a b) : U1 a b g := ⟨h.os, h.tape, h.output, h.size, fun q hq _ => h.block q hq⟩
theorem U1.toBelow {w w' : World} {g B : Nat} (h : U1 w w' g) (hB : B ≤ w.heap.size) (hg : B ≤ g) : Below B w w' := ⟨h.os, h.tape, h.output, h.size, fun k hk => h.block k (by omega) (by omega)⟩
theorem U1.drewN {a b : World} {g : Nat} (h : U1 a b g) (n : Nat) : U1 a (b.drewN n) g := ⟨h.os, h.tape, h.output, h.size, h.block⟩
theorem U1.drew {a b : World} {g : Nat} (h : U1 a b g) : U1 a b.drew g := ⟨h.os, h.tape, h.output, h.size, h.block⟩
/-- a new variable that holds a value -/
theorem wpList_box_row {P : Program} {ops : Array Oper} {rest : List Oper} {o : Oper} {a : Act} {w : World} {Q : Exit → Act → World → Prop} (hg : o.guard = none) (t : TypeId) (x : Operand) (ho : o.op = .box t x) (d : Option Tmp) (hd : o.dst = d)
    (N : Nat) (hN : w.heap.size = N) (cells : Array Value) (hx : (a.eval x).cells = cells)
    (h : ∀ w', Hid (w'.heap[N]? = some (.cells cells t (0, 0))) → Hid (Below N w w') → Hid (w'.heap.size = N + 1) → wpList P ops Q rest (a.put d (.pointer (some ⟨N, 0, none⟩))) w') : wpList P ops Q (o :: rest) a w := by
  subst hN
  subst hd hx
  refine wpList_plain hg fun K hK => ?_
  unfold Oper.wp execOp
  simp only [ho, Sem.run_bind, Instr.box, newVar, newRow, run_newObj_alloc, Sem.run_pure, Result.andThen_ok]
  exact hK _ _ (h _ (heap_alloc_new _ _) ((Below.refl _ _).alloc (Nat.le_refl _) _) (hide (by simp)))
end Go.Proofs.Ytajbkgcgmkkpiaa
