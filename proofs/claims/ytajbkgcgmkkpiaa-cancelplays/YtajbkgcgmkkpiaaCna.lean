/- Tokens (stage 18): the locks' numbers; rows of records; small laws. -/
import Derived.Test.YtajbkgcgmkkpiaaSga
import Derived.Conc.MuLone
import Derived.Conc.MuData
import Derived.KernelRfl
namespace Go.Proofs.Ytajbkgcgmkkpiaa.C
open Go.RowKit Go.Lib
abbrev muLink : Go.Conc.Locks.MuLink := { lock := 50, unlock := 51, ilock := 62, iunlock := 63, lockSlow := 75, unlockSlow := 78, disable := 71, enable := 73, acquire := 74, relMerge := 76, cas32 := 72, add32 := 77, tMutex := 87, tIMutex := 85, tPMutex := 80, tPIMutex := 124, tPI32 := 126, tUP := 128, tNoCopy := 82, tU32 := 83 }
theorem muLib : Go.Conc.Locks.MuLib Try.prog muLink :=
  ⟨Try.func50, Try.func51, Try.func62, Try.func63, Try.func71, Try.func73, Try.func74, Try.func76, Try.func72, Try.func77, Try.underlying85, Try.runUnderlying85, Try.sizeOf85, Try.isAgg85, Try.zeroValue85, Try.underlying87, Try.runUnderlying87, Try.sizeOf87, Try.isAgg87, Try.zeroValue87, Try.underlying80, Try.runUnderlying80, Try.sizeOf80, Try.isAgg80, Try.zeroValue80, Try.underlying124, Try.runUnderlying124, Try.sizeOf124, Try.isAgg124, Try.zeroValue124, Try.underlying126, Try.runUnderlying126, Try.sizeOf126, Try.isAgg126, Try.zeroValue126, Try.underlying128, Try.runUnderlying128, Try.sizeOf128, Try.isAgg128, Try.zeroValue128, Try.underlying82, Try.runUnderlying82, Try.sizeOf82, Try.isAgg82, Try.zeroValue82, Try.underlying21, Try.runUnderlying21, Try.sizeOf21, Try.isAgg21, Try.zeroValue21, (by kernel_rfl)⟩
theorem hcSame {w : World} {g : Nat} {cs : Array Value} {t : TypeId} {fr : Nat × Nat} (h : w.heap[g]? = some (.cells cs t fr)) (k : Nat) (v : Value) : (w.setCell ⟨g, k, none⟩ v).heap[g]? = some (.cells (cs.setIfInBounds k v) t fr) := by
  simp [World.setCell, Array.getElem?_modify, h]
theorem hcOther {w : World} {g k i : Nat} {v : Value} (h : i ≠ g) : (w.setCell ⟨g, k, none⟩ v).heap[i]? = w.heap[i]? := by
  simp [World.setCell, Array.getElem?_modify, Ne.symm h]
theorem frz0 {w : World} {g : Nat} {cs : Array Value} {t : TypeId} (h : w.heap[g]? = some (.cells cs t (0, 0))) (j : Nat) : w.frozen? ⟨g, j, none⟩ = false := by simp [World.frozen?, h]
theorem heapOld {w : World} (o : Obj) {k : Nat} {x : Obj} (h : w.heap[k]? = some x) : (w.alloc o).heap[k]? = some x := (Below.heap_alloc w o k (Array.getElem?_eq_some_iff.1 h).1).trans h
/-- what is laid and taken back lies as it lay -/
theorem setCell_back {w : World} {g k : Nat} {cs : Array Value} {t : TypeId} {fr : Nat × Nat} (h : w.heap[g]? = some (.cells cs t fr)) (v u : Value) (hu : cs[k]? = some u) : (w.setCell ⟨g, k, none⟩ v).setCell ⟨g, k, none⟩ u = w := by
  have e : ((w.setCell ⟨g, k, none⟩ v).setCell ⟨g, k, none⟩ u).heap = w.heap := by
    refine Array.ext_getElem? fun i => ?_
    by_cases hi : i = g
    · subst hi
      rw [hcSame (hcSame h k v) k u, h]
      have e2 : (cs.setIfInBounds k v).setIfInBounds k u = cs := by
        refine Array.ext_getElem? fun j => ?_
        by_cases hj : k = j
        · subst hj
          have hl := (Array.getElem?_eq_some_iff.1 hu).1
          rw [Array.getElem?_setIfInBounds_self_of_lt (by simpa using hl), hu]
        · rw [Array.getElem?_setIfInBounds_ne hj, Array.getElem?_setIfInBounds_ne hj]
      rw [e2]
    · rw [hcOther hi, hcOther hi]
  have e3 : (w.setCell ⟨g, k, none⟩ v).setCell ⟨g, k, none⟩ u = { w with heap := ((w.setCell ⟨g, k, none⟩ v).setCell ⟨g, k, none⟩ u).heap } := rfl
  rw [e3, e]
end Go.Proofs.Ytajbkgcgmkkpiaa.C
