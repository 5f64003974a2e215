/- The tables. -/
import Derived.Test.YtpbifpbblinopaaShT
import Derived.Deep.RegionHeld3
import Derived.Deep.MidRow
import Derived.Deep.Heap
import Derived.Laws.Rows
import Derived.Laws.Tables
namespace Go.Proofs.Ytpbifpbblinopaa
open Go.RowKit

theorem infoW : (Try.prog.info? 62).map (·.size) = some 64 := by kernel_rfl
theorem info8 : (Try.prog.info? 23).map (·.size) = some 8 := by kernel_rfl
theorem infoB : (Try.prog.info? 65).map (·.size) = some 64 := by kernel_rfl
theorem infoS : (Try.prog.info? 38).map (·.size) = some 32 := by kernel_rfl
/-- so many words -/
structure Is32 (cs : Array Value) (n : Nat) (f : Nat → Nat) : Prop where
  size : cs.size = n
  at' : ∀ i, i < n → cs[i]? = some (.int .u32 (f i : Nat))
theorem Is32.one {cs : Array Value} {n : Nat} {f : Nat → Nat} (h : Is32 cs n f) : cs.all (·.oneCell') = true := by
  rw [Array.all_eq_true]
  intro i hi
  have := h.at' i (by have := h.size; omega)
  rw [Array.getElem?_eq_getElem hi] at this
  rw [Option.some.inj this]; rfl
def KV : Array Value := (Sha.K.map fun k => .int .u32 (k : Nat)).toArray
def Z64 : Array Value := (List.replicate 64 (.int .u32 0)).toArray
theorem KV_is : Is32 KV 64 (fun i => Sha.K.getD i 0) := by
  refine ⟨rfl, fun i hi => ?_⟩
  have hl : i < Sha.K.length := hi
  simp [KV, hl]
theorem K_lt (i : Nat) : Sha.K.getD i 0 < 4294967296 := by
  have h : ∀ i : Fin 64, Sha.K.getD i.1 0 < 4294967296 := by decide +kernel
  by_cases hi : i < 64
  · exact h ⟨i, hi⟩
  · rw [List.getD, List.getElem?_eq_none (by show 64 ≤ i; omega)]; decide
theorem heapCell_same {w : World} {g : Nat} {cs : Array Value} {t : TypeId} {fr : Nat × Nat} (h : w.heap[g]? = some (.cells cs t fr)) (k : Nat) (v : Value) : (w.setCell ⟨g, k, none⟩ v).heap[g]? = some (.cells (cs.setIfInBounds k v) t fr) := by
  simp [World.setCell, Array.getElem?_modify, h]
theorem heapRow_same {w : World} {g : Nat} {cs : Array Value} {t : TypeId} {fr : Nat × Nat} (h : w.heap[g]? = some (.cells cs t fr)) (cs' : Array Value) : (w.setRow g cs').heap[g]? = some (.cells cs' t fr) := by
  simp [World.setRow, Array.getElem?_modify, h]
theorem heapRow_other (w : World) (g k : Nat) (cs' : Array Value) (h : k ≠ g) : (w.setRow g cs').heap[k]? = w.heap[k]? := by
  simp only [World.setRow, Array.getElem?_modify]
  rw [if_neg (by omega)]
theorem belowRow {B : Nat} {a w : World} (h : Below B a w) {g : Nat} (hg : B ≤ g) (cs' : Array Value) : Below B a (w.setRow g cs') :=
  ⟨h.os, h.tape, h.output, by simpa [World.setRow] using h.size, fun k hk => (heapRow_other w g k cs' (by omega)).trans (h.block k hk)⟩
theorem belowCell {B : Nat} {a w : World} (h : Below B a w) {p : Addr} (hg : B ≤ p.block) (v : Value) : Below B a (w.setCell p v) :=
  ⟨h.os, h.tape, h.output, by simpa [World.setCell] using h.size, fun k hk => (Deep.blk_setCell_other w p v k (by omega)).trans (h.block k hk)⟩
theorem belowDrewN {B : Nat} {a w : World} (h : Below B a w) (n : Nat) : Below B a (w.drewN n) := ⟨h.os, h.tape, h.output, h.size, h.block⟩
set_option maxRecDepth 100000 in
set_option maxHeartbeats 800000 in
theorem dCubes (w : World) : Calls Try.prog 40 #[] w fun e w' => e = .returned (.agg KV) ∧ Below w.heap.size w w' := by
  have hu := Try.underlying62
  go_enter Try.func40, Try.ntmps40
  go_wp2_with (first | (refine wpList_build rfl 62 _ rfl (by kernel_rfl) ?_) | (refine wpList_store_row rfl 62 (.tmp 0) (.tmp 1) rfl w.heap.size KV rfl (by kernel_rfl) 62 Z64 (by first | exact heap_alloc_new _ _ | kernel_rfl) infoW rfl KV_is.one ?_))
  refine bodyPost_ret (results_cell_row rfl _ _ w.heap.size 62 KV (0, 0) _ rfl (heapRow_same (heap_alloc_new _ _) KV) hu rfl infoW) rfl ?_
  exact ⟨rfl, belowRow ((Below.refl _ _).alloc (Nat.le_refl _) _) (Nat.le_refl _) _⟩
set_option maxRecDepth 100000 in
set_option maxHeartbeats 800000 in
theorem mCubes (w : World) : Calls Try.prog 48 #[] w fun e w' => e = .returned (.agg KV) ∧ Below w.heap.size w w' := by
  have hu := Try.underlying62
  go_enter Try.func48, Try.ntmps48
  go_wp2_with (first | (refine wpList_build rfl 62 _ rfl (by kernel_rfl) ?_) | (refine wpList_store_row rfl 62 (.tmp 0) (.tmp 1) rfl w.heap.size KV rfl (by kernel_rfl) 62 Z64 (by first | exact heap_alloc_new _ _ | kernel_rfl) infoW rfl KV_is.one ?_))
  refine bodyPost_ret (results_cell_row rfl _ _ w.heap.size 62 KV (0, 0) _ rfl (heapRow_same (heap_alloc_new _ _) KV) hu rfl infoW) rfl ?_
  exact ⟨rfl, belowRow ((Below.refl _ _).alloc (Nat.le_refl _) _) (Nat.le_refl _) _⟩
end Go.Proofs.Ytpbifpbblinopaa
