/- What a block makes of a state: the program's. -/
import Derived.Test.YtpbifpbblinopaaShS
import Derived.Test.YtpbifpbblinopaaShR
namespace Go.Proofs.Ytpbifpbblinopaa
open Go.RowKit

/-- a word of a state -/
def fld (s : Sha.St) : Nat → Nat
  | 0 => s.a
  | 1 => s.b
  | 2 => s.c
  | 3 => s.d
  | 4 => s.e
  | 5 => s.f
  | 6 => s.g
  | _ => s.h
theorem St8_at (s : Sha.St) (j : Nat) (hj : j < 8) : (St8 s)[j]? = some (.int .u32 (fld s j : Nat)) := by
  match j, hj with
  | 0, _ => rfl
  | 1, _ => rfl
  | 2, _ => rfl
  | 3, _ => rfl
  | 4, _ => rfl
  | 5, _ => rfl
  | 6, _ => rfl
  | 7, _ => rfl
theorem St8_is (s : Sha.St) : Is32 (St8 s) 8 (fld s) := ⟨rfl, St8_at s⟩
theorem Is32.eq8 {cs : Array Value} {s : Sha.St} (h : Is32 cs 8 (fld s)) : cs = St8 s := by
  apply Array.ext_getElem?
  intro i
  by_cases hi : i < 8
  · rw [h.at' i hi, St8_at s i hi]
  · rw [Array.getElem?_eq_none (by rw [h.size]; omega), Array.getElem?_eq_none (by rw [(St8_is s).size]; omega)]
theorem fld_add (s t : Sha.St) (j : Nat) (hj : j < 8) : fld (Sha.add s t) j = (fld s j + fld t j) % 4294967296 := by
  match j, hj with
  | 0, _ => rfl
  | 1, _ => rfl
  | 2, _ => rfl
  | 3, _ => rfl
  | 4, _ => rfl
  | 5, _ => rfl
  | 6, _ => rfl
  | 7, _ => rfl
theorem fld_lt {s : Sha.St} (h : Ok s) (j : Nat) : fld s j < 4294967296 := by
  match j with
  | 0 => exact h.a
  | 1 => exact h.b
  | 2 => exact h.c
  | 3 => exact h.d
  | 4 => exact h.e
  | 5 => exact h.f
  | 6 => exact h.g
  | 7 => exact h.h
  | _ + 8 => exact h.h
theorem run_index_u32 (cs : Array Value) (k x : Nat) (w : World) (hk : k < 8) (hc : cs[k]? = some (.int .u32 x)) : (Instr.index 23 (.agg cs) (.int .i64 k)).run Try.prog w = .ok (.int .u32 x) w := by
  have hu := Try.underlying23
  have hi : (Try.prog.info? 22).map (fun i => (i.zero, i.size, i.bytes)) = some (some (.int .u32 0), 1, 4) := by kernel_rfl
  obtain ⟨i0, hi, hz0, hz1, hz2⟩ := info_parts hi
  have hlt := (Array.getElem?_eq_some_iff.1 hc).1
  simp [Instr.index, go_sem, run_underlying hu, sizeOf, typeInfo, hi, hz1]
  rw [if_pos hk, hc]
  rfl
/-- a row of eight words that is being summed up -/
structure R8 (f : Nat → Nat) (w wr : World) (r : Nat) (ts : Array Value) : Prop where
  is : Is32 ts 8 f
  row : wr.heap[r]? = some (.cells ts 23 (0, 0))
  lt : w.heap.size ≤ r
  bel : Below w.heap.size w wr
theorem R8.cell {f : Nat → Nat} {w wr : World} {r : Nat} {ts : Array Value} (h : R8 f w wr r ts) {j : Nat} (hj : j < 8) : wr.cell? ⟨r, j, none⟩ = some (.int .u32 (f j : Nat)) := by
  simp [World.cell?, h.row, h.is.at' j hj]
theorem R8.frozen {f : Nat → Nat} {w wr : World} {r : Nat} {ts : Array Value} (h : R8 f w wr r ts) (j : Nat) : wr.frozen? ⟨r, j, none⟩ = false := by
  simp [World.frozen?, h.row]
theorem R8.upd {f f' : Nat → Nat} {w wr : World} {r k : Nat} {ts : Array Value} (h : R8 f w wr r ts) (v : Value) (n : Nat) (hv : v = .int .u32 (f' k : Nat)) (hk : k < 8) (hf : ∀ j, j ≠ k → f' j = f j) :
    R8 f' w ((wr.setCell ⟨r, k, none⟩ v).drewN n) r (ts.setIfInBounds k v) := by
  subst hv
  refine ⟨⟨by simpa using h.is.size, ?_⟩, heapCell_same h.row _ _, h.lt, belowDrewN (belowCell h.bel h.lt _) _⟩
  intro j hj
  rw [Array.getElem?_setIfInBounds]
  by_cases hjk : k = j
  · subst hjk; rw [if_pos rfl, if_pos (by rw [h.is.size]; exact hk)]
  · rw [if_neg hjk, hf j (fun e => hjk e.symm)]; exact h.is.at' j hj
theorem R8.upd0 {f f' : Nat → Nat} {w wr : World} {r k : Nat} {ts : Array Value} (h : R8 f w wr r ts) (v : Value) (hv : v = .int .u32 (f' k : Nat)) (hk : k < 8) (hf : ∀ j, j ≠ k → f' j = f j) :
    R8 f' w (wr.setCell ⟨r, k, none⟩ v) r (ts.setIfInBounds k v) := h.upd v 0 hv hk hf
/-- the sums of the first k words -/
def su (s t : Sha.St) (k j : Nat) : Nat := if j < k then (fld s j + fld t j) % 4294967296 else fld s j
theorem su_same (s t : Sha.St) (k : Nat) : su s t (k + 1) k = (fld s k + fld t k) % 4294967296 := by unfold su; rw [if_pos (by omega)]
theorem su_here (s t : Sha.St) (k : Nat) : su s t k k = fld s k := by unfold su; rw [if_neg (by omega)]
theorem su_other (s t : Sha.St) (k j : Nat) (h : j ≠ k) : su s t (k + 1) j = su s t k j := by
  unfold su
  by_cases hj : j < k
  · rw [if_pos hj, if_pos (by omega)]
  · rw [if_neg hj, if_neg (by omega)]
/-- what lies in memory while a block is mixed in -/
structure Mx (b : Nat → Nat) (s : Sha.St) (w wr : World) (m tb : Nat) (z8 : Array Value) : Prop where
  st : wr.heap[w.heap.size]? = some (.cells (St8 s) 23 (0, 0))
  z : z8.size = 8
  res : wr.heap[w.heap.size + 1 + 1]? = some (.cells z8 23 (0, 0))
  wo : ∀ i, i < 64 → wr.cell? ⟨m, i, none⟩ = some (.int .u32 (Sha.wd b i : Nat))
  tab : ∀ i, i < 64 → wr.cell? ⟨tb, i, none⟩ = some (.int .u32 (Sha.K.getD i 0 : Nat))
  bel : Below w.heap.size w wr
theorem Mx.drewN {b : Nat → Nat} {s : Sha.St} {w wr : World} {m tb : Nat} {z8 : Array Value} (h : Mx b s w wr m tb z8) (n : Nat) : Mx b s w (wr.drewN n) m tb z8 := ⟨h.st, h.z, h.res, h.wo, h.tab, belowDrewN h.bel _⟩
theorem Mx.cell {b : Nat → Nat} {s : Sha.St} {w wr : World} {m tb : Nat} {z8 : Array Value} (h : Mx b s w wr m tb z8) (j : Nat) (hj : j < 8) : wr.cell? ⟨w.heap.size, j, none⟩ = some (.int .u32 (fld s j : Nat)) := by
  simp [World.cell?, h.st, St8_at s j hj]
theorem Mx.make (b : Nat → Nat) (s : Sha.St) (w w1 : World) (tb : Nat) (z8 ws A : Array Value) (O : Obj) (hz : z8.size = 8) (hws : Is32 ws 64 (Sha.wd b)) (htb : tb < w.heap.size) (ht : ∀ i, i < 64 → w.cell? ⟨tb, i, none⟩ = some (.int .u32 (Sha.K.getD i 0 : Nat)))
    (hb : Below (((w.alloc (.cells (St8 s) 23)).alloc O).alloc (.cells z8 23)).heap.size (((w.alloc (.cells (St8 s) 23)).alloc O).alloc (.cells z8 23)) w1) :
    Mx b s w ((w1.alloc (.cells A 62)).setRow w1.heap.size ws) w1.heap.size tb z8 := by
  have hs : w.heap.size + 3 ≤ w1.heap.size := by have := hb.size; simp at this; omega
  have h0 : ∀ k, k < w.heap.size + 3 → ((w1.alloc (.cells A 62)).setRow w1.heap.size ws).heap[k]? = (((w.alloc (.cells (St8 s) 23)).alloc O).alloc (.cells z8 23)).heap[k]? := by
    intro k hk
    rw [heapRow_other _ _ _ _ (by omega), Deep.blk_alloc_lt _ _ _ (by omega)]
    exact hb.block k (by simp; omega)
  have hbel0 : Below w.heap.size w (((w.alloc (.cells (St8 s) 23)).alloc O).alloc (.cells z8 23)) := (((Below.refl _ _).alloc (Nat.le_refl _) _).alloc (by simp) _).alloc (by simp; omega) _
  have hbel : Below w.heap.size w ((w1.alloc (.cells A 62)).setRow w1.heap.size ws) := belowRow ((hbel0.trans (hb.mono (by simp; omega))).alloc (by omega) _) (by omega) _
  refine ⟨?_, hz, ?_, ?_, ?_, hbel⟩
  · rw [h0 _ (by omega), Deep.blk_alloc_lt _ _ _ (by simp; omega), Deep.blk_alloc_lt _ _ _ (by simp)]
    exact heap_alloc_new _ _
  · rw [h0 _ (by omega)]
    have := heap_alloc_new ((w.alloc (.cells (St8 s) 23)).alloc O) (.cells z8 23)
    simpa using this
  · intro i hi
    have := heapRow_same (heap_alloc_new w1 (.cells A 62)) ws
    simp only [World.cell?, this]
    exact hws.at' i hi
  · intro i hi
    exact (hbel.cell (p := ⟨tb, i, none⟩) htb).trans (ht i hi)
end Go.Proofs.Ytpbifpbblinopaa
