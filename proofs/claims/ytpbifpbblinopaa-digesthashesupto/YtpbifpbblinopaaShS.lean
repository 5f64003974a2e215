/- The state's cells; its start. -/
import Derived.Test.YtpbifpbblinopaaShK
namespace Go.Proofs.Ytpbifpbblinopaa
open Go.RowKit

/-- a state as cells -/
def St8 (s : Sha.St) : Array Value := #[.int .u32 (s.a : Nat), .int .u32 (s.b : Nat), .int .u32 (s.c : Nat), .int .u32 (s.d : Nat), .int .u32 (s.e : Nat), .int .u32 (s.f : Nat), .int .u32 (s.g : Nat), .int .u32 (s.h : Nat)]
theorem St8_one (s : Sha.St) : (St8 s).all (·.oneCell') = true := by simp [St8, Value.oneCell']
theorem St8_start : St8 Sha.start = #[.int .u32 1779033703, .int .u32 3144134277, .int .u32 1013904242, .int .u32 2773480762, .int .u32 1359893119, .int .u32 2600822924, .int .u32 528734635, .int .u32 1541459225] := by kernel_rfl
theorem dStart (w : World) : Calls Try.prog 16 #[] w fun e w' => e = .returned (.agg (St8 Sha.start)) ∧ Below w.heap.size w w' := by
  rw [St8_start]
  have hu := Try.underlying23
  go_enter Try.func16, Try.ntmps16
  go_wp2
  refine bodyPost_ret (results_cell_row rfl _ _ w.heap.size 23 _ (0, 0) _ rfl (heap_alloc_new _ _) hu rfl info8) rfl ?_
  exact ⟨rfl, ((Below.refl _ _).alloc (Nat.le_refl _) _)⟩
theorem mStart (w : World) : Calls Try.prog 17 #[] w fun e w' => e = .returned (.agg (St8 Sha.start)) ∧ Below w.heap.size w w' := by
  rw [St8_start]
  have hu := Try.underlying23
  go_enter Try.func17, Try.ntmps17
  go_wp2
  refine bodyPost_ret (results_cell_row rfl _ _ w.heap.size 23 _ (0, 0) _ rfl (heap_alloc_new _ _) hu rfl info8) rfl ?_
  exact ⟨rfl, ((Below.refl _ _).alloc (Nat.le_refl _) _)⟩
/-- words that lie in a row, the first k of them known -/
structure Rw (f : Nat → Nat) (w wr : World) (r : Nat) (k : Nat) (ts : Array Value) : Prop where
  size : ts.size = 64
  at' : ∀ j, j < k → ts[j]? = some (.int .u32 (f j : Nat))
  row : wr.heap[r]? = some (.cells ts 62 (0, 0))
  lt : w.heap.size ≤ r
  bel : Below w.heap.size w wr
theorem Rw.next {f : Nat → Nat} {w wr : World} {r k : Nat} {ts : Array Value} (h : Rw f w wr r k ts) (v : Value) (hv : v = .int .u32 (f k : Nat)) (hk : k < 64) (n : Nat) :
    Rw f w ((wr.setCell ⟨r, k, none⟩ v).drewN n) r (k + 1) (ts.setIfInBounds k v) := by
  subst hv
  refine ⟨by simpa using h.size, ?_, heapCell_same h.row _ _, h.lt, belowDrewN (belowCell h.bel h.lt _) _⟩
  intro j hj
  rw [Array.getElem?_setIfInBounds]
  by_cases hjk : k = j
  · subst hjk; rw [if_pos rfl, if_pos (by rw [h.size]; exact hk)]
  · rw [if_neg hjk]; exact h.at' j (by omega)
theorem Rw.start2 (f : Nat → Nat) (w : World) (A B : Array Value) (hA : A.size = 64) (hB : B.size = 64) :
    Rw f w ((w.alloc (.cells A 62)).alloc (.cells B 62)) (w.heap.size + 1) 0 B ∧ ∃ zs : Array Value, zs.size = 64 ∧ ((w.alloc (.cells A 62)).alloc (.cells B 62)).heap[w.heap.size]? = some (.cells zs 62 (0, 0)) := by
  refine ⟨⟨hB, fun j hj => absurd hj (Nat.not_lt_zero _), ?_, by omega, ((Below.refl _ _).alloc (Nat.le_refl _) _).alloc (by simp) _⟩, A, hA, ?_⟩
  · have := heap_alloc_new (w.alloc (.cells A 62)) (.cells B 62)
    simpa using this
  · rw [Deep.blk_alloc_lt _ _ _ (by simp)]
    exact heap_alloc_new _ _
theorem Rw.cell {f : Nat → Nat} {w wr : World} {r k : Nat} {ts : Array Value} (h : Rw f w wr r k ts) {j : Nat} (hj : j < k) : wr.cell? ⟨r, j, none⟩ = some (.int .u32 (f j : Nat)) := by
  simp [World.cell?, h.row, h.at' j hj]
theorem Rw.cell' {f : Nat → Nat} {w wr : World} {r k : Nat} {ts : Array Value} (h : Rw f w wr r k ts) {j : Nat} (hj : j < 64) : ∃ v, wr.cell? ⟨r, j, none⟩ = some v := by
  have : j < ts.size := by rw [h.size]; exact hj
  exact ⟨ts[j], by simp [World.cell?, h.row, this]⟩
theorem Rw.frozen {f : Nat → Nat} {w wr : World} {r k : Nat} {ts : Array Value} (h : Rw f w wr r k ts) (j : Nat) : wr.frozen? ⟨r, j, none⟩ = false := by
  simp [World.frozen?, h.row]
theorem Rw.is {f : Nat → Nat} {w wr : World} {r : Nat} {ts : Array Value} (h : Rw f w wr r 64 ts) : Is32 ts 64 f := ⟨h.size, h.at'⟩
theorem Sha.s0_lt {x : Nat} (hx : x < 4294967296) : Sha.s0 x < 4294967296 := by rw [← lo_s0]; exact lo_lt _ _ _ _ hx
theorem Sha.s1_lt {x : Nat} (hx : x < 4294967296) : Sha.s1 x < 4294967296 := by rw [← lo_s1]; exact lo_lt _ _ _ _ hx
theorem Sha.Wl_get (b : Nat → Nat) (n j : Nat) (hj : j < n) : (Sha.Wl b n).getD j 0 = Sha.wd b (n - 1 - j) := by
  induction n generalizing j with
  | zero => omega
  | succ n ih =>
    rw [Sha.Wl]
    cases j with
    | zero => simp [Sha.wd]
    | succ j =>
      rw [List.getD_cons_succ, ih j (by omega)]
      congr 1; omega
theorem Sha.wd_first (b : Nat → Nat) (i : Nat) (hi : i < 16) : Sha.wd b i = Sha.be b i := by unfold Sha.wd Sha.nextW; rw [if_pos hi]
theorem Sha.wd_next (b : Nat → Nat) (i : Nat) (hi : 16 ≤ i) : Sha.wd b i = (Sha.wd b (i - 16) + Sha.s0 (Sha.wd b (i - 15)) + Sha.wd b (i - 7) + Sha.s1 (Sha.wd b (i - 2))) % 4294967296 := by
  rw [Sha.wd, Sha.nextW, if_neg (by omega), Sha.Wl_get b i 15 (by omega), Sha.Wl_get b i 14 (by omega), Sha.Wl_get b i 6 (by omega), Sha.Wl_get b i 1 (by omega)]
  rw [show i - 1 - 15 = i - 16 from by omega, show i - 1 - 14 = i - 15 from by omega, show i - 1 - 6 = i - 7 from by omega, show i - 1 - 1 = i - 2 from by omega]
theorem Sha.wd_lt (b : Nat → Nat) (hb : ∀ j, b j < 256) (i : Nat) : Sha.wd b i < 4294967296 := by
  by_cases hi : i < 16
  · rw [Sha.wd_first b i hi, Sha.be]
    have h0 := hb (4 * i); have h1 := hb (4 * i + 1); have h2 := hb (4 * i + 2); have h3 := hb (4 * i + 3)
    omega
  · rw [Sha.wd_next b i (by omega)]; exact Nat.mod_lt _ (by decide)
end Go.Proofs.Ytpbifpbblinopaa
