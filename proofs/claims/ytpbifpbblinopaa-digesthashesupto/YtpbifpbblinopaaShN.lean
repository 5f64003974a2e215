/- What a block makes of a state: the document's. -/
import Derived.Test.YtpbifpbblinopaaShW
import Derived.Test.YtpbifpbblinopaaShQ
import Derived.Deep.QuietTactic
import Derived.Deep.RegionWith
namespace Go.Proofs.Ytpbifpbblinopaa
open Go.RowKit

theorem heapSetO {w : World} {r k g : Nat} {v : Value} {o : Obj} (h : w.heap[g]? = some o) (hne : g ≠ r) : (w.setCell ⟨r, k, none⟩ v).heap[g]? = some o := by
  rw [Deep.blk_setCell_other _ _ _ _ hne]; exact h
/-- what lies in memory, the table at m1 -/
structure My0 (s : Sha.St) (w u : World) (m1 : Nat) (z8 : Array Value) : Prop where
  st : u.heap[w.heap.size]? = some (.cells (St8 s) 23 (0, 0))
  res : u.heap[w.heap.size + 1]? = some (.cells z8 23 (0, 0))
  tab : ∀ i, i < 64 → u.cell? ⟨m1, i, none⟩ = some (.int .u32 (Sha.K.getD i 0 : Nat))
  bel : Below w.heap.size w u
  lt : m1 < u.heap.size
  le : w.heap.size + 2 ≤ u.heap.size
theorem My0.below {s : Sha.St} {w u u' : World} {m1 : Nat} {z8 : Array Value} (h : My0 s w u m1 z8) (hb : Below u.heap.size u u') : My0 s w u' m1 z8 :=
  ⟨(hb.block _ (by have := h.le; omega)).trans h.st, (hb.block _ (by have := h.le; omega)).trans h.res, fun i hi => (hb.cell (p := ⟨m1, i, none⟩) h.lt).trans (h.tab i hi), h.bel.trans (hb.mono h.bel.size), Nat.lt_of_lt_of_le h.lt hb.size, Nat.le_trans h.le hb.size⟩
theorem below_row (u : World) (A cs : Array Value) (t : TypeId) : Below u.heap.size u ((u.alloc (.cells A t)).setRow u.heap.size cs) := belowRow ((Below.refl _ _).alloc (Nat.le_refl _) _) (Nat.le_refl _) _
theorem row_cell (u : World) (A cs : Array Value) (t : TypeId) (f : Nat → Nat) (n : Nat) (h : Is32 cs n f) (i : Nat) (hi : i < n) : ((u.alloc (.cells A t)).setRow u.heap.size cs).cell? ⟨u.heap.size, i, none⟩ = some (.int .u32 (f i : Nat)) := by
  have := heapRow_same (heap_alloc_new u (.cells A t)) cs
  simp only [World.cell?, this]
  exact h.at' i hi
theorem My0.make (s : Sha.St) (w w1 : World) (z8 A : Array Value) (hb : Below ((w.alloc (.cells (St8 s) 23)).alloc (.cells z8 23)).heap.size ((w.alloc (.cells (St8 s) 23)).alloc (.cells z8 23)) w1) :
    My0 s w ((w1.alloc (.cells A 62)).setRow w1.heap.size KV) w1.heap.size z8 := by
  have hs : w.heap.size + 2 ≤ w1.heap.size := by have := hb.size; simp at this; omega
  have hb2 := below_row w1 A KV 62
  have h0 : ∀ k, k < w.heap.size + 2 → ((w1.alloc (.cells A 62)).setRow w1.heap.size KV).heap[k]? = ((w.alloc (.cells (St8 s) 23)).alloc (.cells z8 23)).heap[k]? := fun k hk => (hb2.block k (by omega)).trans (hb.block k (by simp; omega))
  have hbel0 : Below w.heap.size w ((w.alloc (.cells (St8 s) 23)).alloc (.cells z8 23)) := ((Below.refl _ _).alloc (Nat.le_refl _) _).alloc (by simp) _
  refine ⟨?_, ?_, fun i hi => row_cell w1 A KV 62 _ 64 KV_is i hi, (hbel0.trans (hb.mono (by simp; omega))).trans (hb2.mono (by omega)), ?_, ?_⟩
  · rw [h0 _ (by omega), Deep.blk_alloc_lt _ _ _ (by simp)]
    exact heap_alloc_new _ _
  · rw [h0 _ (by omega)]
    have := heap_alloc_new (w.alloc (.cells (St8 s) 23)) (.cells z8 23)
    simpa using this
  · have := hb2.size; simp
  · have := hb2.size; omega
/-- .. and the words at m2, the state at m3 -/
structure My (b : Nat → Nat) (s t : Sha.St) (w u : World) (m1 m2 m3 : Nat) (z8 : Array Value) : Prop where
  my : My0 s w u m1 z8
  wo : ∀ i, i < 64 → u.cell? ⟨m2, i, none⟩ = some (.int .u32 (Sha.wd b i : Nat))
  cur : u.heap[m3]? = some (.cells (St8 t) 23 (0, 0))
  n1 : m1 ≠ m3
  n2 : m2 ≠ m3
  le : w.heap.size + 2 ≤ m3
theorem My.drewN {b : Nat → Nat} {s t : Sha.St} {w u : World} {m1 m2 m3 : Nat} {z8 : Array Value} (h : My b s t w u m1 m2 m3 z8) (n : Nat) : My b s t w (u.drewN n) m1 m2 m3 z8 :=
  ⟨⟨h.my.st, h.my.res, h.my.tab, belowDrewN h.my.bel _, h.my.lt, h.my.le⟩, h.wo, h.cur, h.n1, h.n2, h.le⟩
theorem My.cell {b : Nat → Nat} {s t : Sha.St} {w u : World} {m1 m2 m3 : Nat} {z8 : Array Value} (h : My b s t w u m1 m2 m3 z8) (j : Nat) (hj : j < 8) : u.cell? ⟨m3, j, none⟩ = some (.int .u32 (fld t j : Nat)) := by
  simp [World.cell?, h.cur, St8_at t j hj]
theorem My.row {b : Nat → Nat} {s t t' : Sha.St} {w u : World} {m1 m2 m3 : Nat} {z8 : Array Value} (h : My b s t w u m1 m2 m3 z8) : My b s t' w (u.setRow m3 (St8 t')) m1 m2 m3 z8 := by
  have hle := h.le
  have ho : ∀ k, k ≠ m3 → (u.setRow m3 (St8 t')).heap[k]? = u.heap[k]? := fun k hk => heapRow_other u m3 k _ hk
  refine ⟨⟨(ho _ (by omega)).trans h.my.st, (ho _ (by omega)).trans h.my.res, fun i hi => ?_, belowRow h.my.bel (by omega) _, by simpa [World.setRow] using h.my.lt, by simpa [World.setRow] using h.my.le⟩, fun i hi => ?_, heapRow_same h.cur _, h.n1, h.n2, h.le⟩
  · exact (World.cell?_of_block (w := u) (a := ⟨m1, i, none⟩) (ho _ h.n1)).trans (h.my.tab i hi)
  · exact (World.cell?_of_block (w := u) (a := ⟨m2, i, none⟩) (ho _ h.n2)).trans (h.wo i hi)
theorem My.row' {b : Nat → Nat} {s t t' : Sha.St} {w u : World} {m1 m2 m3 : Nat} {z8 : Array Value} (h : My b s t w u m1 m2 m3 z8) (cs : Array Value) (hc : cs = St8 t') : My b s t' w (u.setRow m3 cs) m1 m2 m3 z8 := by rw [hc]; exact h.row
theorem arr8 {x1 x2 x3 x4 x5 x6 x7 x8 y1 y5 : Value} (h1 : x1 = y1) (h5 : x5 = y5) : (#[x1, x2, x3, x4, x5, x6, x7, x8] : Array Value) = #[y1, x2, x3, x4, y5, x6, x7, x8] := by rw [h1, h5]
theorem My.make {b : Nat → Nat} {s : Sha.St} {w u w2 : World} {m1 : Nat} {z8 : Array Value} (h : My0 s w u m1 z8) (hb : Below u.heap.size u w2) (A A' ws : Array Value) (hws : Is32 ws 64 (Sha.wd b)) :
    My b s s w ((((w2.alloc (.cells A 62)).setRow w2.heap.size ws).alloc (.cells A' 23)).setRow (w2.heap.size + 1) (St8 s)) m1 w2.heap.size (w2.heap.size + 1) z8 := by
  have k1 := below_row w2 A ws 62
  have k2 := below_row ((w2.alloc (.cells A 62)).setRow w2.heap.size ws) A' (St8 s) 23
  have e : ((w2.alloc (.cells A 62)).setRow w2.heap.size ws).heap.size = w2.heap.size + 1 := by simp [World.setRow]
  rw [e] at k2
  have h1 := h.below hb
  have h2 := h1.below (k1.trans (k2.mono (by omega)))
  refine ⟨h2, fun i hi => ?_, ?_, ?_, by omega, by have := h1.le; omega⟩
  · exact (k2.cell (p := ⟨w2.heap.size, i, none⟩) (by simp)).trans (row_cell w2 A ws 62 _ 64 hws i hi)
  · have := heap_alloc_new ((w2.alloc (.cells A 62)).setRow w2.heap.size ws) (.cells A' 23)
    rw [e] at this
    exact heapRow_same this _
  · have := h1.lt; omega
set_option maxRecDepth 100000 in
set_option maxHeartbeats 4000000 in
theorem mMade (b : Nat → Nat) (hb : ∀ j, b j < 256) (s : Sha.St) (hs : Ok s) (g off cap : Nat) (w : World) (hg : g < w.heap.size) (hc : ∀ j, j < 64 → w.cell? ⟨g, off + j, none⟩ = some (.int .u8 (b j : Nat))) :
    Calls Try.prog 39 #[.agg (St8 s), .slice (some ⟨g, off, none⟩) 64 cap] w fun e w' => e = .returned (.agg (St8 (Sha.add s (Sha.rnd b s 64)))) ∧ Below w.heap.size w w' := by
  have HS := hide hs
  have HB := hide hb
  have HC := hide hc
  clear hs hb hc
  have hu := Try.underlying23
  go_enter Try.func39, Try.ntmps39
  go_wp2_with fail
  refine (mCubes _).mono ?_
  rintro e w1 ⟨rfl, hbel⟩
  have HM0 := hide (My0.make s w w1 #[.int .u32 0, .int .u32 0, .int .u32 0, .int .u32 0, .int .u32 0, .int .u32 0, .int .u32 0, .int .u32 0] #[.int .u32 0, .int .u32 0, .int .u32 0, .int .u32 0, .int .u32 0, .int .u32 0, .int .u32 0, .int .u32 0, .int .u32 0, .int .u32 0, .int .u32 0, .int .u32 0, .int .u32 0, .int .u32 0, .int .u32 0, .int .u32 0, .int .u32 0, .int .u32 0, .int .u32 0, .int .u32 0, .int .u32 0, .int .u32 0, .int .u32 0, .int .u32 0, .int .u32 0, .int .u32 0, .int .u32 0, .int .u32 0, .int .u32 0, .int .u32 0, .int .u32 0, .int .u32 0, .int .u32 0, .int .u32 0, .int .u32 0, .int .u32 0, .int .u32 0, .int .u32 0, .int .u32 0, .int .u32 0, .int .u32 0, .int .u32 0, .int .u32 0, .int .u32 0, .int .u32 0, .int .u32 0, .int .u32 0, .int .u32 0, .int .u32 0, .int .u32 0, .int .u32 0, .int .u32 0, .int .u32 0, .int .u32 0, .int .u32 0, .int .u32 0, .int .u32 0, .int .u32 0, .int .u32 0, .int .u32 0, .int .u32 0, .int .u32 0, .int .u32 0, .int .u32 0] hbel)
  clear hbel
  go_wp2_with (first | (refine wpList_store_row rfl 62 (.tmp 5) (.tmp 18) rfl w1.heap.size KV rfl rfl 62 #[.int .u32 0, .int .u32 0, .int .u32 0, .int .u32 0, .int .u32 0, .int .u32 0, .int .u32 0, .int .u32 0, .int .u32 0, .int .u32 0, .int .u32 0, .int .u32 0, .int .u32 0, .int .u32 0, .int .u32 0, .int .u32 0, .int .u32 0, .int .u32 0, .int .u32 0, .int .u32 0, .int .u32 0, .int .u32 0, .int .u32 0, .int .u32 0, .int .u32 0, .int .u32 0, .int .u32 0, .int .u32 0, .int .u32 0, .int .u32 0, .int .u32 0, .int .u32 0, .int .u32 0, .int .u32 0, .int .u32 0, .int .u32 0, .int .u32 0, .int .u32 0, .int .u32 0, .int .u32 0, .int .u32 0, .int .u32 0, .int .u32 0, .int .u32 0, .int .u32 0, .int .u32 0, .int .u32 0, .int .u32 0, .int .u32 0, .int .u32 0, .int .u32 0, .int .u32 0, .int .u32 0, .int .u32 0, .int .u32 0, .int .u32 0, .int .u32 0, .int .u32 0, .int .u32 0, .int .u32 0, .int .u32 0, .int .u32 0, .int .u32 0, .int .u32 0] (heap_alloc_new _ _) infoW rfl KV_is.one ?_))
  generalize (w1.alloc (.cells #[.int .u32 0, .int .u32 0, .int .u32 0, .int .u32 0, .int .u32 0, .int .u32 0, .int .u32 0, .int .u32 0, .int .u32 0, .int .u32 0, .int .u32 0, .int .u32 0, .int .u32 0, .int .u32 0, .int .u32 0, .int .u32 0, .int .u32 0, .int .u32 0, .int .u32 0, .int .u32 0, .int .u32 0, .int .u32 0, .int .u32 0, .int .u32 0, .int .u32 0, .int .u32 0, .int .u32 0, .int .u32 0, .int .u32 0, .int .u32 0, .int .u32 0, .int .u32 0, .int .u32 0, .int .u32 0, .int .u32 0, .int .u32 0, .int .u32 0, .int .u32 0, .int .u32 0, .int .u32 0, .int .u32 0, .int .u32 0, .int .u32 0, .int .u32 0, .int .u32 0, .int .u32 0, .int .u32 0, .int .u32 0, .int .u32 0, .int .u32 0, .int .u32 0, .int .u32 0, .int .u32 0, .int .u32 0, .int .u32 0, .int .u32 0, .int .u32 0, .int .u32 0, .int .u32 0, .int .u32 0, .int .u32 0, .int .u32 0, .int .u32 0, .int .u32 0] 62)).setRow w1.heap.size KV = W1 at HM0 ⊢
  generalize w1.heap.size = m1 at HM0 ⊢
  refine (mWords b (unhide HB) g off cap W1 (Nat.lt_of_lt_of_le hg (unhide HM0).bel.size) (fun j hj => ((unhide HM0).bel.cell (p := ⟨g, off + j, none⟩) hg).trans (unhide HC j hj))).mono ?_
  rintro e w2 ⟨⟨ws, rfl, hws⟩, hbel⟩
  have HM := hide (My.make (unhide HM0) hbel #[.int .u32 0, .int .u32 0, .int .u32 0, .int .u32 0, .int .u32 0, .int .u32 0, .int .u32 0, .int .u32 0, .int .u32 0, .int .u32 0, .int .u32 0, .int .u32 0, .int .u32 0, .int .u32 0, .int .u32 0, .int .u32 0, .int .u32 0, .int .u32 0, .int .u32 0, .int .u32 0, .int .u32 0, .int .u32 0, .int .u32 0, .int .u32 0, .int .u32 0, .int .u32 0, .int .u32 0, .int .u32 0, .int .u32 0, .int .u32 0, .int .u32 0, .int .u32 0, .int .u32 0, .int .u32 0, .int .u32 0, .int .u32 0, .int .u32 0, .int .u32 0, .int .u32 0, .int .u32 0, .int .u32 0, .int .u32 0, .int .u32 0, .int .u32 0, .int .u32 0, .int .u32 0, .int .u32 0, .int .u32 0, .int .u32 0, .int .u32 0, .int .u32 0, .int .u32 0, .int .u32 0, .int .u32 0, .int .u32 0, .int .u32 0, .int .u32 0, .int .u32 0, .int .u32 0, .int .u32 0, .int .u32 0, .int .u32 0, .int .u32 0, .int .u32 0] #[.int .u32 0, .int .u32 0, .int .u32 0, .int .u32 0, .int .u32 0, .int .u32 0, .int .u32 0, .int .u32 0] ws hws)
  have hi2 : (Try.prog.info? 62).map (·.size) = some ws.size := by rw [infoW, hws.size]
  have hws1 := hws.one
  have hws2 := hws.size
  have HST := hide (((unhide HM0).below hbel).below (below_row w2 #[.int .u32 0, .int .u32 0, .int .u32 0, .int .u32 0, .int .u32 0, .int .u32 0, .int .u32 0, .int .u32 0, .int .u32 0, .int .u32 0, .int .u32 0, .int .u32 0, .int .u32 0, .int .u32 0, .int .u32 0, .int .u32 0, .int .u32 0, .int .u32 0, .int .u32 0, .int .u32 0, .int .u32 0, .int .u32 0, .int .u32 0, .int .u32 0, .int .u32 0, .int .u32 0, .int .u32 0, .int .u32 0, .int .u32 0, .int .u32 0, .int .u32 0, .int .u32 0, .int .u32 0, .int .u32 0, .int .u32 0, .int .u32 0, .int .u32 0, .int .u32 0, .int .u32 0, .int .u32 0, .int .u32 0, .int .u32 0, .int .u32 0, .int .u32 0, .int .u32 0, .int .u32 0, .int .u32 0, .int .u32 0, .int .u32 0, .int .u32 0, .int .u32 0, .int .u32 0, .int .u32 0, .int .u32 0, .int .u32 0, .int .u32 0, .int .u32 0, .int .u32 0, .int .u32 0, .int .u32 0, .int .u32 0, .int .u32 0, .int .u32 0, .int .u32 0] ws 62)).st
  clear hbel hws
  go_wp2_with (first | (refine wpList_store_row rfl 62 (.tmp 6) (.tmp 20) rfl w2.heap.size ws rfl rfl 62 #[.int .u32 0, .int .u32 0, .int .u32 0, .int .u32 0, .int .u32 0, .int .u32 0, .int .u32 0, .int .u32 0, .int .u32 0, .int .u32 0, .int .u32 0, .int .u32 0, .int .u32 0, .int .u32 0, .int .u32 0, .int .u32 0, .int .u32 0, .int .u32 0, .int .u32 0, .int .u32 0, .int .u32 0, .int .u32 0, .int .u32 0, .int .u32 0, .int .u32 0, .int .u32 0, .int .u32 0, .int .u32 0, .int .u32 0, .int .u32 0, .int .u32 0, .int .u32 0, .int .u32 0, .int .u32 0, .int .u32 0, .int .u32 0, .int .u32 0, .int .u32 0, .int .u32 0, .int .u32 0, .int .u32 0, .int .u32 0, .int .u32 0, .int .u32 0, .int .u32 0, .int .u32 0, .int .u32 0, .int .u32 0, .int .u32 0, .int .u32 0, .int .u32 0, .int .u32 0, .int .u32 0, .int .u32 0, .int .u32 0, .int .u32 0, .int .u32 0, .int .u32 0, .int .u32 0, .int .u32 0, .int .u32 0, .int .u32 0, .int .u32 0, .int .u32 0] (heap_alloc_new _ _) hi2 (by rw [hws2]; rfl) hws1 ?_) | (refine wpList_load_row rfl 23 (.tmp 2) rfl w.heap.size rfl 23 (St8 s) (0, 0) _ (unhide HST) hu rfl info8 ?_) | (refine wpList_store_row rfl 23 (.tmp 7) (.tmp 21) rfl (w2.heap.size + 1) (St8 s) rfl rfl 23 #[.int .u32 0, .int .u32 0, .int .u32 0, .int .u32 0, .int .u32 0, .int .u32 0, .int .u32 0, .int .u32 0] (by have := heap_alloc_new ((w2.alloc (.cells #[.int .u32 0, .int .u32 0, .int .u32 0, .int .u32 0, .int .u32 0, .int .u32 0, .int .u32 0, .int .u32 0, .int .u32 0, .int .u32 0, .int .u32 0, .int .u32 0, .int .u32 0, .int .u32 0, .int .u32 0, .int .u32 0, .int .u32 0, .int .u32 0, .int .u32 0, .int .u32 0, .int .u32 0, .int .u32 0, .int .u32 0, .int .u32 0, .int .u32 0, .int .u32 0, .int .u32 0, .int .u32 0, .int .u32 0, .int .u32 0, .int .u32 0, .int .u32 0, .int .u32 0, .int .u32 0, .int .u32 0, .int .u32 0, .int .u32 0, .int .u32 0, .int .u32 0, .int .u32 0, .int .u32 0, .int .u32 0, .int .u32 0, .int .u32 0, .int .u32 0, .int .u32 0, .int .u32 0, .int .u32 0, .int .u32 0, .int .u32 0, .int .u32 0, .int .u32 0, .int .u32 0, .int .u32 0, .int .u32 0, .int .u32 0, .int .u32 0, .int .u32 0, .int .u32 0, .int .u32 0, .int .u32 0, .int .u32 0, .int .u32 0, .int .u32 0] 62)).setRow w2.heap.size ws) (.cells #[.int .u32 0, .int .u32 0, .int .u32 0, .int .u32 0, .int .u32 0, .int .u32 0, .int .u32 0, .int .u32 0] 23); simpa using this) info8 rfl (St8_one s) ?_))
  clear hi2 hws1 hws2 HST
  generalize (((w2.alloc (.cells #[.int .u32 0, .int .u32 0, .int .u32 0, .int .u32 0, .int .u32 0, .int .u32 0, .int .u32 0, .int .u32 0, .int .u32 0, .int .u32 0, .int .u32 0, .int .u32 0, .int .u32 0, .int .u32 0, .int .u32 0, .int .u32 0, .int .u32 0, .int .u32 0, .int .u32 0, .int .u32 0, .int .u32 0, .int .u32 0, .int .u32 0, .int .u32 0, .int .u32 0, .int .u32 0, .int .u32 0, .int .u32 0, .int .u32 0, .int .u32 0, .int .u32 0, .int .u32 0, .int .u32 0, .int .u32 0, .int .u32 0, .int .u32 0, .int .u32 0, .int .u32 0, .int .u32 0, .int .u32 0, .int .u32 0, .int .u32 0, .int .u32 0, .int .u32 0, .int .u32 0, .int .u32 0, .int .u32 0, .int .u32 0, .int .u32 0, .int .u32 0, .int .u32 0, .int .u32 0, .int .u32 0, .int .u32 0, .int .u32 0, .int .u32 0, .int .u32 0, .int .u32 0, .int .u32 0, .int .u32 0, .int .u32 0, .int .u32 0, .int .u32 0, .int .u32 0] 62)).setRow w2.heap.size ws).alloc (.cells #[.int .u32 0, .int .u32 0, .int .u32 0, .int .u32 0, .int .u32 0, .int .u32 0, .int .u32 0, .int .u32 0] 23)).setRow (w2.heap.size + 1) (St8 s) = W3 at HM ⊢
  generalize w2.heap.size + 1 = m3 at HM ⊢
  generalize w2.heap.size = m2 at HM ⊢
  clear HM0
  go_loopw [8] (fun i wr => ∃ (k a1 b1 c1 d1 e1 f1 g1 h1 : Nat), k ≤ 64 ∧ i = .int .i64 k ∧ Hid (Sha.rnd b s k = ⟨a1, b1, c1, d1, e1, f1, g1, h1⟩) ∧ Hid (My b s ⟨a1, b1, c1, d1, e1, f1, g1, h1⟩ w wr m1 m2 m3 #[.int .u32 0, .int .u32 0, .int .u32 0, .int .u32 0, .int .u32 0, .int .u32 0, .int .u32 0, .int .u32 0])) (fun i _ => 64 - (intOf i).toNat)
  case atStart => exact ⟨0, s.a, s.b, s.c, s.d, s.e, s.f, s.g, s.h, by omega, rfl, rfl, HM⟩
  case round =>
    clear HM
    obtain ⟨k, a1, b1, c1, d1, e1, f1, g1, h1, hk, rfl, HR, HM⟩ := hrel
    have hok : Ok ⟨a1, b1, c1, d1, e1, f1, g1, h1⟩ := by rw [← unhide HR]; exact (unhide HS).rnd b k
    by_cases hlt : k < 64
    · have ha := hok.a
      have hb := hok.b
      have hc := hok.c
      have hd := hok.d
      have he := hok.e
      have hf := hok.f
      have hg' := hok.g
      have hh := hok.h
      simp only at ha hb hc hd he hf hg' hh
      have cw := (unhide HM).wo k hlt
      have ct := (unhide HM).my.tab k hlt
      have z0 : wr.cell? ⟨m3, 0, none⟩ = some (.int .u32 a1) := (unhide HM).cell 0 (by decide)
      have z1 : wr.cell? ⟨m3, 1, none⟩ = some (.int .u32 b1) := (unhide HM).cell 1 (by decide)
      have z2 : wr.cell? ⟨m3, 2, none⟩ = some (.int .u32 c1) := (unhide HM).cell 2 (by decide)
      have z3 : wr.cell? ⟨m3, 3, none⟩ = some (.int .u32 d1) := (unhide HM).cell 3 (by decide)
      have z4 : wr.cell? ⟨m3, 4, none⟩ = some (.int .u32 e1) := (unhide HM).cell 4 (by decide)
      have z5 : wr.cell? ⟨m3, 5, none⟩ = some (.int .u32 f1) := (unhide HM).cell 5 (by decide)
      have z6 : wr.cell? ⟨m3, 6, none⟩ = some (.int .u32 g1) := (unhide HM).cell 6 (by decide)
      have z7 : wr.cell? ⟨m3, 7, none⟩ = some (.int .u32 h1) := (unhide HM).cell 7 (by decide)
      have HL : Hid (Sha.wd b k < 4294967296 ∧ Sha.K.getD k 0 < 4294967296) := ⟨Sha.wd_lt b (unhide HB) k, K_lt k⟩
      have HN : Hid (Sha.rnd b s (k + 1) = Sha.rstep ⟨a1, b1, c1, d1, e1, f1, g1, h1⟩ (Sha.K.getD k 0) (Sha.wd b k)) := by
        show Sha.rstep (Sha.rnd b s k) _ _ = _
        rw [unhide HR]
      obtain ⟨A1, B1, C1, D1, E1, F1, ⟨p1, p2, p3, p4, p5, p6⟩, H1⟩ := Rd1.make e1 f1 g1 he hf hg'
      obtain ⟨A2, B2, C2, D2, E2, G2, F2, ⟨q1, q2, q3, q4, q5, q6, q7⟩, H2⟩ := Rd2.make a1 b1 c1 ha hb hc
      have hki : (k : Int) < 64 := by omega
      have T1 : Hid (∀ u, Calls Try.prog 50 #[.int .u32 e1, .int .i64 6] u fun e w' => e = .returned (.int .u32 (Sha.rot e1 6 : Nat)) ∧ ∃ k, w' = u.drewN k) := hide fun u => mRight e1 6 u he (by decide) (by decide)
      have T2 : Hid (∀ u, Calls Try.prog 50 #[.int .u32 e1, .int .i64 11] u fun e w' => e = .returned (.int .u32 (Sha.rot e1 11 : Nat)) ∧ ∃ k, w' = u.drewN k) := hide fun u => mRight e1 11 u he (by decide) (by decide)
      have T3 : Hid (∀ u, Calls Try.prog 50 #[.int .u32 e1, .int .i64 25] u fun e w' => e = .returned (.int .u32 (Sha.rot e1 25 : Nat)) ∧ ∃ k, w' = u.drewN k) := hide fun u => mRight e1 25 u he (by decide) (by decide)
      have T4 : Hid (∀ u, Calls Try.prog 50 #[.int .u32 a1, .int .i64 2] u fun e w' => e = .returned (.int .u32 (Sha.rot a1 2 : Nat)) ∧ ∃ k, w' = u.drewN k) := hide fun u => mRight a1 2 u ha (by decide) (by decide)
      have T5 : Hid (∀ u, Calls Try.prog 50 #[.int .u32 a1, .int .i64 13] u fun e w' => e = .returned (.int .u32 (Sha.rot a1 13 : Nat)) ∧ ∃ k, w' = u.drewN k) := hide fun u => mRight a1 13 u ha (by decide) (by decide)
      have T6 : Hid (∀ u, Calls Try.prog 50 #[.int .u32 a1, .int .i64 22] u fun e w' => e = .returned (.int .u32 (Sha.rot a1 22 : Nat)) ∧ ∃ k, w' = u.drewN k) := hide fun u => mRight a1 22 u ha (by decide) (by decide)
      have HO : Hid (B1 < 4294967296 ∧ F1 < 4294967296 ∧ B2 < 4294967296 ∧ F2 < 4294967296) := by
        rw [(unhide H1).1, (unhide H1).2, (unhide H2).1, (unhide H2).2]
        exact ⟨xor_lt (xor_lt (Sha.rot_lt _ _ he) (Sha.rot_lt _ _ he)) (Sha.rot_lt _ _ he), xor_lt (and_lt he) (and_lt (by omega)), xor_lt (xor_lt (Sha.rot_lt _ _ ha) (Sha.rot_lt _ _ ha)) (Sha.rot_lt _ _ ha), xor_lt (xor_lt (and_lt ha) (and_lt ha)) (and_lt hb)⟩
      generalize Sha.wd b k = y at *
      generalize Sha.K.getD k 0 = q at *
      have HA : Hid (d1 < 4294967296 ∧ h1 < 4294967296) := ⟨hd, hh⟩
      clear hok ha hb hc hd he hf hg' hh
      go_wp2
      go_quiet (first | (go_at_call 50; with_reducible exact Calls.quiet_of (unhide T1 _)) | (go_at_call 50; with_reducible exact Calls.quiet_of (unhide T2 _)) | (go_at_call 50; with_reducible exact Calls.quiet_of (unhide T3 _)))
      go_wp2_with fail
      refine (unhide T4 _).mono ?_
      rintro e w3 ⟨rfl, n4, rfl⟩
      go_wp2_with fail
      refine (unhide T5 _).mono ?_
      rintro e w3 ⟨rfl, n5, rfl⟩
      go_wp2_with fail
      refine (unhide T6 _).mono ?_
      rintro e w3 ⟨rfl, n6, rfl⟩
      go_wp2_with (refine wpList_store_row rfl 23 (.tmp 7) (.tmp 99) rfl m3 _ rfl rfl 23 (St8 ⟨a1, b1, c1, d1, e1, f1, g1, h1⟩) (unhide HM).cur info8 rfl (by simp [Value.oneCell']) ?_)
      go_roundw
      case rel =>
        refine ⟨k + 1, (Sha.rstep ⟨a1, b1, c1, d1, e1, f1, g1, h1⟩ q y).a, a1, b1, c1, (Sha.rstep ⟨a1, b1, c1, d1, e1, f1, g1, h1⟩ q y).e, e1, f1, g1, by omega, by go_num, hide (unhide HN), hide (((unhide HM).drewN _).row' _ (arr8 ?_ ?_))⟩
        · have e1' := unhide H1
          have h2 := unhide H2
          have h3 := unhide HO
          have h4 := unhide HA
          have h5 := unhide HL
          show Value.int _ _ = Value.int _ (((((h1 + Sha.S1 e1 + Sha.ch e1 f1 g1 + q + y) % 4294967296 + (Sha.S0 a1 + Sha.maj a1 b1 c1) % 4294967296) % 4294967296 : Nat)) : Int)
          rw [← e1'.1, ← e1'.2, ← h2.1, ← h2.2]
          congr 1
          try simp only [IntKind.wrap_u32]
          omega
        · have e1' := unhide H1
          have h3 := unhide HO
          have h4 := unhide HA
          have h5 := unhide HL
          show Value.int _ _ = Value.int _ ((((d1 + (h1 + Sha.S1 e1 + Sha.ch e1 f1 g1 + q + y) % 4294967296) % 4294967296 : Nat)) : Int)
          rw [← e1'.1, ← e1'.2]
          congr 1
          try simp only [IntKind.wrap_u32]
          omega
      case measure => simp [intOf]; omega
    · have hkk : k = 64 := by omega
      subst hkk
      clear hk hlt
      have HZ : Hid (wr.heap[w.heap.size]? = some (.cells (St8 s) 23 (0, 0)) ∧ wr.heap[w.heap.size + 1]? = some (.cells #[.int .u32 0, .int .u32 0, .int .u32 0, .int .u32 0, .int .u32 0, .int .u32 0, .int .u32 0, .int .u32 0] 23 (0, 0))) := ⟨(unhide HM).my.st, (unhide HM).my.res⟩
      have HI : Hid (R8 (su ⟨a1, b1, c1, d1, e1, f1, g1, h1⟩ s 0) w wr m3 (St8 ⟨a1, b1, c1, d1, e1, f1, g1, h1⟩)) := ⟨⟨rfl, fun j hj => by rw [St8_at _ j hj]; rfl⟩, (unhide HM).cur, by have := (unhide HM).le; omega, (unhide HM).my.bel⟩
      have hm3 := (unhide HM).le
      have HO := hide hok
      clear hok HM
      go_wp2
      go_loopw [17] (fun i wr2 => ∃ (k : Nat) (ts : Array Value), k ≤ 8 ∧ i = .int .i64 k ∧ Hid (R8 (su ⟨a1, b1, c1, d1, e1, f1, g1, h1⟩ s k) w wr2 m3 ts) ∧ Hid (wr2.heap[w.heap.size]? = some (.cells (St8 s) 23 (0, 0)) ∧ wr2.heap[w.heap.size + 1]? = some (.cells #[.int .u32 0, .int .u32 0, .int .u32 0, .int .u32 0, .int .u32 0, .int .u32 0, .int .u32 0, .int .u32 0] 23 (0, 0)))) (fun i _ => 8 - (intOf i).toNat)
      case atStart => exact ⟨0, _, by omega, rfl, HI, HZ⟩
      case round =>
        clear HI HZ
        obtain ⟨k, ts, hk, rfl, HI, HZ⟩ := hrel
        by_cases hlt : k < 8
        · have hc := (unhide HI).cell hlt
          rw [su_here] at hc
          have hc2 : wr.cell? ⟨w.heap.size, k, none⟩ = some (.int .u32 (fld s k : Nat)) := by simp [World.cell?, (unhide HZ).1, St8_at s k hlt]
          have hfz := (unhide HI).frozen k
          have hki : (k : Int) < 8 := by omega
          have HN := hide (fun v n hv => And.intro ((unhide HI).upd (f' := su ⟨a1, b1, c1, d1, e1, f1, g1, h1⟩ s (k + 1)) v n hv hlt (fun j hj => su_other _ _ k j hj)) (And.intro (heapSetO (v := v) (k := k) (r := m3) (unhide HZ).1 (by omega)) (heapSetO (v := v) (k := k) (r := m3) (unhide HZ).2 (by omega))))
          have HS8 : Hid (su ⟨a1, b1, c1, d1, e1, f1, g1, h1⟩ s (k + 1) k = (fld ⟨a1, b1, c1, d1, e1, f1, g1, h1⟩ k + fld s k) % 4294967296) := su_same _ _ _
          have hx := fld_lt (unhide HS) k
          have hy := fld_lt (unhide HO) k
          generalize fld ⟨a1, b1, c1, d1, e1, f1, g1, h1⟩ k = y at *
          generalize fld s k = x at *
          have hn3 : ¬ (w.heap.size = m3) := by omega
          have hn3' : ¬ (m3 = w.heap.size) := by omega
          go_wp2
          go_region
          go_wp2
          have HV : Hid (Value.int .u32 (((y : Int) + x) % 4294967296) = .int .u32 (su ⟨a1, b1, c1, d1, e1, f1, g1, h1⟩ s (k + 1) k : Nat)) := by
            show Value.int _ _ = Value.int _ _
            rw [unhide HS8]
            congr 1
          go_roundw
          case rel => exact ⟨k + 1, _, by omega, by go_num, hide (unhide HN _ 1 (unhide HV)).1, hide (unhide HN _ 1 (unhide HV)).2⟩
          case measure => simp [intOf]; omega
        · have hkk : k = 8 := by omega
          subst hkk
          have h6 := (unhide HI).row
          have h1 := (unhide HI).is.size
          have h4 := (unhide HZ).2
          have hi : (Try.prog.info? 23).map (·.size) = some ts.size := by rw [info8, h1]
          have hT : ts = St8 (Sha.add s (Sha.rnd b s 64)) := by
            refine Is32.eq8 ⟨h1, fun j hj => ?_⟩
            rw [(unhide HI).is.at' j hj, fld_add s _ j hj, unhide HR]
            unfold su
            rw [if_pos hj, Nat.add_comm]
          go_wp2_with (first | (refine wpList_load_row rfl 23 (.tmp 7) rfl m3 rfl 23 ts (0, 0) _ h6 hu rfl hi ?_) | (refine wpList_store_row rfl 23 (.tmp 4) (.tmp 113) rfl (w.heap.size + 1) ts rfl rfl 23 #[.int .u32 0, .int .u32 0, .int .u32 0, .int .u32 0, .int .u32 0, .int .u32 0, .int .u32 0, .int .u32 0] h4 hi (by rw [h1]; rfl) (unhide HI).is.one ?_))
          refine bodyPost_ret (results_cell_row rfl _ _ (w.heap.size + 1) 23 ts (0, 0) _ rfl (heapRow_same h4 ts) hu rfl hi) rfl ?_
          exact ⟨by rw [hT], belowRow (unhide HI).bel (by omega) _⟩
end Go.Proofs.Ytpbifpbblinopaa
