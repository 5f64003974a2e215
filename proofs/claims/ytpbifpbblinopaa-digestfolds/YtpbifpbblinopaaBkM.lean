/- Block, by the document. -/
import Derived.Test.YtpbifpbblinopaaShN
import Derived.Laws.ResultCell
namespace Go.Proofs.Ytpbifpbblinopaa
open Go.RowKit

theorem results_row_tmp {fn : Func} {p u : Tmp} {ty : TypeId} (h : fn.results = #[.cell p ty, .tmp u]) (tmps : Array Value) {P : Program} (w : World) (g : Nat) (t : TypeId) (cs : Array Value) (fr : Nat × Nat) (n : Nat) (el : TypeId)
    (hp : tmps.getD p undef = .pointer (some ⟨g, 0, none⟩)) (hg : w.heap[g]? = some (.cells cs t fr))
    (hu : P.underlying ty = some (.array n el)) (hi : (P.info? ty).map (·.size) = some cs.size) :
    (results fn tmps).run P w = .ok (.tuple #[.agg cs, tmps.getD u undef]) w := by
  rw [results_cell_tmp h, hp]
  have hl := run_loadVar_row w g t ty cs fr (.array n el) hg hu rfl hi
  simp [asAddr, hl]
set_option maxRecDepth 100000 in
set_option maxHeartbeats 1000000 in
theorem mBlock64 (b : Nat → Nat) (hb : ∀ j, b j < 256) (s : Sha.St) (hs : Ok s) (g off cap : Nat) (w : World) (hg : g < w.heap.size) (hc : ∀ j, j < 64 → w.cell? ⟨g, off + j, none⟩ = some (.int .u8 (b j : Nat))) :
    Calls Try.prog 13 #[.agg (St8 s), .slice (some ⟨g, off, none⟩) 64 cap] w fun e w' => e = .returned (.tuple #[.agg (St8 (Sha.add s (Sha.rnd b s 64))), .int .i64 0]) ∧ Below w.heap.size w w' := by
  obtain ⟨t, ht⟩ : ∃ t, t = Sha.add s (Sha.rnd b s 64) := ⟨_, rfl⟩
  rw [← ht]
  have HT := hide ht
  have HC := hide hc
  have HB := hide hb
  have HS := hide hs
  clear hc hb hs ht
  have hu := Try.underlying23
  have hrow : ((w.alloc (.cells (St8 s) 23)).alloc (.cells #[.int .u32 0, .int .u32 0, .int .u32 0, .int .u32 0, .int .u32 0, .int .u32 0, .int .u32 0, .int .u32 0] 23)).heap[w.heap.size]? = some (.cells (St8 s) 23 (0, 0)) := by rw [Deep.blk_alloc_lt _ _ _ (by simp)]; exact heap_alloc_new _ _
  have HZ : Hid (((w.alloc (.cells (St8 s) 23)).alloc (.cells #[.int .u32 0, .int .u32 0, .int .u32 0, .int .u32 0, .int .u32 0, .int .u32 0, .int .u32 0, .int .u32 0] 23)).heap[w.heap.size + 1]? = some (.cells #[.int .u32 0, .int .u32 0, .int .u32 0, .int .u32 0, .int .u32 0, .int .u32 0, .int .u32 0, .int .u32 0] 23 (0, 0))) := by
    have this := heap_alloc_new (w.alloc (.cells (St8 s) 23)) (.cells #[.int .u32 0, .int .u32 0, .int .u32 0, .int .u32 0, .int .u32 0, .int .u32 0, .int .u32 0, .int .u32 0] 23)
    rw [World.size_alloc] at this
    exact this
  have HBL : Hid (Below w.heap.size w ((w.alloc (.cells (St8 s) 23)).alloc (.cells #[.int .u32 0, .int .u32 0, .int .u32 0, .int .u32 0, .int .u32 0, .int .u32 0, .int .u32 0, .int .u32 0] 23))) := ((Below.refl _ _).alloc (Nat.le_refl _) _).alloc (by simp) _
  have HROW := hide hrow
  clear hrow
  go_enter Try.func13, Try.ntmps13
  go_wp2_with (refine wpList_load_row rfl 23 (.tmp 2) rfl w.heap.size rfl 23 (St8 s) (0, 0) _ (unhide HROW) hu rfl info8 ?_)
  refine (mMade b (unhide HB) s (unhide HS) g off cap _ (Nat.lt_of_lt_of_le hg (unhide HBL).size) (fun j hj => ((unhide HBL).cell (p := ⟨g, off + j, none⟩) hg).trans (unhide HC j hj))).mono ?_
  rintro e w1 ⟨rfl, hbel⟩
  have hz : w1.heap[w.heap.size + 1]? = some (.cells #[.int .u32 0, .int .u32 0, .int .u32 0, .int .u32 0, .int .u32 0, .int .u32 0, .int .u32 0, .int .u32 0] 23 (0, 0)) := (hbel.block _ (by simp)).trans (unhide HZ)
  have HW := hide ((unhide HBL).trans (hbel.mono (unhide HBL).size))
  clear hbel
  rw [show Sha.add s (Sha.rnd b s 64) = t from (unhide HT).symm]
  go_wp2_with (refine wpList_store_row rfl 23 (.tmp 4) (.tmp 12) rfl (w.heap.size + 1) (St8 t) rfl rfl 23 #[.int .u32 0, .int .u32 0, .int .u32 0, .int .u32 0, .int .u32 0, .int .u32 0, .int .u32 0, .int .u32 0] hz info8 rfl (St8_one t) ?_)
  refine bodyPost_ret (results_row_tmp rfl _ _ (w.heap.size + 1) 23 (St8 t) (0, 0) _ _ rfl (heapRow_same hz _) hu info8) rfl ?_
  exact ⟨rfl, belowRow (unhide HW) (by omega) _⟩
end Go.Proofs.Ytpbifpbblinopaa
