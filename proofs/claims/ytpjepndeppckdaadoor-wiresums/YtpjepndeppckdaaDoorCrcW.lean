/- The matrix put upon itself; the document's joined sums. -/
import Derived.Test.YtpjepndeppckdaaDoorCrcM
import Derived.Deep.RegionHeld3
import Derived.Deep.MidRow
import Derived.Deep.Heap
import Derived.Laws.Rows
import Derived.Laws.Tables
import Derived.Test.YtpjepndeppckdaaDoorWorks
namespace Go.Proofs.YtpjepndeppckdaaDoor
open Go.RowKit Crc

theorem infoM : (Tryd.prog.info? 61).map (·.size) = some 32 := by kernel_rfl
theorem heapCell_same {w : World} {g : Nat} {cs : Array Value} {t : TypeId} {fr : Nat × Nat} (h : w.heap[g]? = some (.cells cs t fr)) (k : Nat) (v : Value) : (w.setCell ⟨g, k, none⟩ v).heap[g]? = some (.cells (cs.setIfInBounds k v) t fr) := by
  simp [World.setCell, Array.getElem?_modify, h]
theorem heapRow_same {w : World} {g : Nat} {cs : Array Value} {t : TypeId} {fr : Nat × Nat} (h : w.heap[g]? = some (.cells cs t fr)) (cs' : Array Value) : (w.setRow g cs').heap[g]? = some (.cells cs' t fr) := by
  simp [World.setRow, Array.getElem?_modify, h]
theorem heapRow_other (w : World) (g k : Nat) (cs' : Array Value) (h : k ≠ g) : (w.setRow g cs').heap[k]? = w.heap[k]? := by
  simp only [World.setRow, Array.getElem?_modify]
  rw [if_neg (by omega)]
theorem belowRow {B : Nat} {a w : World} (h : Below B a w) {g : Nat} (hg : B ≤ g) (cs' : Array Value) : Below B a (w.setRow g cs') :=
  ⟨h.os, h.tape, h.output, by simpa [World.setRow] using h.size, fun k hk => (heapRow_other w g k cs' (by omega)).trans (h.block k hk)⟩
theorem belowCell {B : Nat} {a w : World} (h : Below B a w) {p : Addr} (hg : B ≤ p.block) (v : Value) : Below B a (w.setCell p v) :=
  ⟨h.os, h.tape, h.output, by simpa [World.setCell] using h.size, fun k hk => (Deep.blk_setCell_other w p v k (by omega)).trans (h.block k hk)⟩
theorem one_all {cs : Array Value} {M : Nat → Nat} (hs : cs.size = 32) (h : ∀ i, i < 32 → cs[i]? = some (.int .u32 (M i))) : cs.all (·.oneCell') = true := by
  rw [Array.all_eq_true]
  intro i hi
  have := h i (by omega)
  rw [Array.getElem?_eq_getElem hi] at this
  rw [Option.some.inj this]; rfl
/-- the state of the loop in twice -/
def Tw (M : Nat → Nat) (cs : Array Value) (w wr : World) (k : Nat) (ts : Array Value) : Prop :=
  ts.size = 32 ∧ (∀ j, j < k → ts[j]? = some (.int .u32 (mp M 32 (M j) : Nat))) ∧ (∃ zs : Array Value, zs.size = 32 ∧ wr.heap[w.heap.size + 1]? = some (.cells zs 61 (0, 0))) ∧ wr.heap[w.heap.size]? = some (.cells cs 61 (0, 0)) ∧ wr.heap[w.heap.size + 1 + 1]? = some (.cells ts 61 (0, 0)) ∧ Below w.heap.size w wr
theorem Tw.start (M : Nat → Nat) (cs : Array Value) (w : World) (A B : Array Value) (hA : A.size = 32) (hB : B.size = 32) : Tw M cs w (((w.alloc (.cells cs 61)).alloc (.cells A 61)).alloc (.cells B 61)) 0 B := by
  refine ⟨hB, fun j hj => absurd hj (Nat.not_lt_zero _), ⟨A, hA, ?_⟩, ?_, ?_, (((Below.refl _ _).alloc (Nat.le_refl _) _).alloc (by simp) _).alloc (by simp; omega) _⟩
  · rw [Deep.blk_alloc_lt _ _ _ (by simp)]
    have := heap_alloc_new (w.alloc (.cells cs 61)) (.cells A 61)
    simpa using this
  · rw [Deep.blk_alloc_lt _ _ _ (by simp; omega), Deep.blk_alloc_lt _ _ _ (by simp)]
    exact heap_alloc_new _ _
  · have := heap_alloc_new ((w.alloc (.cells cs 61)).alloc (.cells A 61)) (.cells B 61)
    simpa using this
theorem Tw.next {M : Nat → Nat} {cs : Array Value} {w wr : World} {k : Nat} {ts : Array Value} (h : Tw M cs w wr k ts) (hk : k < 32) (o : Obj) (n : Nat) :
    Tw M cs w (((wr.setCell ⟨w.heap.size + 1 + 1, k, none⟩ (.int .u32 (mp M 32 (M k) : Nat))).alloc o).drewN n) (k + 1) (ts.setIfInBounds k (.int .u32 (mp M 32 (M k) : Nat))) := by
  obtain ⟨h1, h2, ⟨zs, h3, h4⟩, h5, h6, h7⟩ := h
  have hb : w.heap.size + 1 + 1 < wr.heap.size := (Array.getElem?_eq_some_iff.1 h6).1
  have hsz : (wr.setCell ⟨w.heap.size + 1 + 1, k, none⟩ (.int .u32 (mp M 32 (M k) : Nat))).heap.size = wr.heap.size := by simp [World.setCell]
  refine ⟨by simpa using h1, ?_, ⟨zs, h3, ?_⟩, ?_, ?_, belowDrewN ((belowCell h7 (by simp; omega) _).alloc (by rw [hsz]; omega) _) _⟩
  · intro j hj
    rw [Array.getElem?_setIfInBounds]
    by_cases hjk : k = j
    · subst hjk; rw [if_pos rfl, if_pos (by omega)]
    · rw [if_neg hjk]; exact h2 j (by omega)
  · show (World.alloc _ _).heap[_]? = _
    rw [Deep.blk_alloc_lt _ _ _ (by rw [hsz]; omega), Deep.blk_setCell_other _ _ _ _ (by simp)]; exact h4
  · show (World.alloc _ _).heap[_]? = _
    rw [Deep.blk_alloc_lt _ _ _ (by rw [hsz]; omega), Deep.blk_setCell_other _ _ _ _ (by simp; omega)]; exact h5
  · show (World.alloc _ _).heap[_]? = _
    rw [Deep.blk_alloc_lt _ _ _ (by rw [hsz]; omega)]; exact heapCell_same h6 _ _
set_option maxRecDepth 100000 in
set_option maxHeartbeats 800000 in
theorem mTwice (M : Nat → Nat) (cs : Array Value) (w : World) (hsz : cs.size = 32) (hcs : ∀ i, i < 32 → cs[i]? = some (.int .u32 (M i))) (hM : ∀ i, i < 32 → M i < 4294967296) :
    Calls Tryd.prog 36 #[.agg cs] w fun e w' => (∃ cs', e = .returned (.agg cs') ∧ cs'.size = 32 ∧ ∀ i, i < 32 → cs'[i]? = some (.int .u32 (mp M 32 (M i) : Nat))) ∧ Below w.heap.size w w' := by
  have HCS := hide hcs
  have HM := hide hM
  clear hcs hM
  go_enter Tryd.func36, Tryd.ntmps36
  go_wp2
  go_loopw [4] (fun i wr => ∃ k : Nat, ∃ ts : Array Value, k ≤ 32 ∧ i = .int .i64 k ∧ Hid (Tw M cs w wr k ts)) (fun i _ => 32 - (intOf i).toNat)
  case atStart =>
    exact ⟨0, _, Nat.zero_le _, rfl, hide (Tw.start M cs w _ _ rfl rfl)⟩
  case round =>
    obtain ⟨k, ts, hk, rfl, HI⟩ := hrel
    by_cases hlt : k < 32
    · have hrow : wr.heap[w.heap.size]? = some (.cells cs 61 (0, 0)) := (unhide HI).2.2.2.1
      have hrw : wr.rangeAt w.heap.size 0 cs.toList := by
        intro j v hv
        rw [Nat.zero_add]
        simpa [World.cell?, hrow] using hv
      have hc : wr.cell? ⟨w.heap.size, k, none⟩ = some (.int .u32 (M k)) := by simp [World.cell?, hrow, unhide HCS k hlt]
      have hts : wr.heap[w.heap.size + 1 + 1]? = some (.cells ts 61 (0, 0)) := (unhide HI).2.2.2.2.1
      obtain ⟨t0, ht0⟩ : ∃ v, ts[k]? = some v := ⟨ts[k]'(by rw [(unhide HI).1]; exact hlt), Array.getElem?_eq_getElem _⟩
      have hd : wr.cell? ⟨w.heap.size + 1 + 1, k, none⟩ = some t0 := by simp [World.cell?, hts, ht0]
      have hfz : wr.frozen? ⟨w.heap.size + 1 + 1, k, none⟩ = false := by simp [World.frozen?, hts]
      have hbs : w.heap.size + 1 + 1 < wr.heap.size := (Array.getElem?_eq_some_iff.1 hts).1
      have hF : (wr.alloc (.cells cs 61)).frozen? ⟨w.heap.size + 1 + 1, k, none⟩ = false := by rw [World.frozen?_alloc_past _ _ _ hbs]; exact hfz
      have hn := (unhide HI).next hlt (.cells cs 61) 1
      have hr2 : ((wr.setCell ⟨w.heap.size + 1 + 1, k, none⟩ (.int .u32 (mp M 32 (M k) : Nat))).alloc (.cells cs 61)).drew.rangeAt w.heap.size 0 cs.toList := by
        intro j v hv
        rw [Nat.zero_add]
        have hrow2 := hn.2.2.2.1
        have e : ((wr.setCell ⟨w.heap.size + 1 + 1, k, none⟩ (.int .u32 (mp M 32 (M k) : Nat))).alloc (.cells cs 61)).drew.heap[w.heap.size]? = some (.cells cs 61 (0, 0)) := hrow2
        simp only [World.cell?, e]
        simpa using hv
      have HR2 := hide hr2
      have hc2 : ((wr.setCell ⟨w.heap.size + 1 + 1, k, none⟩ (.int .u32 (mp M 32 (M k) : Nat))).alloc (.cells cs 61)).drew.cell? ⟨w.heap.size, k, none⟩ = some (.int .u32 (M k)) := by
        have := hr2 k (.int .u32 (M k)) (by simpa using unhide HCS k hlt)
        simpa using this
      have HC2 := hide hc2
      have HN := hide ((unhide HI).next hlt (.cells cs 61))
      clear hrow hts ht0 hn hr2 hc2
      have hput := fun u => mPut M cs (M k) u (unhide HCS) (unhide HM)
      have HP := hide hput
      clear hput
      have hki : (k : Int) < 32 := by omega
      have hu := Tryd.underlying61
      have hi : (Tryd.prog.info? 61).map (·.size) = some cs.toList.length := by rw [infoM]; simp [hsz]
      go_wp2
      go_region_held3 (fun u => u.rangeAt w.heap.size 0 cs.toList ∧ u.cell? ⟨w.heap.size, k, none⟩ = some (.int .u32 (M k))) (first | exact ⟨unhide HR2, unhide HC2⟩ | (go_keep_ranges; done) | (go_keep; done) | ((try dsimp only); (repeat' apply And.intro) <;> (first | (go_keep; done) | (go_keep_ranges; done)))) (first | (go_at_call 35; refine ((unhide HP) _).mono ?_; rintro e w1 ⟨rfl, rfl⟩))
      go_wp2
      go_roundw
      case rel => exact ⟨k + 1, _, by omega, by go_num, hide (unhide HN _)⟩
      case measure => simp [intOf]; omega
    · have hkk : k = 32 := by omega
      subst hkk
      obtain ⟨h1, h2, ⟨zs, h3, h4⟩, h5, h6, h7⟩ := unhide HI
      have hu := Tryd.underlying61
      have hi : (Tryd.prog.info? 61).map (·.size) = some ts.size := by rw [infoM, h1]
      go_wp2_with (first | (refine wpList_load_row rfl 61 (.tmp 3) rfl (w.heap.size + 1 + 1) rfl 61 ts (0, 0) _ h6 hu rfl hi ?_) | (refine wpList_store_row rfl 61 (.tmp 2) (.tmp 16) rfl (w.heap.size + 1) ts rfl rfl 61 zs h4 hi (by rw [h3, h1]) (one_all h1 h2) ?_))
      refine bodyPost_ret (results_cell_row rfl _ _ (w.heap.size + 1) 61 ts (0, 0) _ rfl (heapRow_same h4 ts) hu rfl hi) rfl ?_
      exact ⟨⟨ts, rfl, h1, h2⟩, belowRow h7 (by omega) _⟩
end Go.Proofs.YtpjepndeppckdaaDoor
