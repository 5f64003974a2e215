/- Len, Copy, Reset of a Hash; a state's words as bytes. -/
import Derived.Test.YtpbifpbblinopaaHsB
namespace Go.Proofs.Ytpbifpbblinopaa
open Go.RowKit

theorem dLen (h : Nat) (l : List UInt8) (w : World) (hh : Hs w h l) : Calls Try.prog 32 #[.pointer (some ⟨h, 0, none⟩)] w fun e w' => e = .returned (.int .u64 (l.length : Int)) ∧ w' = w := by
  obtain ⟨lf, ha, _⟩ := hh.at'
  have hc := ha.cnt
  clear ha hh
  go_enter Try.func32, Try.ntmps32
  go_wp2
  go_ret
  exact ⟨rfl, rfl⟩
theorem undH : ∃ fs, Try.prog.underlying 69 = some (.struct fs) := ⟨_, Try.underlying69⟩
set_option maxRecDepth 100000 in
set_option maxHeartbeats 400000 in
theorem dCopy (h : Nat) (l : List UInt8) (w : World) (hh : Hs w h l) : Calls Try.prog 30 #[.pointer (some ⟨h, 0, none⟩)] w fun e w' => ∃ b, e = .returned (.pointer (some ⟨b, 0, none⟩)) ∧ w.heap.size ≤ b ∧ Hs w' b l ∧ Below w.heap.size w w' := by
  obtain ⟨lf, ha, ht⟩ := hh.at'
  have HA0 := hide ha
  have HT := hide ht
  have hsz : (HC (Sha.absorb l) lf l.length).toArray.size = 73 := by rw [List.size_toArray, HC_len, ha.len]
  have hone : (HC (Sha.absorb l) lf l.length).toArray.all (·.oneCell') = true := by
    refine all_oneCell_toArray fun v hv => ?_
    simp only [HC, List.mem_append, List.mem_singleton] at hv
    rcases hv with hv | hv | rfl
    · simp [St8] at hv; rcases hv with rfl | rfl | rfl | rfl | rfl | rfl | rfl | rfl <;> rfl
    · exact byteCells_one lf v hv
    · rfl
  have hi : (Try.prog.info? 69).map (·.size) = some (HC (Sha.absorb l) lf l.length).toArray.size := by rw [hsz, infoH]
  have hz : Z73.size = (HC (Sha.absorb l) lf l.length).toArray.size := by rw [hsz]; rfl
  have hrow := ha.row
  obtain ⟨fs, hu⟩ := undH
  clear ha ht hh
  generalize hcs : (HC (Sha.absorb l) lf l.length).toArray = cs at *
  have HCS := hide hcs
  have HROW := hide hrow
  have HU := hide hu
  clear hrow hu hsz hcs
  go_enter Try.func30, Try.ntmps30
  go_wp2_with (first | (refine wpList_load_row rfl 69 (.tmp 7) rfl h rfl 69 cs (0, 0) _ (unhide HROW) (unhide HU) rfl hi ?_) | (refine wpList_alloc_row (by rfl) 69 (by rfl) (some 3) (by rfl) w.heap.size (by rfl) Z73 zeroH ?_; intro W1 HR1 HB1 HS1) | (refine wpList_store_u1 rfl 69 (.tmp 3) (.tmp 8) rfl w.heap.size cs rfl rfl 69 Z73 (unhide HR1) hi hz hone ?_; intro W2 HR2 HU2))
  go_ret
  refine ⟨w.heap.size, rfl, Nat.le_refl _, ⟨lf, ⟨?_, (unhide HA0).len⟩, unhide HT⟩, ?_⟩
  · rw [unhide HCS]; exact unhide HR2
  · exact (unhide HB1).trans ((unhide HU2).toBelow (by have := unhide HS1; omega) (Nat.le_refl _))
set_option maxRecDepth 100000 in
set_option maxHeartbeats 400000 in
theorem dReset (h : Nat) (l : List UInt8) (w : World) (hh : Hs w h l) : Calls Try.prog 31 #[.pointer (some ⟨h, 0, none⟩)] w fun e w' => e = .returned (.tuple #[]) ∧ Hs w' h [] ∧ U1 w w' h := by
  obtain ⟨lf, ha, ht⟩ := hh.at'
  have HA0 := hide ha
  have hsz : (HC (Sha.absorb l) lf l.length).toArray.size = 73 := by rw [List.size_toArray, HC_len, ha.len]
  clear ht ha hh
  go_enter Try.func31, Try.ntmps31
  go_wp2_with fail
  refine (dStart _).mono ?_
  rintro e w1 ⟨rfl, hb⟩
  have HB := hide hb
  have HR := hide ((unhide HA0).below hb).row
  clear hb
  go_wp2_with (first | (refine wpList_buildTo (by rfl) 69 #[(0, .tmp 5)] (by rfl) (some 6) (by rfl) (HC Sha.start (List.replicate 64 0) 0).toArray (by kernel_rfl) ?_) | (refine wpList_store_u1 rfl 69 (.tmp 7) (.tmp 6) rfl h (HC Sha.start (List.replicate 64 0) 0).toArray rfl rfl 69 _ (unhide HR) infoH hsz (by kernel_rfl) ?_; intro W2 HR2 HU2))
  go_returns
  exact ⟨rfl, Hs.of_start (unhide HR2), (U1.below' (unhide HB)).trans (unhide HU2)⟩
/-- the byte i of what is told of a state -/
def toldB (s : Sha.St) (i : Nat) : Nat := fld s (i / 4) / 2 ^ (24 - i % 4 * 8) % 256
theorem toldB_at (s : Sha.St) (i : Nat) (hi : i < 32) : (Lib.byteCells (Sha.told s))[i]? = some (.int .u8 (toldB s i : Nat)) := by
  match i, hi with
  | 0, _ => rfl
  | 1, _ => rfl
  | 2, _ => rfl
  | 3, _ => rw [show toldB s 3 = s.a % 256 from congrArg (· % 256) (Nat.div_one s.a)]; rfl
  | 4, _ => rfl
  | 5, _ => rfl
  | 6, _ => rfl
  | 7, _ => rw [show toldB s 7 = s.b % 256 from congrArg (· % 256) (Nat.div_one s.b)]; rfl
  | 8, _ => rfl
  | 9, _ => rfl
  | 10, _ => rfl
  | 11, _ => rw [show toldB s 11 = s.c % 256 from congrArg (· % 256) (Nat.div_one s.c)]; rfl
  | 12, _ => rfl
  | 13, _ => rfl
  | 14, _ => rfl
  | 15, _ => rw [show toldB s 15 = s.d % 256 from congrArg (· % 256) (Nat.div_one s.d)]; rfl
  | 16, _ => rfl
  | 17, _ => rfl
  | 18, _ => rfl
  | 19, _ => rw [show toldB s 19 = s.e % 256 from congrArg (· % 256) (Nat.div_one s.e)]; rfl
  | 20, _ => rfl
  | 21, _ => rfl
  | 22, _ => rfl
  | 23, _ => rw [show toldB s 23 = s.f % 256 from congrArg (· % 256) (Nat.div_one s.f)]; rfl
  | 24, _ => rfl
  | 25, _ => rfl
  | 26, _ => rfl
  | 27, _ => rw [show toldB s 27 = s.g % 256 from congrArg (· % 256) (Nat.div_one s.g)]; rfl
  | 28, _ => rfl
  | 29, _ => rfl
  | 30, _ => rfl
  | 31, _ => rw [show toldB s 31 = s.h % 256 from congrArg (· % 256) (Nat.div_one s.h)]; rfl
  | n + 32, h => exact absurd h (by omega)
/-- a row of 32 bytes, the first k of them told -/
structure T32 (s : Sha.St) (wr : World) (g k : Nat) : Prop where
  row : ∃ cur : Array Value, wr.heap[g]? = some (.cells cur 38 (0, 0)) ∧ cur.size = 32 ∧ ∀ j, j < k → cur[j]? = some (.int .u8 (toldB s j : Nat))
theorem T32.whole {s : Sha.St} {wr : World} {g : Nat} (h : T32 s wr g 32) : wr.heap[g]? = some (.cells (Lib.byteCells (Sha.told s)).toArray 38 (0, 0)) := by
  obtain ⟨cur, h1, h2, h3⟩ := h.row
  rw [h1]
  congr 2
  apply Array.ext_getElem?
  intro i
  by_cases hi : i < 32
  · rw [h3 i hi, List.getElem?_toArray, toldB_at s i hi]
  · rw [Array.getElem?_eq_none (by omega), Array.getElem?_eq_none (by show 32 ≤ i; omega)]
theorem T32.cell {s : Sha.St} {wr : World} {g k : Nat} (h : T32 s wr g k) (j : Nat) (hj : j < 32) : (∃ v, wr.cell? ⟨g, j, none⟩ = some v) ∧ wr.frozen? ⟨g, j, none⟩ = false := by
  obtain ⟨cur, h1, h2, h3⟩ := h.row
  have : j < cur.size := by omega
  exact ⟨⟨cur[j], by simp [World.cell?, h1, this]⟩, by simp [World.frozen?, h1]⟩
theorem T32.next {s : Sha.St} {wr : World} {g k : Nat} (h : T32 s wr g k) (hk : k < 32) (v : Value) (hv : v = .int .u8 (toldB s k : Nat)) : T32 s (wr.setCell ⟨g, k, none⟩ v) g (k + 1) := by
  obtain ⟨cur, h1, h2, h3⟩ := h.row
  refine ⟨_, heapCell_same h1 _ _, by simpa using h2, fun j hj => ?_⟩
  rw [Array.getElem?_setIfInBounds]
  by_cases hjk : k = j
  · subst hjk; rw [if_pos rfl, if_pos (by omega), hv]
  · rw [if_neg hjk]; exact h3 j (by omega)
theorem T32.keep {s : Sha.St} {u u' : World} {g k : Nat} (h : T32 s u g k) (e : u'.heap[g]? = u.heap[g]?) : T32 s u' g k := by
  obtain ⟨cur, h1, h2⟩ := h.row
  exact ⟨cur, e.trans h1, h2⟩
theorem sumOne (s : Sha.St) : (Lib.byteCells (Sha.told s)).toArray.all (·.oneCell') = true := all_oneCell_toArray (byteCells_one _)
set_option maxRecDepth 100000 in
set_option maxHeartbeats 1000000 in
theorem dTold (s : Sha.St) (hs : Ok s) (w : World) : Calls Try.prog 42 #[.agg (St8 s)] w fun e w' => e = .returned (.agg (Lib.byteCells (Sha.told s)).toArray) ∧ Below w.heap.size w w' := by
  have HS := hide hs
  clear hs
  have hu := Try.underlying38
  obtain ⟨b, hb⟩ : ∃ b, b = w.heap.size := ⟨_, rfl⟩
  have HBW := hide hb
  clear hb
  go_enter Try.func42, Try.ntmps42
  go_wp2_with (first | (refine wpList_box_row (by rfl) 23 (.tmp 0) (by rfl) (some 1) (by rfl) b (by exact (unhide HBW).symm) (St8 s) (by rfl) ?_; intro W1 HR1 HB1 HS1) | (refine wpList_alloc_row (by rfl) 38 (by rfl) (some 2) (by rfl) (b + 1) (by exact unhide HS1) Z32 zeroS ?_; intro W2 HR2 HB2 HS2) | (refine wpList_alloc_row (by rfl) 38 (by rfl) (some 3) (by rfl) (b + 1 + 1) (by exact unhide HS2) Z32 zeroS ?_; intro W3 HR3 HB3 HS3))
  have HB : Hid (Below b w W3 ∧ W3.heap[b]? = some (.cells (St8 s) 23 (0, 0)) ∧ W3.heap[b + 1]? = some (.cells Z32 38 (0, 0)) ∧ T32 s W3 (b + 1 + 1) 0) := by
    have h1 := unhide HB1
    have h2 := unhide HB2
    have h3 := unhide HB3
    have hbw := unhide HBW
    have hs1 := unhide HS1
    have hs2 := unhide HS2
    refine ⟨(h1.trans (h2.mono (by omega))).trans (h3.mono (by omega)), ?_, ?_, ⟨Z32, unhide HR3, rfl, fun j hj => absurd hj (Nat.not_lt_zero _)⟩⟩
    · rw [h3.block b (by omega), h2.block b (by omega)]; exact unhide HR1
    · rw [h3.block (b + 1) (by omega)]; exact unhide HR2
  clear HR1 HB1 HS1 HR2 HB2 HS2 HR3 HB3 HS3
  go_loopw [5] (fun v wr => ∃ k : Nat, k ≤ 32 ∧ v = .int .i64 k ∧ Hid (Below b w wr ∧ wr.heap[b]? = some (.cells (St8 s) 23 (0, 0)) ∧ wr.heap[b + 1]? = some (.cells Z32 38 (0, 0)) ∧ T32 s wr (b + 1 + 1) k)) (fun v _ => 32 - (intOf v).toNat)
  case atStart => exact ⟨0, by omega, rfl, HB⟩
  case round =>
    clear HB
    obtain ⟨k, hk, rfl, HI⟩ := hrel
    by_cases hlt : k < 32
    · have hki : (k : Int) < 32 := by omega
      obtain ⟨q, hq⟩ : ∃ q : Nat, q = k / 4 := ⟨_, rfl⟩
      obtain ⟨r, hr⟩ : ∃ r : Nat, r = k % 4 := ⟨_, rfl⟩
      have hq1 : (k : Int) / 4 = (q : Int) := by omega
      have hq8 : (q : Int) < 8 := by omega
      have hc : wr.cell? ⟨b, q, none⟩ = some (.int .u32 (fld s q : Nat)) := by simp only [World.cell?, (unhide HI).2.1]; exact St8_at s q (by omega)
      obtain ⟨⟨v0, hc2⟩, hfz⟩ := (unhide HI).2.2.2.cell k hlt
      have hfl := fld_lt (unhide HS) q
      have HN : Hid (∀ v, v = .int .u8 (toldB s k : Nat) → Below b w (wr.setCell ⟨b + 1 + 1, k, none⟩ v) ∧ (wr.setCell ⟨b + 1 + 1, k, none⟩ v).heap[b]? = some (.cells (St8 s) 23 (0, 0)) ∧ (wr.setCell ⟨b + 1 + 1, k, none⟩ v).heap[b + 1]? = some (.cells Z32 38 (0, 0)) ∧ T32 s (wr.setCell ⟨b + 1 + 1, k, none⟩ v) (b + 1 + 1) (k + 1)) := by
        intro v hv
        have hI := unhide HI
        refine ⟨belowCell hI.1 (by show b ≤ b + 1 + 1; omega) _, ?_, ?_, hI.2.2.2.next hlt v hv⟩
        · rw [Deep.blk_setCell_other _ _ _ _ (by show b ≠ b + 1 + 1; omega)]; exact hI.2.1
        · rw [Deep.blk_setCell_other _ _ _ _ (by show b + 1 ≠ b + 1 + 1; omega)]; exact hI.2.2.1
      have HT : Hid (toldB s k = fld s q / 2 ^ (24 - r * 8) % 256) := by unfold toldB; rw [← hq, ← hr]; exact hide rfl
      have hr4 : r < 4 := by omega
      generalize fld s q = x at *
      clear HI hq
      have hcase : r = 0 ∨ r = 1 ∨ r = 2 ∨ r = 3 := by omega
      rcases hcase with rfl | rfl | rfl | rfl
      · have hr1 : (k : Int) % 4 = 0 := by omega
        have HT0 : Hid (toldB s k = x / 16777216 % 256) := unhide HT
        clear hr hr4 HT
        go_wp2
        exact ⟨⟨k + 1, by omega, by go_num, hide (unhide HN _ (by rw [unhide HT0]; congr 1 <;> omega))⟩, by simp [intOf]; omega⟩
      · have hr1 : (k : Int) % 4 = 1 := by omega
        have HT0 : Hid (toldB s k = x / 65536 % 256) := unhide HT
        clear hr hr4 HT
        go_wp2
        exact ⟨⟨k + 1, by omega, by go_num, hide (unhide HN _ (by rw [unhide HT0]; congr 1 <;> omega))⟩, by simp [intOf]; omega⟩
      · have hr1 : (k : Int) % 4 = 2 := by omega
        have HT0 : Hid (toldB s k = x / 256 % 256) := unhide HT
        clear hr hr4 HT
        go_wp2
        exact ⟨⟨k + 1, by omega, by go_num, hide (unhide HN _ (by rw [unhide HT0]; congr 1 <;> omega))⟩, by simp [intOf]; omega⟩
      · have hr1 : (k : Int) % 4 = 3 := by omega
        have HT0 : Hid (toldB s k = x / 1 % 256) := unhide HT
        clear hr hr4 HT
        go_wp2
        exact ⟨⟨k + 1, by omega, by go_num, hide (unhide HN _ (by rw [unhide HT0]; congr 1 <;> omega))⟩, by simp [intOf]; omega⟩
    · have hkk : k = 32 := by omega
      subst hkk
      have h1 := (unhide HI).2.2.2.whole
      have h2 := (unhide HI).2.2.1
      have hsi : (Try.prog.info? 38).map (·.size) = some (Lib.byteCells (Sha.told s)).toArray.size := infoS
      go_wp2_with (first | (refine wpList_load_row rfl 38 (.tmp 3) rfl (b + 1 + 1) rfl 38 (Lib.byteCells (Sha.told s)).toArray (0, 0) _ h1 hu rfl hsi ?_) | (refine wpList_store_u1 rfl 38 (.tmp 2) (.tmp 21) rfl (b + 1) (Lib.byteCells (Sha.told s)).toArray rfl rfl 38 Z32 h2 hsi rfl (sumOne s) ?_; intro W4 HR4 HU4))
      refine bodyPost_ret (results_cell_row rfl _ _ (b + 1) 38 (Lib.byteCells (Sha.told s)).toArray (0, 0) _ rfl (unhide HR4) hu rfl hsi) rfl ?_
      have hbw := unhide HBW
      refine ⟨rfl, ?_⟩
      rw [← hbw]
      exact (unhide HI).1.trans ((unhide HU4).toBelow (by have := (unhide HI).1.size; omega) (by omega))
end Go.Proofs.Ytpbifpbblinopaa
