/- A Hash that is not there; the walk of DigestNames. -/
import Derived.Test.YtpbifpbblinopaaAwk
import Derived.Test.YtpbifpbblinopaaEq
namespace Go.Proofs.Ytpbifpbblinopaa
open Go.RowKit

theorem nWrite (v : Value) (w : World) : Calls Try.prog 27 #[.pointer none, v] w fun e w' => e = .returned (.tuple #[]) ∧ w' = w := by
  go_enter Try.func27, Try.ntmps27
  go_wp2
  go_returns
  exact ⟨rfl, rfl⟩
theorem nReset (w : World) : Calls Try.prog 31 #[.pointer none] w fun e w' => e = .returned (.tuple #[]) ∧ w' = w := by
  go_enter Try.func31, Try.ntmps31
  go_wp2
  go_returns
  exact ⟨rfl, rfl⟩
theorem nLen (w : World) : Calls Try.prog 32 #[.pointer none] w fun e w' => e = .returned (.int .u64 0) ∧ w' = w := by
  go_enter Try.func32, Try.ntmps32
  go_wp2
  go_ret
  exact ⟨rfl, rfl⟩
theorem nCopy (w : World) : Calls Try.prog 30 #[.pointer none] w fun e w' => e = .returned (.pointer none) ∧ w' = w := by
  go_enter Try.func30, Try.ntmps30
  go_wp2
  go_ret
  exact ⟨rfl, rfl⟩
theorem Z32_info : (Try.prog.info? 38).map (·.size) = some Z32.size := infoS
set_option maxRecDepth 100000 in
theorem nSum (w : World) : Calls Try.prog 29 #[.pointer none] w fun e w' => e = .returned (.agg Z32) ∧ Below w.heap.size w w' := by
  have hus := Try.underlying38
  go_enter Try.func29, Try.ntmps29
  go_wp2_with (first | (refine wpList_alloc_row (by rfl) 38 (by rfl) (some 2) (by rfl) w.heap.size (by rfl) Z32 zeroS ?_; intro W1 HR1 HB1 HS1) | (refine wpList_buildTo (by rfl) 38 #[] (by rfl) (some 6) (by rfl) Z32 (by kernel_rfl) ?_) | (refine wpList_store_u1 rfl 38 (.tmp 2) (.tmp 6) rfl w.heap.size Z32 rfl rfl 38 Z32 (unhide HR1) Z32_info rfl (by kernel_rfl) ?_; intro W2 HR2 HU2))
  refine bodyPost_ret (results_cell_row rfl _ _ w.heap.size 38 Z32 (0, 0) _ rfl (unhide HR2) hus rfl Z32_info) rfl ?_
  exact ⟨rfl, (unhide HB1).trans ((unhide HU2).toBelow (by have := unhide HS1; omega) (Nat.le_refl _))⟩
set_option maxRecDepth 100000 in
set_option maxHeartbeats 1000000 in
theorem nText (w : World) : Calls Try.prog 28 #[.pointer none, .string ⟨#[97]⟩] w fun e w' => e = .returned (.tuple #[]) ∧ Below w.heap.size w w' := by
  obtain ⟨b, hbw⟩ : ∃ b, b = w.heap.size := ⟨_, rfl⟩
  have HBW := hide hbw
  clear hbw
  have infoU : (Try.prog.info? 5).map (·.size) = some 1 := by kernel_rfl
  go_enter Try.func28, Try.ntmps28
  go_wp2_with (refine wpList_alloc_row (by rfl) 70 (by rfl) (some 4) (by rfl) b (by exact (unhide HBW).symm) Z512 zeroP ?_; intro W1 HR1 HB1 HS1; simp only [Act.put, List.setIfInBounds_toArray, List.set_cons_zero, List.set_cons_succ])
  go_loopw [1] (fun v wr => ∃ (S : ByteArray), v = .string S ∧ S.size ≤ 1 ∧ Hid ((∃ cur : Array Value, wr.heap[b]? = some (.cells cur 70 (0, 0)) ∧ cur.size = 512) ∧ Below b w wr)) (fun v _ => strLen v)
  case atStart => exact ⟨_, rfl, by decide, hide ⟨⟨Z512, unhide HR1, rfl⟩, unhide HB1⟩⟩
  case round =>
    obtain ⟨S, rfl, hS, HI⟩ := hrel
    clear HR1 HB1 HS1
    by_cases h0 : S.size = 0
    · have h0i : ¬ (0 : Int) < (S.size : Int) := by omega
      go_wp2
      go_returns
      have := (unhide HI).2
      rw [unhide HBW] at this
      exact ⟨rfl, this⟩
    · have h0i : (0 : Int) < (S.size : Int) := by omega
      obtain ⟨n, hn⟩ : ∃ n, n = Nat.min S.size 512 := ⟨_, rfl⟩
      have hn5 : n ≤ 512 := by rw [hn]; exact Nat.min_le_right _ _
      have hnS : n ≤ S.size := by rw [hn]; exact Nat.min_le_left _ _
      have hn0 : 0 < n := by rw [hn]; exact Nat.lt_min.2 ⟨by omega, by omega⟩
      obtain ⟨cur, hrow, hcs⟩ := (unhide HI).1
      have hcp := copy_str (P := Try.prog) wr 24 9 3 5 b 0 512 512 S cur 70 Try.underlying24 infoU hrow (by rw [← hn]; omega)
      rw [← hn] at hcp
      have hlen : (S.data.toList.take n).length = n := by rw [List.length_take, list_size]; omega
      have hrow2 := heapRow_same hrow (splice cur.toList 0 (Lib.byteCells (S.data.toList.take n))).toArray
      have hcs2 : (splice cur.toList 0 (Lib.byteCells (S.data.toList.take n))).toArray.size = 512 := by
        rw [List.size_toArray, splice_len _ _ _ (by rw [byteCells_len, hlen, Array.length_toList]; omega), Array.length_toList, hcs]
      have hbel := belowRow (unhide HI).2 (Nat.le_refl _) (splice cur.toList 0 (Lib.byteCells (S.data.toList.take n))).toArray
      have HE : Hid ((∃ c2 : Array Value, (wr.setRow b (splice cur.toList 0 (Lib.byteCells (S.data.toList.take n))).toArray).heap[b]? = some (.cells c2 70 (0, 0)) ∧ c2.size = 512) ∧ Below b w (wr.setRow b (splice cur.toList 0 (Lib.byteCells (S.data.toList.take n))).toArray)) := ⟨⟨_, hrow2, hcs2⟩, hbel⟩
      have hsa := sl512all b 0
      have hst := sl512to b 0 n hn5
      have hni : (n : Int) ≤ (S.size : Int) := by omega
      have e2 : (S.extract n S.size).size = S.size - n := by rw [← list_size, extract_drop, List.length_drop, list_size]
      have HEX := hide e2
      clear e2
      clear hrow hrow2 hcs hcs2 hlen hn hbel
      generalize wr.setRow b (splice cur.toList 0 (Lib.byteCells (S.data.toList.take n))).toArray = W2 at *
      go_wp2_with fail
      refine (nWrite _ _).mono ?_
      rintro e W3 ⟨rfl, rfl⟩
      go_wp2
      generalize S.extract n S.size = S2 at *
      exact ⟨⟨S2, rfl, by have := unhide HEX; omega, hide (unhide HE)⟩, by simp only [strLen]; have := unhide HEX; omega⟩
def hexT : ByteArray := ⟨#[98, 97, 55, 56, 49, 54, 98, 102]⟩
theorem from_hexT : fromR (ch hexT) hexT.size = ([186, 120, 22, 191], 0) := by decide +kernel
theorem cut_abc : cutS abcS 4 = ⟨#[186, 120, 22, 191]⟩ := by
  show (⟨((Sha.of [97, 98, 99]).take 4).toArray⟩ : ByteArray) = _
  rw [Sha.of_abc]
  rfl
set_option maxRecDepth 100000 in
set_option maxHeartbeats 1000000 in
theorem names_walk (w : World) : Calls Try.prog 8 #[] w fun e w' => e = .returned (.bool true) ∧ Below w.heap.size w w' := by
  have HC := hide (fun u => dCut abcS 4 (by decide) (by decide) (by decide) u)
  have HF := hide (fun u => dFromHex hexT u (by decide))
  rw [cut_abc] at HC
  rw [from_hexT] at HF
  go_enter Try.func8, Try.ntmps8
  go_wp2_with fail
  refine (nWrite _ _).mono ?_
  rintro e w1 ⟨rfl, rfl⟩
  go_wp2_with fail
  refine (nText _).mono ?_
  rintro e w2 ⟨rfl, hb⟩
  have HB : Hid (Below w.heap.size w w2) := ((Below.refl _ _).alloc (Nat.le_refl _) _).trans (hb.mono (by simp))
  clear hb
  go_wp2_with fail
  refine (nReset _).mono ?_
  rintro e w3 ⟨rfl, rfl⟩
  go_wp2_with fail
  refine (nSum _).mono ?_
  rintro e w4 ⟨rfl, hb⟩
  have HB4 := hide ((unhide HB).trans (hb.mono (unhide HB).size))
  clear hb HB
  have heq := eqSum Z32 (fun j hj => ⟨.u8, 0, by rw [Z32, List.getElem?_toArray, List.getElem?_replicate, if_pos hj]⟩)
  go_wp2_with (refine wpList_buildTo (by rfl) 38 #[] (by rfl) (some 15) (by rfl) Z32 (by kernel_rfl) ?_)
  refine (nLen _).mono ?_
  rintro e w5 ⟨rfl, rfl⟩
  go_wp2_with fail
  refine (nCopy _).mono ?_
  rintro e w6 ⟨rfl, rfl⟩
  clear heq
  go_wp2_with fail
  refine (unhide HC _).mono ?_
  rintro e w7 ⟨rfl, hb⟩
  have HB7 := hide ((unhide HB4).trans (hb.mono (unhide HB4).size))
  clear hb HB4
  go_wp2_with fail
  refine (unhide HF _).mono ?_
  rintro e w8 ⟨rfl, hb⟩
  have HB8 := hide ((unhide HB7).trans (hb.mono (unhide HB7).size))
  clear hb HB7
  go_wp2
  go_ret
  exact ⟨rfl, unhide HB8⟩
end Go.Proofs.Ytpbifpbblinopaa
