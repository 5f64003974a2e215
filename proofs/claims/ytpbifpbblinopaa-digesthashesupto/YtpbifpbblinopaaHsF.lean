/- Of and Cut of the program; a text's digest as bytes. -/
import Derived.Test.YtpbifpbblinopaaHsE
import Derived.Lib.ConvBytes
namespace Go.Proofs.Ytpbifpbblinopaa
open Go.RowKit

set_option maxRecDepth 100000 in
set_option maxHeartbeats 1000000 in
theorem dOf (s : ByteArray) (hs : s.size ≤ 140737488355328) (w : World) : Calls Try.prog 23 #[.string s] w fun e w' => e = .returned (.agg (ofCells s.data.toList)) ∧ Below w.heap.size w w' := by
  obtain ⟨b, hbw⟩ : ∃ b, b = w.heap.size := ⟨_, rfl⟩
  have HBW := hide hbw
  clear hbw
  have hus := Try.underlying38
  have hl := list_size s
  have HT := hide (fun (h : Nat) (u : World) (hh : Hs u h []) => dText h [] s u hh (by simp; omega) hs)
  have HS := hide (fun (h : Nat) (u : World) (hh : Hs u h ([] ++ s.data.toList)) => dSum h _ u hh (by simp; omega))
  clear hl
  go_enter Try.func23, Try.ntmps23
  go_wp2_with (refine wpList_alloc_row (by rfl) 38 (by rfl) (some 2) (by rfl) b (by exact (unhide HBW).symm) Z32 zeroS ?_; intro W1 HR1 HB1 HS1)
  refine (dNew _).mono ?_
  rintro e W2 ⟨h, rfl, hge, hh, hb2⟩
  have HH := hide hh
  have HB2 : Hid (Below b w W2 ∧ W2.heap[b]? = some (.cells Z32 38 (0, 0)) ∧ b + 1 ≤ h ∧ h < W2.heap.size) := by
    have h1 := unhide HS1
    refine ⟨(unhide HB1).trans (hb2.mono (by omega)), (hb2.block b (by omega)).trans (unhide HR1), by omega, hh.lt⟩
  clear hh hge hb2 HR1 HB1 HS1
  go_wp2_with fail
  refine (unhide HT h _ (unhide HH)).mono ?_
  rintro e W3 ⟨rfl, hh, hu⟩
  have HH3 := hide hh
  have HB3 : Hid (Below b w W3 ∧ W3.heap[b]? = some (.cells Z32 38 (0, 0)) ∧ b < W3.heap.size) := by
    have h2 := unhide HB2
    refine ⟨h2.1.trans (hu.toBelow (by omega) (by omega)), (hu.block b (by omega) (by omega)).trans h2.2.1, by have := hu.size; omega⟩
  clear hh hu HH HB2
  go_wp2_with fail
  refine (unhide HS h _ (unhide HH3)).mono ?_
  rintro e W4 ⟨rfl, hb4⟩
  rw [List.nil_append]
  have h4 : W4.heap[b]? = some (.cells Z32 38 (0, 0)) := (hb4.block b (unhide HB3).2.2).trans (unhide HB3).2.1
  have HB4 : Hid (Below b w W4 ∧ b < W4.heap.size) := by
    have h3 := unhide HB3
    exact ⟨h3.1.trans (hb4.mono (by omega)), by have := hb4.size; omega⟩
  clear hb4 HB3 HH3 HT HS
  have hsi := ofCells_info s.data.toList
  go_wp2_with (refine wpList_store_u1 rfl 38 (.tmp 2) (.tmp 9) rfl b (ofCells s.data.toList) rfl rfl 38 Z32 h4 hsi (by rw [ofCells_size]; rfl) (ofCells_one _) ?_; intro W7 HR7 HU7)
  refine bodyPost_ret (results_cell_row rfl _ _ b 38 (ofCells s.data.toList) (0, 0) _ rfl (unhide HR7) hus rfl hsi) rfl ?_
  have hbw := unhide HBW
  refine ⟨rfl, ?_⟩
  rw [← hbw]
  exact (unhide HB4).1.trans ((unhide HU7).toBelow (by have := (unhide HB4).2; omega) (Nat.le_refl _))
theorem sumLen : Try.prog.arrayLen 38 = 32 := by kernel_rfl
theorem sumUnd : Try.prog.underlying 38 = some (.array (Try.prog.arrayLen 38) (Try.prog.elem 38)) := by kernel_rfl
theorem sumSize (W : World) : (sizeOf (Try.prog.elem 38)).run Try.prog W = .ok 1 W := by
  have h : (Try.prog.info? (Try.prog.elem 38)).map (·.size) = some 1 := by kernel_rfl
  cases hq : Try.prog.info? (Try.prog.elem 38) with
  | none => simp [hq] at h
  | some i => simp [sizeOf, typeInfo, hq] at h ⊢; exact h
theorem slSumAll (h : Nat) (W : World) : (Instr.sliceAt 38 (.pointer (some ⟨h, 0, none⟩)) none none none).run Try.prog W = .ok (.slice (some ⟨h, 0, none⟩) 32 32) W := by
  rw [run_sliceAt_array_all W 38 _ sumUnd, sumSize]
  simp only [Result.andThen_ok, slicedAt, sumLen]
  rw [if_neg (by omega), Addr.add_mid]
theorem slSumTo (h n : Nat) (hn : n ≤ 32) (W : World) : (Instr.sliceAt 38 (.pointer (some ⟨h, 0, none⟩)) none (some (.int .i64 (n : Int))) none).run Try.prog W = .ok (.slice (some ⟨h, 0, none⟩) n 32) W := by
  rw [run_sliceAt_array_h W 38 _ sumUnd .i64 n (by omega) (by rw [sumLen]; omega), sumSize]
  simp only [Result.andThen_ok, slicedAt, sumLen, Int.toNat_natCast]
  rw [if_neg (by omega), Addr.add_mid]
  rfl
/-- bytes at the head of a row, as a text -/
theorem conv_front {u : World} {g : Nat} {cells : Array Value} {t : TypeId} (hg : u.heap[g]? = some (.cells cells t (0, 0))) (bs : List UInt8) (n cap : Nat) (hn : bs.length = n) (hc : cells.toList.take n = Lib.byteCells bs) :
    (convert 24 9 (.slice (some ⟨g, 0, none⟩) n cap)).run Try.prog u = .ok (.string ⟨bs.toArray⟩) u := by
  subst hn
  refine run_convert_bytes_back u 24 9 5 ⟨g, 0, none⟩ cap bs Try.underlying24 Try.underlying5 Try.underlying9 fun j hj => ?_
  have e : (⟨g, 0, none⟩ : Addr).add j = ⟨g, j, none⟩ := by rw [Addr.add_mid, Nat.zero_add]
  have h4 : (cells.toList.take bs.length)[j]? = some (.int .u8 (bs[j].toNat : Int)) := by rw [hc, byteCells_at bs j hj]
  rw [List.getElem?_take_of_lt hj, Array.getElem?_toList] at h4
  rw [e]
  simp [World.cell?, hg, h4]
def cutS (s : ByteArray) (n : Nat) : ByteArray := ⟨((Sha.of s.data.toList).take n).toArray⟩
theorem ofCells_take (l : List UInt8) (n : Nat) : (ofCells l).toList.take n = Lib.byteCells ((Sha.of l).take n) := by simp [ofCells, Lib.byteCells, List.map_take]
set_option maxRecDepth 100000 in
set_option maxHeartbeats 1000000 in
theorem dCut (s : ByteArray) (n : Nat) (hs : s.size ≤ 140737488355328) (hn : 1 ≤ n) (hn2 : n ≤ 32) (w : World) : Calls Try.prog 22 #[.string s, .int .i64 (n : Int)] w fun e w' => e = .returned (.tuple #[.string (cutS s n), .int .i64 0]) ∧ Below w.heap.size w w' := by
  have HO := hide (fun u => dOf s hs u)
  have hni : ¬ ((n : Int) < 1) := by omega
  have hni2 : ¬ ((32 : Int) < (n : Int)) := by omega
  have hsi := ofCells_info s.data.toList
  go_enter Try.func22, Try.ntmps22
  go_wp2_with fail
  refine (unhide HO _).mono ?_
  rintro e W1 ⟨rfl, hb1⟩
  have HB1 := hide hb1
  clear hb1
  have hsl := slSumTo W1.heap.size n hn2
  go_wp2_with (first | (refine wpList_alloc_row (by rfl) 38 (by rfl) (some 6) (by rfl) W1.heap.size (by rfl) Z32 zeroS ?_; intro W2 HR2 HB2 HS2) | (refine wpList_store_u1 rfl 38 (.tmp 6) (.tmp 14) rfl W1.heap.size (ofCells s.data.toList) rfl rfl 38 Z32 (unhide HR2) hsi (by rw [ofCells_size]; rfl) (ofCells_one _) ?_; intro W3 HR3 HU3; have hcv := conv_front (unhide HR3) ((Sha.of s.data.toList).take n) n 32 (by rw [List.length_take, Sha.of_length]; omega) (ofCells_take _ _)))
  go_ret2
  exact ⟨rfl, ((unhide HB1).trans ((unhide HB2).mono (unhide HB1).size)).trans ((unhide HU3).toBelow (by have := unhide HS2; have := (unhide HB1).size; omega) (unhide HB1).size)⟩
theorem dCutNo (s : ByteArray) (n : Int) (hn : n < 1 ∨ 32 < n) (w : World) : Calls Try.prog 22 #[.string s, .int .i64 n] w fun e w' => e = .returned (.tuple #[.string ⟨#[]⟩, .int .i64 1]) ∧ w' = w := by
  rcases hn with hn | hn
  · go_enter Try.func22, Try.ntmps22
    go_wp2
    go_ret2
    exact ⟨rfl, rfl⟩
  · have h2 : ¬ n < 1 := by omega
    go_enter Try.func22, Try.ntmps22
    go_wp2
    go_ret2
    exact ⟨rfl, rfl⟩
set_option maxRecDepth 100000 in
set_option maxHeartbeats 1000000 in
theorem lSliced (s : ByteArray) (hs : s.size ≤ 140737488355328) (w : World) : Calls Try.prog 38 #[.string s] w fun e w' => ∃ g, e = .returned (.slice (some ⟨g, 0, none⟩) 32 32) ∧ w'.heap[g]? = some (.cells (ofCells s.data.toList) 38 (0, 0)) ∧ w.heap.size ≤ g ∧ Below w.heap.size w w' := by
  have HO := hide (fun u => dOf s hs u)
  have hsi := ofCells_info s.data.toList
  go_enter Try.func38, Try.ntmps38
  go_wp2_with fail
  refine (unhide HO _).mono ?_
  rintro e W1 ⟨rfl, hb1⟩
  have HB1 := hide hb1
  clear hb1
  have hsl := slSumAll W1.heap.size
  go_wp2_with (first | (refine wpList_alloc_row (by rfl) 38 (by rfl) (some 3) (by rfl) W1.heap.size (by rfl) Z32 zeroS ?_; intro W2 HR2 HB2 HS2) | (refine wpList_store_u1 rfl 38 (.tmp 3) (.tmp 5) rfl W1.heap.size (ofCells s.data.toList) rfl rfl 38 Z32 (unhide HR2) hsi (by rw [ofCells_size]; rfl) (ofCells_one _) ?_; intro W3 HR3 HU3))
  go_ret
  exact ⟨W1.heap.size, rfl, unhide HR3, (unhide HB1).size, ((unhide HB1).trans ((unhide HB2).mono (unhide HB1).size)).trans ((unhide HU3).toBelow (by have := unhide HS2; have := (unhide HB1).size; omega) (unhide HB1).size)⟩
end Go.Proofs.Ytpbifpbblinopaa
