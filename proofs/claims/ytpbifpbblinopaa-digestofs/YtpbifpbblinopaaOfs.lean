/- Cut by the document; the walk of DigestOfs. -/
import Derived.Test.YtpbifpbblinopaaOfM
import Derived.Test.YtpbifpbblinopaaEq
namespace Go.Proofs.Ytpbifpbblinopaa
open Go.RowKit

set_option maxRecDepth 100000 in
set_option maxHeartbeats 1000000 in
theorem mCut (s : ByteArray) (n : Nat) (hs : s.size ≤ 140737488351232) (hn : 1 ≤ n) (hn2 : n ≤ 32) (w : World) : Calls Try.prog 21 #[.string s, .int .i64 (n : Int)] w fun e w' => e = .returned (.tuple #[.string (cutS s n), .int .i64 0]) ∧ Below w.heap.size w w' := by
  have HO := hide (fun u => mOf s hs u)
  have hni : ¬ ((n : Int) < 1) := by omega
  have hni2 : ¬ ((32 : Int) < (n : Int)) := by omega
  have hsi := ofCells_info s.data.toList
  go_enter Try.func21, Try.ntmps21
  go_wp2_with fail
  refine (unhide HO _).mono ?_
  rintro e W1 ⟨rfl, hb1⟩
  have HB1 := hide hb1
  clear hb1
  have hsl := slSumTo W1.heap.size n hn2
  go_wp2_with (first | (refine wpList_alloc_row (by rfl) 38 (by rfl) (some 6) (by rfl) W1.heap.size (by rfl) Z32 zeroS ?_; intro W2 HR2 HB2 HS2) | (refine wpList_store_u1 rfl 38 (.tmp 6) (.tmp 14) rfl W1.heap.size (ofCells s.data.toList) rfl rfl 38 Z32 (unhide HR2) hsi (by rw [ofCells_size]; rfl) (ofCells_one _) ?_; intro W3 HR3 HU3; have hcv := conv_front (unhide HR3) ((Sha.of s.data.toList).take n) n 32 (by rw [List.length_take, Sha.of_length]; omega) (ofCells_take _ _)))
  go_ret2
  exact ⟨rfl, ((unhide HB1).trans ((unhide HB2).mono (unhide HB1).size)).trans ((unhide HU3).toBelow (by have := unhide HS2; have := (unhide HB1).size; omega) (unhide HB1).size)⟩
theorem mCutNo (s : ByteArray) (n : Int) (hn : n < 1 ∨ 32 < n) (w : World) : Calls Try.prog 21 #[.string s, .int .i64 n] w fun e w' => e = .returned (.tuple #[.string ⟨#[]⟩, .int .i64 1]) ∧ w' = w := by
  rcases hn with hn | hn
  · go_enter Try.func21, Try.ntmps21
    go_wp2
    go_ret2
    exact ⟨rfl, rfl⟩
  · have h2 : ¬ n < 1 := by omega
    go_enter Try.func21, Try.ntmps21
    go_wp2
    go_ret2
    exact ⟨rfl, rfl⟩
theorem ofCells_int (l : List UInt8) : ∀ j, j < 32 → ∃ k x, (ofCells l)[j]? = some (.int k x) := fun j hj =>
  ⟨.u8, _, by rw [ofCells, List.getElem?_toArray, byteCells_at _ j (by rw [Sha.of_length]; exact hj)]⟩
/-- what Cut answers, by either -/
def cutR (s : ByteArray) (n : Int) : ByteArray × Int := if 1 ≤ n ∧ n ≤ 32 then (cutS s n.toNat, 0) else (⟨#[]⟩, 1)
theorem dCutR (s : ByteArray) (n : Int) (hs : s.size ≤ 140737488351232) (w : World) : Calls Try.prog 22 #[.string s, .int .i64 n] w fun e w' => e = .returned (.tuple #[.string (cutR s n).1, .int .i64 (cutR s n).2]) ∧ Below w.heap.size w w' := by
  unfold cutR
  by_cases h : 1 ≤ n ∧ n ≤ 32
  · rw [if_pos h]
    obtain ⟨N, rfl⟩ := Int.eq_ofNat_of_zero_le (show 0 ≤ n by omega)
    exact dCut s N (by omega) (by omega) (by omega) w
  · rw [if_neg h]
    refine (dCutNo s n (by omega) w).mono ?_
    rintro e w1 ⟨rfl, rfl⟩
    exact ⟨rfl, Below.refl _ _⟩
theorem mCutR (s : ByteArray) (n : Int) (hs : s.size ≤ 140737488351232) (w : World) : Calls Try.prog 21 #[.string s, .int .i64 n] w fun e w' => e = .returned (.tuple #[.string (cutR s n).1, .int .i64 (cutR s n).2]) ∧ Below w.heap.size w w' := by
  unfold cutR
  by_cases h : 1 ≤ n ∧ n ≤ 32
  · rw [if_pos h]
    obtain ⟨N, rfl⟩ := Int.eq_ofNat_of_zero_le (show 0 ≤ n by omega)
    exact mCut s N hs (by omega) (by omega) w
  · rw [if_neg h]
    refine (mCutNo s n (by omega) w).mono ?_
    rintro e w1 ⟨rfl, rfl⟩
    exact ⟨rfl, Below.refl _ _⟩
set_option maxRecDepth 100000 in
set_option maxHeartbeats 1000000 in
theorem ofs_walk (s : ByteArray) (n : Int) (hs : s.size ≤ 140737488351232) (w : World) :
    Calls Try.prog 5 #[.string s, .int .i64 n] w fun e w' => e = .returned (.bool true) ∧ Below w.heap.size w w' := by
  have H1 := hide (fun u => mCutR s n hs u)
  have H2 := hide (fun u => dCutR s n hs u)
  have H3 := hide (fun u => dOf s (by omega) u)
  have H4 := hide (fun u => mOf s hs u)
  have heq := eqSum (ofCells s.data.toList) (ofCells_int _)
  generalize ofCells s.data.toList = A at *
  generalize cutR s n = R at *
  go_enter Try.func5, Try.ntmps5
  go_wp2_with fail
  refine (unhide H1 _).mono ?_
  rintro e w1 ⟨rfl, hb⟩
  have B1 := hide hb
  clear hb
  go_wp2_with fail
  refine (unhide H2 _).mono ?_
  rintro e w2 ⟨rfl, hb⟩
  have B2 := hide ((unhide B1).trans (hb.mono (unhide B1).size))
  clear hb B1
  go_wp2_with fail
  refine (unhide H3 _).mono ?_
  rintro e w3 ⟨rfl, hb⟩
  have B3 := hide ((unhide B2).trans (hb.mono (unhide B2).size))
  clear hb B2
  go_wp2_with fail
  refine (unhide H4 _).mono ?_
  rintro e w4 ⟨rfl, hb⟩
  have B4 := hide ((unhide B3).trans (hb.mono (unhide B3).size))
  clear hb B3
  go_wp2
  go_ret
  exact ⟨rfl, unhide B4⟩
end Go.Proofs.Ytpbifpbblinopaa
