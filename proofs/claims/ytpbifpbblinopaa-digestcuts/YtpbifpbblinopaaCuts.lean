/- The walk of DigestCuts. -/
import Derived.Test.YtpbifpbblinopaaAwk
namespace Go.Proofs.Ytpbifpbblinopaa
open Go.RowKit

theorem cutS_size (s : ByteArray) (n : Nat) (hn : n ≤ 32) : (cutS s n).size = n := by
  rw [← list_size]
  show (((Sha.of s.data.toList).take n).toArray.toList).length = n
  rw [List.toList_toArray, List.length_take, Sha.of_length]
  omega
theorem cutS_front (s : ByteArray) (n m : Nat) (h : n ≤ m) : (cutS s m).extract 0 n = cutS s n := by
  have e : ((cutS s m).extract 0 n).data = (cutS s n).data := by
    rw [ByteArray.data_extract]
    apply Array.toList_inj.1
    rw [Array.toList_extract, List.extract]
    show List.take (n - 0) (List.drop 0 ((Sha.of s.data.toList).take m).toArray.toList) = ((Sha.of s.data.toList).take n).toArray.toList
    rw [List.toList_toArray, List.toList_toArray, List.drop_zero, Nat.sub_zero, List.take_take, Nat.min_eq_left h]
  exact congrArg ByteArray.mk e
set_option maxRecDepth 100000 in
set_option maxHeartbeats 1000000 in
theorem cuts_in (s : ByteArray) (n m : Nat) (hs : s.size ≤ 140737488355328) (hn : 1 ≤ n) (hn2 : n ≤ 32) (hm : 1 ≤ m) (hm2 : m ≤ 32) (w : World) :
    Calls Try.prog 10 #[.string s, .int .i64 (n : Int), .int .i64 (m : Int)] w fun e w' => e = .returned (.bool true) ∧ Below w.heap.size w w' := by
  have H1 := hide (fun u => dCut s n hs hn hn2 u)
  have H2 := hide (fun u => dCut s m hs hm hm2 u)
  have H3 := hide (fun u => lSliced s hs u)
  have hsn := cutS_size s n hn2
  have hsm := cutS_size s m hm2
  have HF := hide (cutS_front s n m)
  have HA : Hid (cutS s n = ⟨((Sha.of s.data.toList).take n).toArray⟩) := rfl
  have n1 : (1 : Int) ≤ (n : Int) := by omega
  have n2 : (n : Int) ≤ 32 := by omega
  have m1 : (1 : Int) ≤ (m : Int) := by omega
  have m2 : (m : Int) ≤ 32 := by omega
  clear hm hm2 hn hs
  generalize cutS s n = A at *
  generalize cutS s m = B at *
  go_enter Try.func10, Try.ntmps10
  go_wp2_with fail
  refine (lAwake _).mono ?_
  rintro e w1 ⟨rfl, hb⟩
  have B1 := hide hb
  clear hb
  go_wp2_with fail
  refine (unhide H1 _).mono ?_
  rintro e w2 ⟨rfl, hb⟩
  have B2 := hide ((unhide B1).trans (hb.mono (unhide B1).size))
  clear hb B1
  go_wp2_with fail
  refine (unhide H2 _).mono ?_
  rintro e w3 ⟨rfl, hb⟩
  have B3 := hide ((unhide B2).trans (hb.mono (unhide B2).size))
  clear hb B2
  go_wp2_with fail
  refine (unhide H3 _).mono ?_
  rintro e w4 ⟨g, rfl, hrow, hg, hb⟩
  have B4 := hide ((unhide B3).trans (hb.mono (unhide B3).size))
  have hct := cutTo g 0 32 32 n hn2 (by decide)
  have hcv := conv_front hrow ((Sha.of s.data.toList).take n) n 32 (by rw [List.length_take, Sha.of_length]; omega) (ofCells_take _ _)
  rw [← show A = ⟨((Sha.of s.data.toList).take n).toArray⟩ from unhide HA] at hcv
  clear hb hrow hg B3
  by_cases hlt : n ≤ m
  · have hx := unhide HF hlt
    have hnm : ¬ ((m : Int) < (n : Int)) := by omega
    go_wp2
    go_ret
    exact ⟨rfl, unhide B4⟩
  · have hnm : ((m : Int) < (n : Int)) := by omega
    go_wp2
    go_ret
    exact ⟨rfl, unhide B4⟩
set_option maxRecDepth 100000 in
set_option maxHeartbeats 1000000 in
theorem cuts_in_lo (s : ByteArray) (hs : s.size ≤ 140737488355328) (n : Nat) (hn : 1 ≤ n) (hn2 : n ≤ 32) (m : Int) (hm : m < 1) (w : World) :
    Calls Try.prog 10 #[.string s, .int .i64 (n : Int), .int .i64 m] w fun e w' => e = .returned (.bool true) ∧ Below w.heap.size w w' := by
  have H1 := hide (fun u => dCut s n hs hn hn2 u)
  have n1 : (1 : Int) ≤ (n : Int) := by omega
  have n2 : (n : Int) ≤ 32 := by omega
  generalize cutS s n = A at *
  have H2 := hide (fun u => dCutNo s m (by omega) u)
  go_enter Try.func10, Try.ntmps10
  go_wp2_with fail
  refine (lAwake _).mono ?_
  rintro e w1 ⟨rfl, hb⟩
  have B1 := hide hb
  clear hb
  go_wp2_with fail
  refine (unhide H1 _).mono ?_
  rintro e w2 ⟨rfl, hb⟩
  have B2 := hide ((unhide B1).trans (hb.mono (unhide B1).size))
  clear hb B1
  go_wp2_with fail
  refine (unhide H2 _).mono ?_
  rintro e w3 ⟨rfl, rfl⟩
  have B3 := hide (unhide B2)
  clear B2
  go_wp2
  go_ret
  exact ⟨rfl, unhide B3⟩
set_option maxRecDepth 100000 in
set_option maxHeartbeats 1000000 in
theorem cuts_in_hi (s : ByteArray) (hs : s.size ≤ 140737488355328) (n : Nat) (hn : 1 ≤ n) (hn2 : n ≤ 32) (m : Int) (hm : 32 < m) (w : World) :
    Calls Try.prog 10 #[.string s, .int .i64 (n : Int), .int .i64 m] w fun e w' => e = .returned (.bool true) ∧ Below w.heap.size w w' := by
  have H1 := hide (fun u => dCut s n hs hn hn2 u)
  have n1 : (1 : Int) ≤ (n : Int) := by omega
  have n2 : (n : Int) ≤ 32 := by omega
  generalize cutS s n = A at *
  have H2 := hide (fun u => dCutNo s m (by omega) u)
  have m1 : (1 : Int) ≤ m := by omega
  go_enter Try.func10, Try.ntmps10
  go_wp2_with fail
  refine (lAwake _).mono ?_
  rintro e w1 ⟨rfl, hb⟩
  have B1 := hide hb
  clear hb
  go_wp2_with fail
  refine (unhide H1 _).mono ?_
  rintro e w2 ⟨rfl, hb⟩
  have B2 := hide ((unhide B1).trans (hb.mono (unhide B1).size))
  clear hb B1
  go_wp2_with fail
  refine (unhide H2 _).mono ?_
  rintro e w3 ⟨rfl, rfl⟩
  have B3 := hide (unhide B2)
  clear B2
  go_wp2
  go_ret
  exact ⟨rfl, unhide B3⟩
set_option maxRecDepth 100000 in
set_option maxHeartbeats 1000000 in
theorem cuts_lo_in (s : ByteArray) (hs : s.size ≤ 140737488355328) (n : Int) (hn : n < 1) (m : Nat) (hm : 1 ≤ m) (hm2 : m ≤ 32) (w : World) :
    Calls Try.prog 10 #[.string s, .int .i64 n, .int .i64 (m : Int)] w fun e w' => e = .returned (.bool true) ∧ Below w.heap.size w w' := by
  have H1 := hide (fun u => dCutNo s n (by omega) u)
  have H2 := hide (fun u => dCut s m hs hm hm2 u)
  have m1 : (1 : Int) ≤ (m : Int) := by omega
  have m2 : (m : Int) ≤ 32 := by omega
  generalize cutS s m = B at *
  go_enter Try.func10, Try.ntmps10
  go_wp2_with fail
  refine (lAwake _).mono ?_
  rintro e w1 ⟨rfl, hb⟩
  have B1 := hide hb
  clear hb
  go_wp2_with fail
  refine (unhide H1 _).mono ?_
  rintro e w2 ⟨rfl, rfl⟩
  have B2 := hide (unhide B1)
  clear B1
  go_wp2_with fail
  refine (unhide H2 _).mono ?_
  rintro e w3 ⟨rfl, hb⟩
  have B3 := hide ((unhide B2).trans (hb.mono (unhide B2).size))
  clear hb B2
  go_wp2
  go_ret
  exact ⟨rfl, unhide B3⟩
set_option maxRecDepth 100000 in
set_option maxHeartbeats 1000000 in
theorem cuts_lo_lo (s : ByteArray) (n : Int) (hn : n < 1) (m : Int) (hm : m < 1) (w : World) :
    Calls Try.prog 10 #[.string s, .int .i64 n, .int .i64 m] w fun e w' => e = .returned (.bool true) ∧ Below w.heap.size w w' := by
  have H1 := hide (fun u => dCutNo s n (by omega) u)
  have H2 := hide (fun u => dCutNo s m (by omega) u)
  go_enter Try.func10, Try.ntmps10
  go_wp2_with fail
  refine (lAwake _).mono ?_
  rintro e w1 ⟨rfl, hb⟩
  have B1 := hide hb
  clear hb
  go_wp2_with fail
  refine (unhide H1 _).mono ?_
  rintro e w2 ⟨rfl, rfl⟩
  have B2 := hide (unhide B1)
  clear B1
  go_wp2_with fail
  refine (unhide H2 _).mono ?_
  rintro e w3 ⟨rfl, rfl⟩
  have B3 := hide (unhide B2)
  clear B2
  go_wp2
  go_ret
  exact ⟨rfl, unhide B3⟩
set_option maxRecDepth 100000 in
set_option maxHeartbeats 1000000 in
theorem cuts_lo_hi (s : ByteArray) (n : Int) (hn : n < 1) (m : Int) (hm : 32 < m) (w : World) :
    Calls Try.prog 10 #[.string s, .int .i64 n, .int .i64 m] w fun e w' => e = .returned (.bool true) ∧ Below w.heap.size w w' := by
  have H1 := hide (fun u => dCutNo s n (by omega) u)
  have H2 := hide (fun u => dCutNo s m (by omega) u)
  have m1 : (1 : Int) ≤ m := by omega
  go_enter Try.func10, Try.ntmps10
  go_wp2_with fail
  refine (lAwake _).mono ?_
  rintro e w1 ⟨rfl, hb⟩
  have B1 := hide hb
  clear hb
  go_wp2_with fail
  refine (unhide H1 _).mono ?_
  rintro e w2 ⟨rfl, rfl⟩
  have B2 := hide (unhide B1)
  clear B1
  go_wp2_with fail
  refine (unhide H2 _).mono ?_
  rintro e w3 ⟨rfl, rfl⟩
  have B3 := hide (unhide B2)
  clear B2
  go_wp2
  go_ret
  exact ⟨rfl, unhide B3⟩
set_option maxRecDepth 100000 in
set_option maxHeartbeats 1000000 in
theorem cuts_hi_in (s : ByteArray) (hs : s.size ≤ 140737488355328) (n : Int) (hn : 32 < n) (m : Nat) (hm : 1 ≤ m) (hm2 : m ≤ 32) (w : World) :
    Calls Try.prog 10 #[.string s, .int .i64 n, .int .i64 (m : Int)] w fun e w' => e = .returned (.bool true) ∧ Below w.heap.size w w' := by
  have H1 := hide (fun u => dCutNo s n (by omega) u)
  have n1 : (1 : Int) ≤ n := by omega
  have H2 := hide (fun u => dCut s m hs hm hm2 u)
  have m1 : (1 : Int) ≤ (m : Int) := by omega
  have m2 : (m : Int) ≤ 32 := by omega
  generalize cutS s m = B at *
  go_enter Try.func10, Try.ntmps10
  go_wp2_with fail
  refine (lAwake _).mono ?_
  rintro e w1 ⟨rfl, hb⟩
  have B1 := hide hb
  clear hb
  go_wp2_with fail
  refine (unhide H1 _).mono ?_
  rintro e w2 ⟨rfl, rfl⟩
  have B2 := hide (unhide B1)
  clear B1
  go_wp2_with fail
  refine (unhide H2 _).mono ?_
  rintro e w3 ⟨rfl, hb⟩
  have B3 := hide ((unhide B2).trans (hb.mono (unhide B2).size))
  clear hb B2
  go_wp2
  go_ret
  exact ⟨rfl, unhide B3⟩
set_option maxRecDepth 100000 in
set_option maxHeartbeats 1000000 in
theorem cuts_hi_lo (s : ByteArray) (n : Int) (hn : 32 < n) (m : Int) (hm : m < 1) (w : World) :
    Calls Try.prog 10 #[.string s, .int .i64 n, .int .i64 m] w fun e w' => e = .returned (.bool true) ∧ Below w.heap.size w w' := by
  have H1 := hide (fun u => dCutNo s n (by omega) u)
  have n1 : (1 : Int) ≤ n := by omega
  have H2 := hide (fun u => dCutNo s m (by omega) u)
  go_enter Try.func10, Try.ntmps10
  go_wp2_with fail
  refine (lAwake _).mono ?_
  rintro e w1 ⟨rfl, hb⟩
  have B1 := hide hb
  clear hb
  go_wp2_with fail
  refine (unhide H1 _).mono ?_
  rintro e w2 ⟨rfl, rfl⟩
  have B2 := hide (unhide B1)
  clear B1
  go_wp2_with fail
  refine (unhide H2 _).mono ?_
  rintro e w3 ⟨rfl, rfl⟩
  have B3 := hide (unhide B2)
  clear B2
  go_wp2
  go_ret
  exact ⟨rfl, unhide B3⟩
set_option maxRecDepth 100000 in
set_option maxHeartbeats 1000000 in
theorem cuts_hi_hi (s : ByteArray) (n : Int) (hn : 32 < n) (m : Int) (hm : 32 < m) (w : World) :
    Calls Try.prog 10 #[.string s, .int .i64 n, .int .i64 m] w fun e w' => e = .returned (.bool true) ∧ Below w.heap.size w w' := by
  have H1 := hide (fun u => dCutNo s n (by omega) u)
  have n1 : (1 : Int) ≤ n := by omega
  have H2 := hide (fun u => dCutNo s m (by omega) u)
  have m1 : (1 : Int) ≤ m := by omega
  go_enter Try.func10, Try.ntmps10
  go_wp2_with fail
  refine (lAwake _).mono ?_
  rintro e w1 ⟨rfl, hb⟩
  have B1 := hide hb
  clear hb
  go_wp2_with fail
  refine (unhide H1 _).mono ?_
  rintro e w2 ⟨rfl, rfl⟩
  have B2 := hide (unhide B1)
  clear B1
  go_wp2_with fail
  refine (unhide H2 _).mono ?_
  rintro e w3 ⟨rfl, rfl⟩
  have B3 := hide (unhide B2)
  clear B2
  go_wp2
  go_ret
  exact ⟨rfl, unhide B3⟩
theorem cuts_walk (s : ByteArray) (n m : Int) (hs : s.size ≤ 140737488355328) (w : World) :
    Calls Try.prog 10 #[.string s, .int .i64 n, .int .i64 m] w fun e w' => e = .returned (.bool true) ∧ Below w.heap.size w w' := by
  by_cases hn1 : n < 1
  · by_cases hm1 : m < 1
    · exact cuts_lo_lo s n hn1 m hm1 w
    · by_cases hm2 : 32 < m
      · exact cuts_lo_hi s n hn1 m hm2 w
      · obtain ⟨M, rfl⟩ := Int.eq_ofNat_of_zero_le (show 0 ≤ m by omega)
        exact cuts_lo_in s hs n hn1 M (by omega) (by omega) w
  · by_cases hn2 : 32 < n
    · by_cases hm1 : m < 1
      · exact cuts_hi_lo s n hn2 m hm1 w
      · by_cases hm2 : 32 < m
        · exact cuts_hi_hi s n hn2 m hm2 w
        · obtain ⟨M, rfl⟩ := Int.eq_ofNat_of_zero_le (show 0 ≤ m by omega)
          exact cuts_hi_in s hs n hn2 M (by omega) (by omega) w
    · obtain ⟨N, rfl⟩ := Int.eq_ofNat_of_zero_le (show 0 ≤ n by omega)
      by_cases hm1 : m < 1
      · exact cuts_in_lo s hs N (by omega) (by omega) m hm1 w
      · by_cases hm2 : 32 < m
        · exact cuts_in_hi s hs N (by omega) (by omega) m hm2 w
        · obtain ⟨M, rfl⟩ := Int.eq_ofNat_of_zero_le (show 0 ≤ m by omega)
          exact cuts_in s N M hs (by omega) (by omega) (by omega) (by omega) w
end Go.Proofs.Ytpbifpbblinopaa
