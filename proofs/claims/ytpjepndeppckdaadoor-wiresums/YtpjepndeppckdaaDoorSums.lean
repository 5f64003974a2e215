/- The walk of WireSums. -/
import Derived.Test.YtpjepndeppckdaaDoorCrcX
namespace Go.Proofs.YtpjepndeppckdaaDoor
open Go.RowKit Crc

set_option maxRecDepth 100000 in
set_option maxHeartbeats 1000000 in
theorem sums_walk (s : ByteArray) (a b : Nat) (n : Int) (w : World) (hs : s.size ≤ 140737488355328) (ha : a < 4294967296) (hb : b < 4294967296) (hn : n < 9223372036854775808) (hT : Tab w) :
    Calls Tryd.prog 3 #[.string s, .int .u32 a, .int .u32 b, .int .i64 n] w fun e w' => e = .returned (.bool true) ∧ Below w.heap.size w w' := by
  have HT := hide hT
  clear hT
  have h1 := hide (cSum s w (by omega) (unhide HT))
  have h2 := hide (mSum s w (by omega))
  have h3 := hide (cOn a s w ha (by omega) (unhide HT))
  have h4 := hide (mOn a s w ha (by omega))
  have h5 := hide (cJoined a b n w ha hb hn)
  have h6 := hide (mJoined a b n w ha hb hn)
  generalize joinS a b n = J at h5 h6
  generalize (4294967295 - fold s.data.toList 4294967295) = S1 at h1 h2
  generalize (4294967295 - fold s.data.toList (4294967295 - a)) = S2 at h3 h4
  go_enter Tryd.func3, Tryd.ntmps3
  go_wp2_with fail
  refine (unhide h1).mono ?_
  rintro e w1 ⟨rfl, rfl⟩
  go_wp2_with fail
  refine (unhide h2).mono ?_
  rintro e w1 ⟨rfl, rfl⟩
  go_wp2_with fail
  refine (unhide h3).mono ?_
  rintro e w1 ⟨rfl, rfl⟩
  go_wp2_with fail
  refine (unhide h4).mono ?_
  rintro e w1 ⟨rfl, rfl⟩
  go_wp2_with fail
  refine (unhide h5).mono ?_
  rintro e w1 ⟨rfl, rfl⟩
  go_wp2_with fail
  refine (unhide h6).mono ?_
  rintro e w2 ⟨rfl, hbel⟩
  have HB := hide hbel
  clear hbel
  go_wp2
  go_ret
  exact ⟨rfl, unhide HB⟩
theorem sums_all (s : ByteArray) (a b n : Int) (w : World) (hs : s.size ≤ 140737488355328) (ha : 0 ≤ a ∧ a ≤ 4294967295) (hb : 0 ≤ b ∧ b ≤ 4294967295) (hn : n < 9223372036854775808) (hT : Tab w) :
    Calls Tryd.prog 3 #[.string s, .int .u32 a, .int .u32 b, .int .i64 n] w fun e w' => e = .returned (.bool true) ∧ Below w.heap.size w w' := by
  obtain ⟨A, rfl⟩ := Int.eq_ofNat_of_zero_le ha.1
  obtain ⟨B, rfl⟩ := Int.eq_ofNat_of_zero_le hb.1
  exact sums_walk s A B n w hs (by omega) (by omega) hn hT
end Go.Proofs.YtpjepndeppckdaaDoor
