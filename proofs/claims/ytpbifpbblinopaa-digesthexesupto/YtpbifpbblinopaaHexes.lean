/- The walk of DigestHexes. -/
import Derived.Test.YtpbifpbblinopaaHxD
namespace Go.Proofs.Ytpbifpbblinopaa
open Go.RowKit

set_option maxRecDepth 100000 in
set_option maxHeartbeats 1000000 in
theorem hexes_walk (s t : ByteArray) (w : World) (hs : 2 * s.size + 2 ≤ 140737488355328) (ht : t.size ≤ 140737488355328) :
    Calls Try.prog 7 #[.string s, .string t] w fun e w' => e = .returned (.bool true) ∧ Below w.heap.size w w' := by
  have M1 := hide (fun u => mFromHex t u ht)
  have M2 := hide (fun u => dFromHex t u ht)
  have M3 := hide (fun u => dHex s u hs)
  have M4 := hide (fun u => mHex s u hs)
  generalize fromR (ch t) t.size = R at *
  generalize hexS s.data.toList = S at *
  go_enter Try.func7, Try.ntmps7
  go_wp2_with fail
  refine (unhide M1 _).mono ?_
  rintro e w1 ⟨rfl, hb1⟩
  have B1 := hide hb1
  clear hb1
  go_wp2_with fail
  refine (unhide M2 _).mono ?_
  rintro e w2 ⟨rfl, hb1⟩
  have B2 := hide ((unhide B1).trans (hb1.mono (unhide B1).size))
  clear hb1 B1
  go_wp2_with fail
  refine (unhide M3 _).mono ?_
  rintro e w3 ⟨rfl, hb1⟩
  have B3 := hide ((unhide B2).trans (hb1.mono (unhide B2).size))
  clear hb1 B2
  go_wp2_with fail
  refine (unhide M4 _).mono ?_
  rintro e w4 ⟨rfl, hb1⟩
  have B4 := hide ((unhide B3).trans (hb1.mono (unhide B3).size))
  clear hb1 B3
  go_wp2
  go_ret
  exact ⟨rfl, unhide B4⟩
end Go.Proofs.Ytpbifpbblinopaa
