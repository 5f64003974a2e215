/- A digest that everybody knows. -/
import Derived.Test.YtpbifpbblinopaaHsF
import Derived.Test.YtpbifpbblinopaaHxD
namespace Go.Proofs.Ytpbifpbblinopaa
open Go.RowKit

def abcS : ByteArray := ⟨#[97, 98, 99]⟩
theorem hex_abc : hexS (Sha.of abcS.data.toList) = [98, 97, 55, 56, 49, 54, 98, 102, 56, 102, 48, 49, 99, 102, 101, 97, 52, 49, 52, 49, 52, 48, 100, 101, 53, 100, 97, 101, 50, 50, 50, 51, 98, 48, 48, 51, 54, 49, 97, 51, 57, 54, 49, 55, 55, 97, 57, 99, 98, 52, 49, 48, 102, 102, 54, 49, 102, 50, 48, 48, 49, 53, 97, 100] := by
  show hexS (Sha.of [97, 98, 99]) = _
  rw [Sha.of_abc]
  decide +kernel
set_option maxRecDepth 100000 in
set_option maxHeartbeats 1000000 in
theorem lAwake (w : World) : Calls Try.prog 37 #[] w fun e w' => e = .returned (.bool true) ∧ Below w.heap.size w w' := by
  have HL := hide (fun u => lSliced abcS (by decide) u)
  have HX := hide (fun u => dHex ⟨(Sha.of abcS.data.toList).toArray⟩ u (by show 2 * 32 + 2 ≤ _; decide))
  have HE := hide hex_abc
  go_enter Try.func37, Try.ntmps37
  go_wp2_with fail
  refine (unhide HL _).mono ?_
  rintro e w1 ⟨g, rfl, hrow, hg, hb⟩
  have HB := hide hb
  have hcv := conv_front hrow (Sha.of abcS.data.toList) 32 32 (Sha.of_length _) (by rw [ofCells_take, List.take_of_length_le (by rw [Sha.of_length]; omega)])
  clear hb hrow hg
  go_wp2_with fail
  refine (unhide HX _).mono ?_
  rintro e w2 ⟨rfl, hb⟩
  have HB2 := hide ((unhide HB).trans (hb.mono (unhide HB).size))
  clear hb hcv
  rw [show hexS (⟨(Sha.of abcS.data.toList).toArray⟩ : ByteArray).data.toList = _ from unhide HE]
  go_wp2
  go_ret
  exact ⟨rfl, unhide HB2⟩
end Go.Proofs.Ytpbifpbblinopaa
