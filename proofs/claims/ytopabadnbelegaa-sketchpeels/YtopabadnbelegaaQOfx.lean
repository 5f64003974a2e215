/- Cut out of the texts of elder seats by cut.py and less.py. -/
import Derived.Test.YtopabadnbelegaaQ01
import Derived.Test.YtopabadnbelegaaQXu
import Derived.Test.YtopabadnbelegaaQYw
import Derived.WalkKit
import Derived.WalkLawsBesides
import Derived.ProofKit
import Derived.OpenShut
import Derived.Handy
import Derived.ArgAppend
import Derived.Lib.AppendStr
import Derived.Laws.BitsAllLaws
import Derived.Laws.IdiomStrings
namespace Go.Proofs.Ytopabadnbelegaa.W
open Go.RowKit Go.Lib
/-- the lowest n bytes, the highest first -/
def fixB (v n : Nat) : List UInt8 := (List.range n).map fun i => UInt8.ofNat (v / 256 ^ (n - 1 - i))
theorem fixB_length (v n : Nat) : (fixB v n).length = n := by simp [fixB]
theorem fixB_take (v n k : Nat) (h : k < n) : (fixB v n).take (k + 1) = (fixB v n).take k ++ [UInt8.ofNat (v / 256 ^ (n - 1 - k))] := by
  rw [List.take_succ_eq_append_getElem (by rw [fixB_length]; exact h)]
  simp [fixB]

theorem byte_at (v m : Nat) : UInt8.ofNat (((v : Int) / 2 ^ (8 * m) % 256).toNat) = UInt8.ofNat (v / 256 ^ m) := by
  have e : ((v : Int) / 2 ^ (8 * m) % 256).toNat = v / 256 ^ m % 256 := by
    have h1 : ((2 : Int) ^ (8 * m)) = ((2 ^ (8 * m) : Nat) : Int) := by simp
    rw [h1, Nat.pow_mul]
    have h2 : ((v : Int) / ((2 ^ 8) ^ m : Nat) % 256) = ((v / (2 ^ 8) ^ m % 256 : Nat) : Int) := by
      rw [Int.natCast_emod, Int.natCast_ediv]; rfl
    rw [h2]; rfl
  rw [e]
  apply UInt8.toNat.inj
  simp
theorem byte_rng (x : Int) : 0 ≤ x % 256 ∧ x % 256 < 256 := by omega
theorem pow8 (m : Nat) : ((2 : Int) ^ (8 * m)) = ((256 ^ m : Nat) : Int) := by
  have e : (256 : Nat) ^ m = 2 ^ (8 * m) := (Nat.pow_mul 2 8 m).symm
  rw [e]; simp
end Go.Proofs.Ytopabadnbelegaa.W
