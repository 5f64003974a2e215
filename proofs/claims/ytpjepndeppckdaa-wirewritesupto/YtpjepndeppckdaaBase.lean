/- The floats' bits, and what is no number. -/
import Derived.Test.YtpjepndeppckdaaRows
import Derived.WalkKit
import Derived.WalkLawsBesides
import Derived.ProofKit
import Derived.OpenShut
import Derived.Handy
namespace Go.Proofs.Ytpjepndeppckdaa
open Go.RowKit

theorem hide {p : Prop} (h : p) : Hid p := h
theorem unhide {p : Prop} (h : Hid p) : p := h
@[go_sem] theorem fbits (b : Nat) (w : World) : (callFunc 39 #[.float .f64 b]).run Try.prog w = .ok (.value (.int .u64 b)) w := by kernel_rfl
@[go_sem] theorem ffrom (n : Int) (w : World) : (callFunc 34 #[.int .u64 n]).run Try.prog w = .ok (.value (.float .f64 n.toNat)) w := by kernel_rfl
/-- is it no number? -/
def isNan (b : Nat) : Bool := FloatKind.f64.format.order b b != some .eq
theorem cNan (b : Nat) (w : World) : Calls Try.prog 40 #[.float .f64 b] w fun e w' => e = .returned (.bool (isNan b)) ∧ w' = w := by
  go_enter Try.func40, Try.ntmps40
  go_wp2
  go_ret
  exact ⟨rfl, rfl⟩
end Go.Proofs.Ytpjepndeppckdaa
