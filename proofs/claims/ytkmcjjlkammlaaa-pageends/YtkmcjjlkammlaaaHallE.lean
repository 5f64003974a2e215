/- What the row of PageEnds asks. -/
import Derived.Test.YtkmcjjlkammlaaaPv7
import Derived.Deep.Slices
import Derived.Deep.DeepHandedRow
import Derived.Lib.LaidTab
import Derived.ShutString
import Derived.ChangeOld
import Derived.Below
namespace Go.Proofs.Ytkmcjjlkammlaaa
open Go.RowKit

theorem own : ownKnob Try.prog.godebug = none := by kernel_rfl
theorem laidOut : laidOutB Try.prog = true := by kernel_rfl
/-- a world for a witness -/
noncomputable def laidWorld (os : Os) : World := World.holding Try.prog os ⟨#[], #[], []⟩
theorem bytesOfU8 : Try.prog.bytesOf 5 = 1 := by kernel_rfl
end Go.Proofs.Ytkmcjjlkammlaaa
