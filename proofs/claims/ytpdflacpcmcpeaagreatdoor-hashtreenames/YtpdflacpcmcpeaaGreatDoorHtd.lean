/- The tables' world, for the cards of this seat. -/
import Derived.Test.YtpdflacpcmcpeaaGreatDoorMm
import Derived.OpenShut
import Derived.SizedLaws
import Derived.Test.YtpdflacpcmcpeaaGreatDoorCards
import Derived.Test.YtpdflacpcmcpeaaGreatDoorTie
import Derived.Deep.DeepHandedRow
import Derived.Lib.LaidTab
import Derived.ShutString
import Derived.ChangeOld
import Derived.Below
namespace Go.Proofs.YtpdflacpcmcpeaaGreatDoor
open Go.RowKit Go.ChangeShapes Go.WideShapes Go.ChangeAt

theorem own : ownKnob Tryz.prog.godebug = none := by kernel_rfl
theorem laidOut : laidOutB Tryz.prog = true := by kernel_rfl
/-- what a block of numbers holds instead -/
def refill (vs : Array Value) : Obj → Obj
  | .cells _ t frozen => .cells vs t frozen
  | o => o
/-- the tables' world for a witness -/
noncomputable def laidWorld (os : Os) : World :=
  { World.holding Tryz.prog os ⟨#[], #[], []⟩ with heap := ((World.holding Tryz.prog os ⟨#[], #[], []⟩).heap.modify 2 (refill #[.int .u32 0, .int .u32 274646895, .int .u32 549293790, .int .u32 820201905, .int .u32 1098587580, .int .u32 1361435347, .int .u32 1640403810, .int .u32 1905808397, .int .u32 2197175160, .int .u32 2460548119, .int .u32 2722870694, .int .u32 2987750089, .int .u32 3280807620, .int .u32 3553878443, .int .u32 3811616794, .int .u32 4084100981])).modify 0 (refill #[.int .i64 0, .int .i64 1, .int .i64 17, .int .i64 273, .int .i64 4369]) }
end Go.Proofs.YtpdflacpcmcpeaaGreatDoor
