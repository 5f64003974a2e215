/- The table as the rows list it; what the cards ask. -/
import Derived.Test.YtfdfbjijomepgaaDoorPl
import Derived.OpenShut
import Derived.SizedLaws
import Derived.Test.YtfdfbjijomepgaaDoorCards
import Derived.Test.YtfdfbjijomepgaaDoorTie
import Derived.Deep.DeepHandedRow
import Derived.Lib.LaidTab
import Derived.ShutString
import Derived.ChangeOld
import Derived.Below
namespace Go.Proofs.YtfdfbjijomepgaaDoor
open Go.RowKit Crc Go.ChangeShapes Go.WideShapes Go.ChangeAt

theorem own : ownKnob Tryd.prog.godebug = none := by kernel_rfl
theorem laidOut : laidOutB Tryd.prog = true := by kernel_rfl
theorem gTab : Tryd.prog.globalNamed "concord/wire.fourSteps" = some 0 := by kernel_rfl
theorem gTabType : (Tryd.prog.globals[0]?).map (·.type) = some 152 := by kernel_rfl
theorem cellsTab : Tryd.prog.cellsOf 152 = 16 := by kernel_rfl
theorem cellsU32 : Tryd.prog.cellsOf 68 = 1 := by kernel_rfl
theorem table {W : World} (h : laidMetH Tryd.prog [("concord/wire.fourSteps", Rows.laid_concord_wire_fourSteps)] W) :
    Lib.TabIs Tryd.prog W "concord/wire.fourSteps" .u32 [0, 274646895, 549293790, 820201905, 1098587580, 1361435347, 1640403810, 1905808397, 2197175160, 2460548119, 2722870694, 2987750089, 3280807620, 3553878443, 3811616794, 4084100981] :=
  Lib.tabIs_of_head (rest := []) gTab gTabType Tryd.underlying152 Tryd.underlying68 cellsU32 cellsTab h
theorem tab_of {W : World} (h : laidMetH Tryd.prog [("concord/wire.fourSteps", Rows.laid_concord_wire_fourSteps)] W) : Tab W := fun i hi => by
  have h1 := (table h).cell gTab i (by simpa using hi)
  rw [h1]
  have : ∀ i : Fin 16, ([0, 274646895, 549293790, 820201905, 1098587580, 1361435347, 1640403810, 1905808397, 2197175160, 2460548119, 2722870694, 2987750089, 3280807620, 3553878443, 3811616794, 4084100981] : List Int).getD i.1 0 = ((tab i.1 : Nat) : Int) := by decide
  rw [this ⟨i, hi⟩]
/-- the table's world for a witness -/
noncomputable def laidWorld (os : Os) : World :=
  { World.holding Tryd.prog os ⟨#[], #[], []⟩ with heap := (World.holding Tryd.prog os ⟨#[], #[], []⟩).heap.modify 0 fun
      | .cells _ t frozen => .cells #[.int .u32 0, .int .u32 274646895, .int .u32 549293790, .int .u32 820201905, .int .u32 1098587580, .int .u32 1361435347, .int .u32 1640403810, .int .u32 1905808397, .int .u32 2197175160, .int .u32 2460548119, .int .u32 2722870694, .int .u32 2987750089, .int .u32 3280807620, .int .u32 3553878443, .int .u32 3811616794, .int .u32 4084100981] t frozen
      | o => o }
end Go.Proofs.YtfdfbjijomepgaaDoor
