/- Trees: the table of first nodes as the rows list it; what the cards ask. -/
import Derived.Test.YtbahlfpcbplofaaDoorTaa
import Derived.OpenShut
import Derived.SizedLaws
import Derived.Test.YtbahlfpcbplofaaDoorCards
import Derived.Test.YtbahlfpcbplofaaDoorTie
import Derived.Deep.DeepHandedRow
import Derived.Lib.LaidTab
import Derived.ShutString
import Derived.ChangeOld
import Derived.Below
namespace Go.Proofs.YtbahlfpcbplofaaDoor
open Go.RowKit Go.ChangeShapes Go.WideShapes Go.ChangeAt

theorem own : ownKnob Tryd.prog.godebug = none := by kernel_rfl
theorem laidOut : laidOutB Tryd.prog = true := by kernel_rfl
theorem gTab : Tryd.prog.globalNamed "concord/tree.firsts" = some 0 := by kernel_rfl
theorem gTabType : (Tryd.prog.globals[0]?).map (·.type) = some 91 := by kernel_rfl
theorem cellsTab : Tryd.prog.cellsOf 91 = 5 := by kernel_rfl
theorem cellsI64 : Tryd.prog.cellsOf 3 = 1 := by kernel_rfl
theorem tab_of {W : World} (h : laidMetH Tryd.prog [("concord/tree.firsts", Rows.laid_concord_tree_firsts)] W) : T.Tab W := fun i hi => by
  have h0 : Lib.TabIs Tryd.prog W "concord/tree.firsts" .i64 [0, 1, 17, 273, 4369] :=
    Lib.tabIs_of_head (rest := []) gTab gTabType Tryd.underlying91 Tryd.underlying3 cellsI64 cellsTab h
  have h1 := h0.cell gTab i (by simpa using hi)
  rw [h1]
  have : ∀ i : Fin 5, ([0, 1, 17, 273, 4369] : List Int).getD i.1 0 = T.fst i.1 := by decide
  rw [this ⟨i, hi⟩]
/-- the table's world for a witness -/
noncomputable def laidWorld (os : Os) : World :=
  { World.holding Tryd.prog os ⟨#[], #[], []⟩ with heap := (World.holding Tryd.prog os ⟨#[], #[], []⟩).heap.modify 0 fun
      | .cells _ t frozen => .cells #[.int .i64 0, .int .i64 1, .int .i64 17, .int .i64 273, .int .i64 4369] t frozen
      | o => o }
end Go.Proofs.YtbahlfpcbplofaaDoor
