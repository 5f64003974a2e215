/- What the rows of this seat ask. -/
import Derived.Test.YtajbkgcgmkkpiaaMm
import Derived.Deep.Slices
import Derived.Deep.DeepHandedRow
import Derived.Lib.LaidTab
import Derived.ShutString
import Derived.ChangeOld
import Derived.Below
namespace Go.Proofs.Ytajbkgcgmkkpiaa
open Go.RowKit

theorem own : ownKnob Try.prog.godebug = none := by kernel_rfl
theorem laidOut : laidOutB Try.prog = true := by kernel_rfl
/-- a world for a witness -/
noncomputable def laidWorld (os : Os) : World := World.holding Try.prog os ⟨#[], #[], []⟩
theorem bulk_str {H : Type} {l : List UInt8} {rest : List (DataW H)} (hk : Rows.uptoSmall H (.lit (.string l) :: rest) = true) : l.length ≤ 1048576 := by
  have h : Rows.uptoBulkAll (DataW.lit (.string l) :: rest) ≤ 1048576 := of_decide_eq_true hk
  simp only [Rows.uptoBulkAll, Rows.uptoBulk] at h
  omega
end Go.Proofs.Ytajbkgcgmkkpiaa
