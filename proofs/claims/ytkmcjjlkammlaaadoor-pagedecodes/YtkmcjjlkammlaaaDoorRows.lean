/-
  NARROWER THAN 'FOR EVERY INPUT', by the rows' own cells (each row's printed sentence says how): PageEncodes: laid · PageDecodes: laid · PageNames: laid · PageBack: laid · PageTears: laid · PageTurns: laid.
  DERIVED. THE GIVEN ROWS OF THIS SEAT. 6 by the template 'for every input the law returns true; each argument reads behind the call as it read before'; 0 by the template 'total and deterministic' (their statements: YtkmcjjlkammlaaaDoorTotals.lean).
  GIVEN WITH THE SEED: the statements are not yours to turn. If you find one false, say at which input.
  Laid BY PROGRAM, IN A SANDBOX (cutbox-rows.mjs): the forced cells as the released guide's own fill.sh prints them over the translation 50f338e230c9add3… (all of the seat's roots in one cut). By AI agents, Wed Nov 11 2026. No macro, syntax, notation, axiom, sorry.
-/
import Derived.Test.YtkmcjjlkammlaaaDoorChecked
import GoSem.Claim
import GoSem.ClaimJoined
import GoSem.ClaimMapViews
import Derived.JoinedTies
import Derived.KernelRfl
namespace Go.Proofs.YtkmcjjlkammlaaaDoor
/- THE CELL 'sum', in the pinned program and in every row, IS THE sha256 OF THE DUMP (.gsa) THAT YtkmcjjlkammlaaaDoorProg.lean LOADS. Nothing in Lean hashes anything: it is a label: what it is worth is what the hold of that sum in a sandbox is worth. -/
noncomputable def Tryd.pinned : Pinned := { name := "ytkmcjjlkammlaaadoor", sum := "50f338e230c9add33f2281f1dc76a26a23d6eafe6b7985dc50fc6e7cc43ca650", checked := Tryd.checked }
namespace Rows
def none {H : Type} : Left H := { results := [], args := [] }

/- WHAT THE LISTED PACKAGE-LEVEL VARIABLES READ AS WHEN THE CALL BEGINS. Each datum BY PROGRAM (the guide's laid-datum.mjs) off the statement by which the dump's own 'gosem.cut.vars' lays the variable. In a bare row this is a premise. The card (YtkmcjjlkammlaaaDoorCards.lean) ties it to the program's text. -/
def laid_concord_wire_fourSteps {H : Type} : DataW H := .agg [.lit (.int .u32 0), .lit (.int .u32 274646895), .lit (.int .u32 549293790), .lit (.int .u32 820201905), .lit (.int .u32 1098587580), .lit (.int .u32 1361435347), .lit (.int .u32 1640403810), .lit (.int .u32 1905808397), .lit (.int .u32 2197175160), .lit (.int .u32 2460548119), .lit (.int .u32 2722870694), .lit (.int .u32 2987750089), .lit (.int .u32 3280807620), .lit (.int .u32 3553878443), .lit (.int .u32 3811616794), .lit (.int .u32 4084100981)]

/-- 'concordlaw05.PageEncodes': WHATEVER THE INPUT: true; the input reads as it did. -/
def pageEncodesSpec : ChangeSpec := { name := "pageEncodes", fn := fun _ => fun
  | [d1, d2] => { results := [.lit (.bool true)], args := [d1, d2] }
  | _ => none }
def pageEncodesRow : OpenClaim := { program := "ytkmcjjlkammlaaadoor", sum := "50f338e230c9add33f2281f1dc76a26a23d6eafe6b7985dc50fc6e7cc43ca650", func := "concord/concordlaw05.PageEncodes", spec := "pageEncodes", named := ["concord/wire.fourSteps"], apart := false, laid := [("concord/wire.fourSteps", laid_concord_wire_fourSteps)] }
def PageEncodesSaid : Prop := pageEncodesRow.holds Tryd.pinned (OpenSpec.ofChange pageEncodesSpec)

/-- ITS FALSE NEIGHBOUR: 'it returns false'. Refute it at one input. -/
def pageEncodesWrong : ChangeSpec := { name := "pageEncodes", fn := fun _ => fun
  | [d1, d2] => { results := [.lit (.bool false)], args := [d1, d2] }
  | _ => none }
def PageEncodesWrongFalsely : Prop := pageEncodesRow.holds Tryd.pinned (OpenSpec.ofChange pageEncodesWrong)

/-- 'concordlaw05.PageDecodes': WHATEVER THE INPUT: true; the input reads as it did. -/
def pageDecodesSpec : ChangeSpec := { name := "pageDecodes", fn := fun _ => fun
  | [d1, d2] => { results := [.lit (.bool true)], args := [d1, d2] }
  | _ => none }
def pageDecodesRow : OpenClaim := { program := "ytkmcjjlkammlaaadoor", sum := "50f338e230c9add33f2281f1dc76a26a23d6eafe6b7985dc50fc6e7cc43ca650", func := "concord/concordlaw05.PageDecodes", spec := "pageDecodes", named := ["concord/wire.fourSteps"], apart := false, laid := [("concord/wire.fourSteps", laid_concord_wire_fourSteps)] }
def PageDecodesSaid : Prop := pageDecodesRow.holds Tryd.pinned (OpenSpec.ofChange pageDecodesSpec)

/-- ITS FALSE NEIGHBOUR: 'it returns false'. Refute it at one input. -/
def pageDecodesWrong : ChangeSpec := { name := "pageDecodes", fn := fun _ => fun
  | [d1, d2] => { results := [.lit (.bool false)], args := [d1, d2] }
  | _ => none }
def PageDecodesWrongFalsely : Prop := pageDecodesRow.holds Tryd.pinned (OpenSpec.ofChange pageDecodesWrong)

/-- 'concordlaw05.PageNames': WHATEVER THE INPUT: true; the input reads as it did. -/
def pageNamesSpec : ChangeSpec := { name := "pageNames", fn := fun _ => fun
  | [] => { results := [.lit (.bool true)], args := [] }
  | _ => none }
def pageNamesRow : OpenClaim := { program := "ytkmcjjlkammlaaadoor", sum := "50f338e230c9add33f2281f1dc76a26a23d6eafe6b7985dc50fc6e7cc43ca650", func := "concord/concordlaw05.PageNames", spec := "pageNames", named := ["concord/wire.fourSteps"], apart := false, laid := [("concord/wire.fourSteps", laid_concord_wire_fourSteps)] }
def PageNamesSaid : Prop := pageNamesRow.holds Tryd.pinned (OpenSpec.ofChange pageNamesSpec)

/-- ITS FALSE NEIGHBOUR: 'it returns false'. Refute it at one input. -/
def pageNamesWrong : ChangeSpec := { name := "pageNames", fn := fun _ => fun
  | [] => { results := [.lit (.bool false)], args := [] }
  | _ => none }
def PageNamesWrongFalsely : Prop := pageNamesRow.holds Tryd.pinned (OpenSpec.ofChange pageNamesWrong)

/-- 'concordlaw05.PageBack': WHATEVER THE INPUT: true; the input reads as it did. -/
def pageBackSpec : ChangeSpec := { name := "pageBack", fn := fun _ => fun
  | [d1, d2, d3] => { results := [.lit (.bool true)], args := [d1, d2, d3] }
  | _ => none }
def pageBackRow : OpenClaim := { program := "ytkmcjjlkammlaaadoor", sum := "50f338e230c9add33f2281f1dc76a26a23d6eafe6b7985dc50fc6e7cc43ca650", func := "concord/concordlaw05.PageBack", spec := "pageBack", named := ["concord/wire.fourSteps"], apart := false, laid := [("concord/wire.fourSteps", laid_concord_wire_fourSteps)] }
def PageBackSaid : Prop := pageBackRow.holds Tryd.pinned (OpenSpec.ofChange pageBackSpec)

/-- ITS FALSE NEIGHBOUR: 'it returns false'. Refute it at one input. -/
def pageBackWrong : ChangeSpec := { name := "pageBack", fn := fun _ => fun
  | [d1, d2, d3] => { results := [.lit (.bool false)], args := [d1, d2, d3] }
  | _ => none }
def PageBackWrongFalsely : Prop := pageBackRow.holds Tryd.pinned (OpenSpec.ofChange pageBackWrong)

/-- 'concordlaw05.PageTears': WHATEVER THE INPUT: true; the input reads as it did. -/
def pageTearsSpec : ChangeSpec := { name := "pageTears", fn := fun _ => fun
  | [d1, d2, d3] => { results := [.lit (.bool true)], args := [d1, d2, d3] }
  | _ => none }
def pageTearsRow : OpenClaim := { program := "ytkmcjjlkammlaaadoor", sum := "50f338e230c9add33f2281f1dc76a26a23d6eafe6b7985dc50fc6e7cc43ca650", func := "concord/concordlaw05.PageTears", spec := "pageTears", named := ["concord/wire.fourSteps"], apart := false, laid := [("concord/wire.fourSteps", laid_concord_wire_fourSteps)] }
def PageTearsSaid : Prop := pageTearsRow.holds Tryd.pinned (OpenSpec.ofChange pageTearsSpec)

/-- ITS FALSE NEIGHBOUR: 'it returns false'. Refute it at one input. -/
def pageTearsWrong : ChangeSpec := { name := "pageTears", fn := fun _ => fun
  | [d1, d2, d3] => { results := [.lit (.bool false)], args := [d1, d2, d3] }
  | _ => none }
def PageTearsWrongFalsely : Prop := pageTearsRow.holds Tryd.pinned (OpenSpec.ofChange pageTearsWrong)

/-- 'concordlaw05.PageTurns': WHATEVER THE INPUT: true; the input reads as it did. -/
def pageTurnsSpec : ChangeSpec := { name := "pageTurns", fn := fun _ => fun
  | [d1, d2, d3, d4] => { results := [.lit (.bool true)], args := [d1, d2, d3, d4] }
  | _ => none }
def pageTurnsRow : OpenClaim := { program := "ytkmcjjlkammlaaadoor", sum := "50f338e230c9add33f2281f1dc76a26a23d6eafe6b7985dc50fc6e7cc43ca650", func := "concord/concordlaw05.PageTurns", spec := "pageTurns", named := ["concord/wire.fourSteps"], apart := false, laid := [("concord/wire.fourSteps", laid_concord_wire_fourSteps)] }
def PageTurnsSaid : Prop := pageTurnsRow.holds Tryd.pinned (OpenSpec.ofChange pageTurnsSpec)

/-- ITS FALSE NEIGHBOUR: 'it returns false'. Refute it at one input. -/
def pageTurnsWrong : ChangeSpec := { name := "pageTurns", fn := fun _ => fun
  | [d1, d2, d3, d4] => { results := [.lit (.bool false)], args := [d1, d2, d3, d4] }
  | _ => none }
def PageTurnsWrongFalsely : Prop := pageTurnsRow.holds Tryd.pinned (OpenSpec.ofChange pageTurnsWrong)

/- THE SECOND FORM. 'bulk': how many values and letters a reading holds, each counted each time it is reached (what is shared counts as often as it is met; a slice's spare places count too). A statement '..UptoSaid' is the law's where the arguments, and the package variables that the reading takes, are together of bulk at most 1048576: NARROWER than '..Said'. Prove '..Said' where nothing that the law and all that it calls make is longer than what came in: it says more and counts as full. Else prove '..UptoSaid'. A law counts once. -/
mutual
def uptoBulk {H : Type} : DataW H → Nat
  | .lit (.string bytes) => bytes.length + 1
  | .lit _ => 1
  | .nil => 1
  | .ptr d => uptoBulk d + 1
  | .slice elems spare => uptoBulkAll elems + uptoBulkAll spare + 1
  | .agg parts => uptoBulkAll parts + 1
  | .iface _ d => uptoBulk d + 1
  | .map entries => uptoBulkEntries entries + 1
  | .held _ => 1
def uptoBulkAll {H : Type} : List (DataW H) → Nat
  | [] => 0
  | d :: r => uptoBulk d + uptoBulkAll r
def uptoBulkEntries {H : Type} : List (Lit × DataW H) → Nat
  | [] => 0
  | x :: r => uptoBulkEntry x + uptoBulkEntries r
def uptoBulkEntry {H : Type} : Lit × DataW H → Nat
  | (.string bytes, d) => bytes.length + uptoBulk d + 1
  | (_, d) => uptoBulk d + 1
 end
def uptoSmall : (H : Type) → List (DataW H) → Bool := fun _ ds => decide (uptoBulkAll ds ≤ 1048576)
def OpenSpec.upto (s : _root_.Go.ChangeSpec) : _root_.Go.OpenSpec := { _root_.Go.OpenSpec.ofChange s with cond := some uptoSmall }

/-- 'concordlaw05.PageEncodes', WHERE WHAT IT READS IS OF BULK AT MOST 1048576: true; the input reads as it did. -/
def pageEncodesUptoRow : OpenClaim := { program := "ytkmcjjlkammlaaadoor", sum := "50f338e230c9add33f2281f1dc76a26a23d6eafe6b7985dc50fc6e7cc43ca650", func := "concord/concordlaw05.PageEncodes", spec := "pageEncodes", named := ["concord/wire.fourSteps"], apart := false, laid := [("concord/wire.fourSteps", laid_concord_wire_fourSteps)], narrowed := true }
def PageEncodesUptoSaid : Prop := pageEncodesUptoRow.holds Tryd.pinned (OpenSpec.upto pageEncodesSpec)

/-- 'concordlaw05.PageDecodes', WHERE WHAT IT READS IS OF BULK AT MOST 1048576: true; the input reads as it did. -/
def pageDecodesUptoRow : OpenClaim := { program := "ytkmcjjlkammlaaadoor", sum := "50f338e230c9add33f2281f1dc76a26a23d6eafe6b7985dc50fc6e7cc43ca650", func := "concord/concordlaw05.PageDecodes", spec := "pageDecodes", named := ["concord/wire.fourSteps"], apart := false, laid := [("concord/wire.fourSteps", laid_concord_wire_fourSteps)], narrowed := true }
def PageDecodesUptoSaid : Prop := pageDecodesUptoRow.holds Tryd.pinned (OpenSpec.upto pageDecodesSpec)

/-- 'concordlaw05.PageNames', WHERE WHAT IT READS IS OF BULK AT MOST 1048576: true; the input reads as it did. -/
def pageNamesUptoRow : OpenClaim := { program := "ytkmcjjlkammlaaadoor", sum := "50f338e230c9add33f2281f1dc76a26a23d6eafe6b7985dc50fc6e7cc43ca650", func := "concord/concordlaw05.PageNames", spec := "pageNames", named := ["concord/wire.fourSteps"], apart := false, laid := [("concord/wire.fourSteps", laid_concord_wire_fourSteps)], narrowed := true }
def PageNamesUptoSaid : Prop := pageNamesUptoRow.holds Tryd.pinned (OpenSpec.upto pageNamesSpec)

/-- 'concordlaw05.PageBack', WHERE WHAT IT READS IS OF BULK AT MOST 1048576: true; the input reads as it did. -/
def pageBackUptoRow : OpenClaim := { program := "ytkmcjjlkammlaaadoor", sum := "50f338e230c9add33f2281f1dc76a26a23d6eafe6b7985dc50fc6e7cc43ca650", func := "concord/concordlaw05.PageBack", spec := "pageBack", named := ["concord/wire.fourSteps"], apart := false, laid := [("concord/wire.fourSteps", laid_concord_wire_fourSteps)], narrowed := true }
def PageBackUptoSaid : Prop := pageBackUptoRow.holds Tryd.pinned (OpenSpec.upto pageBackSpec)

/-- 'concordlaw05.PageTears', WHERE WHAT IT READS IS OF BULK AT MOST 1048576: true; the input reads as it did. -/
def pageTearsUptoRow : OpenClaim := { program := "ytkmcjjlkammlaaadoor", sum := "50f338e230c9add33f2281f1dc76a26a23d6eafe6b7985dc50fc6e7cc43ca650", func := "concord/concordlaw05.PageTears", spec := "pageTears", named := ["concord/wire.fourSteps"], apart := false, laid := [("concord/wire.fourSteps", laid_concord_wire_fourSteps)], narrowed := true }
def PageTearsUptoSaid : Prop := pageTearsUptoRow.holds Tryd.pinned (OpenSpec.upto pageTearsSpec)

/-- 'concordlaw05.PageTurns', WHERE WHAT IT READS IS OF BULK AT MOST 1048576: true; the input reads as it did. -/
def pageTurnsUptoRow : OpenClaim := { program := "ytkmcjjlkammlaaadoor", sum := "50f338e230c9add33f2281f1dc76a26a23d6eafe6b7985dc50fc6e7cc43ca650", func := "concord/concordlaw05.PageTurns", spec := "pageTurns", named := ["concord/wire.fourSteps"], apart := false, laid := [("concord/wire.fourSteps", laid_concord_wire_fourSteps)], narrowed := true }
def PageTurnsUptoSaid : Prop := pageTurnsUptoRow.holds Tryd.pinned (OpenSpec.upto pageTurnsSpec)

end Rows
end Go.Proofs.YtkmcjjlkammlaaaDoor
