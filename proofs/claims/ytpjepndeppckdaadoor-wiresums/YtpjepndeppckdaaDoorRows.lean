/-
  NARROWER THAN 'FOR EVERY INPUT', by the rows' own cells (each row's printed sentence says how): WireSums: laid · WireBack: laid · WireForm: laid · WireCut: laid · WireRises: laid · WireJoins: laid · WireTurns: laid.
  DERIVED. THE GIVEN ROWS OF THIS SEAT. 7 by the template 'for every input the law returns true; each argument reads behind the call as it read before'; 0 by the template 'total and deterministic' (their statements: YtpjepndeppckdaaDoorTotals.lean).
  GIVEN WITH THE SEED: the statements are not yours to turn. If you find one false, say at which input.
  Laid BY PROGRAM, IN A SANDBOX (cutbox-rows.mjs): the forced cells as the released guide's own fill.sh prints them over the translation bd864c5327c83c0f… (all of the seat's roots in one cut). By AI agents, Wed Nov 11 2026. No macro, syntax, notation, axiom, sorry.
-/
import Derived.Test.YtpjepndeppckdaaDoorChecked
import GoSem.Claim
import GoSem.ClaimJoined
import GoSem.ClaimMapViews
import Derived.JoinedTies
import Derived.KernelRfl
namespace Go.Proofs.YtpjepndeppckdaaDoor
/- THE CELL 'sum', in the pinned program and in every row, IS THE sha256 OF THE DUMP (.gsa) THAT YtpjepndeppckdaaDoorProg.lean LOADS. Nothing in Lean hashes anything: it is a label: what it is worth is what the hold of that sum in a sandbox is worth. -/
noncomputable def Tryd.pinned : Pinned := { name := "ytpjepndeppckdaadoor", sum := "bd864c5327c83c0f64ab51ce76a9bb67b88e289fe4a2090a21a4b0c3af86adc5", checked := Tryd.checked }
namespace Rows
def none {H : Type} : Left H := { results := [], args := [] }

/- WHAT THE LISTED PACKAGE-LEVEL VARIABLES READ AS WHEN THE CALL BEGINS. Each datum BY PROGRAM (the guide's laid-datum.mjs) off the statement by which the dump's own 'gosem.cut.vars' lays the variable. In a bare row this is a premise. The card (YtpjepndeppckdaaDoorCards.lean) ties it to the program's text. -/
def laid_concord_wire_fourSteps {H : Type} : DataW H := .agg [.lit (.int .u32 0), .lit (.int .u32 274646895), .lit (.int .u32 549293790), .lit (.int .u32 820201905), .lit (.int .u32 1098587580), .lit (.int .u32 1361435347), .lit (.int .u32 1640403810), .lit (.int .u32 1905808397), .lit (.int .u32 2197175160), .lit (.int .u32 2460548119), .lit (.int .u32 2722870694), .lit (.int .u32 2987750089), .lit (.int .u32 3280807620), .lit (.int .u32 3553878443), .lit (.int .u32 3811616794), .lit (.int .u32 4084100981)]

/-- 'concordlaw01.WireSums': WHATEVER THE INPUT: true; the input reads as it did. -/
def wireSumsSpec : ChangeSpec := { name := "wireSums", fn := fun _ => fun
  | [d1, d2, d3, d4] => { results := [.lit (.bool true)], args := [d1, d2, d3, d4] }
  | _ => none }
def wireSumsRow : OpenClaim := { program := "ytpjepndeppckdaadoor", sum := "bd864c5327c83c0f64ab51ce76a9bb67b88e289fe4a2090a21a4b0c3af86adc5", func := "concord/concordlaw01.WireSums", spec := "wireSums", named := ["concord/wire.fourSteps"], apart := false, laid := [("concord/wire.fourSteps", laid_concord_wire_fourSteps)] }
def WireSumsSaid : Prop := wireSumsRow.holds Tryd.pinned (OpenSpec.ofChange wireSumsSpec)

/-- ITS FALSE NEIGHBOUR: 'it returns false'. Refute it at one input. -/
def wireSumsWrong : ChangeSpec := { name := "wireSums", fn := fun _ => fun
  | [d1, d2, d3, d4] => { results := [.lit (.bool false)], args := [d1, d2, d3, d4] }
  | _ => none }
def WireSumsWrongFalsely : Prop := wireSumsRow.holds Tryd.pinned (OpenSpec.ofChange wireSumsWrong)

/-- 'concordlaw01.WireBack': WHATEVER THE INPUT: true; the input reads as it did. -/
def wireBackSpec : ChangeSpec := { name := "wireBack", fn := fun _ => fun
  | [d] => { results := [.lit (.bool true)], args := [d] }
  | _ => none }
def wireBackRow : OpenClaim := { program := "ytpjepndeppckdaadoor", sum := "bd864c5327c83c0f64ab51ce76a9bb67b88e289fe4a2090a21a4b0c3af86adc5", func := "concord/concordlaw01.WireBack", spec := "wireBack", inPlace := ["math.Float64frombits", "math.Float64bits"], named := ["concord/wire.fourSteps"], apart := false, laid := [("concord/wire.fourSteps", laid_concord_wire_fourSteps)] }
def WireBackSaid : Prop := wireBackRow.holds Tryd.pinned (OpenSpec.ofChange wireBackSpec)

/-- ITS FALSE NEIGHBOUR: 'it returns false'. Refute it at one input. -/
def wireBackWrong : ChangeSpec := { name := "wireBack", fn := fun _ => fun
  | [d] => { results := [.lit (.bool false)], args := [d] }
  | _ => none }
def WireBackWrongFalsely : Prop := wireBackRow.holds Tryd.pinned (OpenSpec.ofChange wireBackWrong)

/-- 'concordlaw01.WireForm': WHATEVER THE INPUT: true; the input reads as it did. -/
def wireFormSpec : ChangeSpec := { name := "wireForm", fn := fun _ => fun
  | [d1, d2] => { results := [.lit (.bool true)], args := [d1, d2] }
  | _ => none }
def wireFormRow : OpenClaim := { program := "ytpjepndeppckdaadoor", sum := "bd864c5327c83c0f64ab51ce76a9bb67b88e289fe4a2090a21a4b0c3af86adc5", func := "concord/concordlaw01.WireForm", spec := "wireForm", inPlace := ["math.Float64frombits", "math.Float64bits"], named := ["concord/wire.fourSteps"], apart := false, laid := [("concord/wire.fourSteps", laid_concord_wire_fourSteps)] }
def WireFormSaid : Prop := wireFormRow.holds Tryd.pinned (OpenSpec.ofChange wireFormSpec)

/-- ITS FALSE NEIGHBOUR: 'it returns false'. Refute it at one input. -/
def wireFormWrong : ChangeSpec := { name := "wireForm", fn := fun _ => fun
  | [d1, d2] => { results := [.lit (.bool false)], args := [d1, d2] }
  | _ => none }
def WireFormWrongFalsely : Prop := wireFormRow.holds Tryd.pinned (OpenSpec.ofChange wireFormWrong)

/-- 'concordlaw01.WireCut': WHATEVER THE INPUT: true; the input reads as it did. -/
def wireCutSpec : ChangeSpec := { name := "wireCut", fn := fun _ => fun
  | [d1, d2] => { results := [.lit (.bool true)], args := [d1, d2] }
  | _ => none }
def wireCutRow : OpenClaim := { program := "ytpjepndeppckdaadoor", sum := "bd864c5327c83c0f64ab51ce76a9bb67b88e289fe4a2090a21a4b0c3af86adc5", func := "concord/concordlaw01.WireCut", spec := "wireCut", inPlace := ["math.Float64frombits", "math.Float64bits"], named := ["concord/wire.fourSteps"], apart := false, laid := [("concord/wire.fourSteps", laid_concord_wire_fourSteps)] }
def WireCutSaid : Prop := wireCutRow.holds Tryd.pinned (OpenSpec.ofChange wireCutSpec)

/-- ITS FALSE NEIGHBOUR: 'it returns false'. Refute it at one input. -/
def wireCutWrong : ChangeSpec := { name := "wireCut", fn := fun _ => fun
  | [d1, d2] => { results := [.lit (.bool false)], args := [d1, d2] }
  | _ => none }
def WireCutWrongFalsely : Prop := wireCutRow.holds Tryd.pinned (OpenSpec.ofChange wireCutWrong)

/-- 'concordlaw01.WireRises': WHATEVER THE INPUT: true; the input reads as it did. -/
def wireRisesSpec : ChangeSpec := { name := "wireRises", fn := fun _ => fun
  | [d1, d2, d3] => { results := [.lit (.bool true)], args := [d1, d2, d3] }
  | _ => none }
def wireRisesRow : OpenClaim := { program := "ytpjepndeppckdaadoor", sum := "bd864c5327c83c0f64ab51ce76a9bb67b88e289fe4a2090a21a4b0c3af86adc5", func := "concord/concordlaw01.WireRises", spec := "wireRises", named := ["concord/wire.fourSteps"], apart := false, laid := [("concord/wire.fourSteps", laid_concord_wire_fourSteps)] }
def WireRisesSaid : Prop := wireRisesRow.holds Tryd.pinned (OpenSpec.ofChange wireRisesSpec)

/-- ITS FALSE NEIGHBOUR: 'it returns false'. Refute it at one input. -/
def wireRisesWrong : ChangeSpec := { name := "wireRises", fn := fun _ => fun
  | [d1, d2, d3] => { results := [.lit (.bool false)], args := [d1, d2, d3] }
  | _ => none }
def WireRisesWrongFalsely : Prop := wireRisesRow.holds Tryd.pinned (OpenSpec.ofChange wireRisesWrong)

/-- 'concordlaw01.WireJoins': WHATEVER THE INPUT: true; the input reads as it did. -/
def wireJoinsSpec : ChangeSpec := { name := "wireJoins", fn := fun _ => fun
  | [d1, d2] => { results := [.lit (.bool true)], args := [d1, d2] }
  | _ => none }
def wireJoinsRow : OpenClaim := { program := "ytpjepndeppckdaadoor", sum := "bd864c5327c83c0f64ab51ce76a9bb67b88e289fe4a2090a21a4b0c3af86adc5", func := "concord/concordlaw01.WireJoins", spec := "wireJoins", named := ["concord/wire.fourSteps"], apart := false, laid := [("concord/wire.fourSteps", laid_concord_wire_fourSteps)] }
def WireJoinsSaid : Prop := wireJoinsRow.holds Tryd.pinned (OpenSpec.ofChange wireJoinsSpec)

/-- ITS FALSE NEIGHBOUR: 'it returns false'. Refute it at one input. -/
def wireJoinsWrong : ChangeSpec := { name := "wireJoins", fn := fun _ => fun
  | [d1, d2] => { results := [.lit (.bool false)], args := [d1, d2] }
  | _ => none }
def WireJoinsWrongFalsely : Prop := wireJoinsRow.holds Tryd.pinned (OpenSpec.ofChange wireJoinsWrong)

/-- 'concordlaw01.WireTurns': WHATEVER THE INPUT: true; the input reads as it did. -/
def wireTurnsSpec : ChangeSpec := { name := "wireTurns", fn := fun _ => fun
  | [d1, d2, d3] => { results := [.lit (.bool true)], args := [d1, d2, d3] }
  | _ => none }
def wireTurnsRow : OpenClaim := { program := "ytpjepndeppckdaadoor", sum := "bd864c5327c83c0f64ab51ce76a9bb67b88e289fe4a2090a21a4b0c3af86adc5", func := "concord/concordlaw01.WireTurns", spec := "wireTurns", named := ["concord/wire.fourSteps"], apart := false, laid := [("concord/wire.fourSteps", laid_concord_wire_fourSteps)] }
def WireTurnsSaid : Prop := wireTurnsRow.holds Tryd.pinned (OpenSpec.ofChange wireTurnsSpec)

/-- ITS FALSE NEIGHBOUR: 'it returns false'. Refute it at one input. -/
def wireTurnsWrong : ChangeSpec := { name := "wireTurns", fn := fun _ => fun
  | [d1, d2, d3] => { results := [.lit (.bool false)], args := [d1, d2, d3] }
  | _ => none }
def WireTurnsWrongFalsely : Prop := wireTurnsRow.holds Tryd.pinned (OpenSpec.ofChange wireTurnsWrong)

/- THE SECOND FORM. 'bulk': how many values and letters a reading holds, each counted each time it is reached (what is shared counts as often as it is met; a slice's spare places count too). A statement '..UptoSaid' is the law's where the arguments, and the package variables that the reading takes, are together of bulk at most 1048576: NARROWER than '..Said'. Prove '..Said' where nothing that the law and all that it calls make is longer than what came in: it says more and counts as full. Else prove '..UptoSaid'. A law counts once. -/
mutual
def uptoBulk {H : Type} : DataW H → Nat
  | .lit (.string bytes) => bytes.length + 1
  | .lit _ => 1
  | .nil => 1
  | .ptr d => uptoBulk d + 1
  | .slice elems spare => uptoBulkAll elems + uptoBulkAll spare + 1
  | .agg parts => uptoBulkAll parts + 1
  | .iface _ d => uptoBulk d + 1
  | .map entries => uptoBulkEntries entries + 1
  | .held _ => 1
def uptoBulkAll {H : Type} : List (DataW H) → Nat
  | [] => 0
  | d :: r => uptoBulk d + uptoBulkAll r
def uptoBulkEntries {H : Type} : List (Lit × DataW H) → Nat
  | [] => 0
  | x :: r => uptoBulkEntry x + uptoBulkEntries r
def uptoBulkEntry {H : Type} : Lit × DataW H → Nat
  | (.string bytes, d) => bytes.length + uptoBulk d + 1
  | (_, d) => uptoBulk d + 1
 end
def uptoSmall : (H : Type) → List (DataW H) → Bool := fun _ ds => decide (uptoBulkAll ds ≤ 1048576)
def OpenSpec.upto (s : _root_.Go.ChangeSpec) : _root_.Go.OpenSpec := { _root_.Go.OpenSpec.ofChange s with cond := some uptoSmall }

/-- 'concordlaw01.WireSums', WHERE WHAT IT READS IS OF BULK AT MOST 1048576: true; the input reads as it did. -/
def wireSumsUptoRow : OpenClaim := { program := "ytpjepndeppckdaadoor", sum := "bd864c5327c83c0f64ab51ce76a9bb67b88e289fe4a2090a21a4b0c3af86adc5", func := "concord/concordlaw01.WireSums", spec := "wireSums", named := ["concord/wire.fourSteps"], apart := false, laid := [("concord/wire.fourSteps", laid_concord_wire_fourSteps)], narrowed := true }
def WireSumsUptoSaid : Prop := wireSumsUptoRow.holds Tryd.pinned (OpenSpec.upto wireSumsSpec)

/-- 'concordlaw01.WireBack', WHERE WHAT IT READS IS OF BULK AT MOST 1048576: true; the input reads as it did. -/
def wireBackUptoRow : OpenClaim := { program := "ytpjepndeppckdaadoor", sum := "bd864c5327c83c0f64ab51ce76a9bb67b88e289fe4a2090a21a4b0c3af86adc5", func := "concord/concordlaw01.WireBack", spec := "wireBack", inPlace := ["math.Float64frombits", "math.Float64bits"], named := ["concord/wire.fourSteps"], apart := false, laid := [("concord/wire.fourSteps", laid_concord_wire_fourSteps)], narrowed := true }
def WireBackUptoSaid : Prop := wireBackUptoRow.holds Tryd.pinned (OpenSpec.upto wireBackSpec)

/-- 'concordlaw01.WireForm', WHERE WHAT IT READS IS OF BULK AT MOST 1048576: true; the input reads as it did. -/
def wireFormUptoRow : OpenClaim := { program := "ytpjepndeppckdaadoor", sum := "bd864c5327c83c0f64ab51ce76a9bb67b88e289fe4a2090a21a4b0c3af86adc5", func := "concord/concordlaw01.WireForm", spec := "wireForm", inPlace := ["math.Float64frombits", "math.Float64bits"], named := ["concord/wire.fourSteps"], apart := false, laid := [("concord/wire.fourSteps", laid_concord_wire_fourSteps)], narrowed := true }
def WireFormUptoSaid : Prop := wireFormUptoRow.holds Tryd.pinned (OpenSpec.upto wireFormSpec)

/-- 'concordlaw01.WireCut', WHERE WHAT IT READS IS OF BULK AT MOST 1048576: true; the input reads as it did. -/
def wireCutUptoRow : OpenClaim := { program := "ytpjepndeppckdaadoor", sum := "bd864c5327c83c0f64ab51ce76a9bb67b88e289fe4a2090a21a4b0c3af86adc5", func := "concord/concordlaw01.WireCut", spec := "wireCut", inPlace := ["math.Float64frombits", "math.Float64bits"], named := ["concord/wire.fourSteps"], apart := false, laid := [("concord/wire.fourSteps", laid_concord_wire_fourSteps)], narrowed := true }
def WireCutUptoSaid : Prop := wireCutUptoRow.holds Tryd.pinned (OpenSpec.upto wireCutSpec)

/-- 'concordlaw01.WireRises', WHERE WHAT IT READS IS OF BULK AT MOST 1048576: true; the input reads as it did. -/
def wireRisesUptoRow : OpenClaim := { program := "ytpjepndeppckdaadoor", sum := "bd864c5327c83c0f64ab51ce76a9bb67b88e289fe4a2090a21a4b0c3af86adc5", func := "concord/concordlaw01.WireRises", spec := "wireRises", named := ["concord/wire.fourSteps"], apart := false, laid := [("concord/wire.fourSteps", laid_concord_wire_fourSteps)], narrowed := true }
def WireRisesUptoSaid : Prop := wireRisesUptoRow.holds Tryd.pinned (OpenSpec.upto wireRisesSpec)

/-- 'concordlaw01.WireJoins', WHERE WHAT IT READS IS OF BULK AT MOST 1048576: true; the input reads as it did. -/
def wireJoinsUptoRow : OpenClaim := { program := "ytpjepndeppckdaadoor", sum := "bd864c5327c83c0f64ab51ce76a9bb67b88e289fe4a2090a21a4b0c3af86adc5", func := "concord/concordlaw01.WireJoins", spec := "wireJoins", named := ["concord/wire.fourSteps"], apart := false, laid := [("concord/wire.fourSteps", laid_concord_wire_fourSteps)], narrowed := true }
def WireJoinsUptoSaid : Prop := wireJoinsUptoRow.holds Tryd.pinned (OpenSpec.upto wireJoinsSpec)

/-- 'concordlaw01.WireTurns', WHERE WHAT IT READS IS OF BULK AT MOST 1048576: true; the input reads as it did. -/
def wireTurnsUptoRow : OpenClaim := { program := "ytpjepndeppckdaadoor", sum := "bd864c5327c83c0f64ab51ce76a9bb67b88e289fe4a2090a21a4b0c3af86adc5", func := "concord/concordlaw01.WireTurns", spec := "wireTurns", named := ["concord/wire.fourSteps"], apart := false, laid := [("concord/wire.fourSteps", laid_concord_wire_fourSteps)], narrowed := true }
def WireTurnsUptoSaid : Prop := wireTurnsUptoRow.holds Tryd.pinned (OpenSpec.upto wireTurnsSpec)

end Rows
end Go.Proofs.YtpjepndeppckdaaDoor
