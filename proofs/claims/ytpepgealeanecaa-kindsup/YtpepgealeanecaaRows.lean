/-
  No cell of these rows narrows 'for every input' (looked for: loops, veiled, ifaces, maps, wideKeys, modest, calm, conditions, laid).
  DERIVED. THE GIVEN ROWS OF THIS SEAT. 8 by the template 'for every input the law returns true; each argument reads behind the call as it read before'; 0 by the template 'total and deterministic' (their statements: YtpepgealeanecaaTotals.lean).
  GIVEN WITH THE SEED: the statements are not yours to turn. If you find one false, say at which input.
  Laid BY PROGRAM, IN A SANDBOX (cutbox-rows.mjs): the forced cells as the released guide's own fill.sh prints them over the translation b0cbe5ed95267fa6… (all of the seat's roots in one cut). By AI agents, Wed Nov 11 2026. No macro, syntax, notation, axiom, sorry.
-/
import Derived.Test.YtpepgealeanecaaChecked
import GoSem.Claim
import GoSem.ClaimJoined
import GoSem.ClaimMapViews
import Derived.JoinedTies
import Derived.KernelRfl
namespace Go.Proofs.Ytpepgealeanecaa
/- THE CELL 'sum', in the pinned program and in every row, IS THE sha256 OF THE DUMP (.gsa) THAT YtpepgealeanecaaProg.lean LOADS. Nothing in Lean hashes anything: it is a label: what it is worth is what the hold of that sum in a sandbox is worth. -/
noncomputable def Try.pinned : Pinned := { name := "ytpepgealeanecaa", sum := "b0cbe5ed95267fa63d4111d9b3820a7d4ca1b57835fb9d48844ca0b0ec79b1e3", checked := Try.checked }
namespace Rows
def none {H : Type} : Left H := { results := [], args := [] }

/-- 'concordlaw12.KindsJoins': WHATEVER THE INPUT: true; the input reads as it did. -/
def kindsJoinsSpec : ChangeSpec := { name := "kindsJoins", fn := fun _ => fun
  | [d1, d2] => { results := [.lit (.bool true)], args := [d1, d2] }
  | _ => none }
def kindsJoinsRow : OpenClaim := { program := "ytpepgealeanecaa", sum := "b0cbe5ed95267fa63d4111d9b3820a7d4ca1b57835fb9d48844ca0b0ec79b1e3", func := "concord/concordlaw12.KindsJoins", spec := "kindsJoins", inPlace := ["math.Float64frombits", "math.Float64bits"], recurses := true, apart := false }
def KindsJoinsSaid : Prop := kindsJoinsRow.holds Try.pinned (OpenSpec.ofChange kindsJoinsSpec)

/-- ITS FALSE NEIGHBOUR: 'it returns false'. Refute it at one input. -/
def kindsJoinsWrong : ChangeSpec := { name := "kindsJoins", fn := fun _ => fun
  | [d1, d2] => { results := [.lit (.bool false)], args := [d1, d2] }
  | _ => none }
def KindsJoinsWrongFalsely : Prop := kindsJoinsRow.holds Try.pinned (OpenSpec.ofChange kindsJoinsWrong)

/-- 'concordlaw12.KindsReads': WHATEVER THE INPUT: true; the input reads as it did. -/
def kindsReadsSpec : ChangeSpec := { name := "kindsReads", fn := fun _ => fun
  | [d] => { results := [.lit (.bool true)], args := [d] }
  | _ => none }
def kindsReadsRow : OpenClaim := { program := "ytpepgealeanecaa", sum := "b0cbe5ed95267fa63d4111d9b3820a7d4ca1b57835fb9d48844ca0b0ec79b1e3", func := "concord/concordlaw12.KindsReads", spec := "kindsReads", inPlace := ["math.Float64frombits", "math.Float64bits"], recurses := true, apart := false }
def KindsReadsSaid : Prop := kindsReadsRow.holds Try.pinned (OpenSpec.ofChange kindsReadsSpec)

/-- ITS FALSE NEIGHBOUR: 'it returns false'. Refute it at one input. -/
def kindsReadsWrong : ChangeSpec := { name := "kindsReads", fn := fun _ => fun
  | [d] => { results := [.lit (.bool false)], args := [d] }
  | _ => none }
def KindsReadsWrongFalsely : Prop := kindsReadsRow.holds Try.pinned (OpenSpec.ofChange kindsReadsWrong)

/-- 'concordlaw12.KindsFloats': WHATEVER THE INPUT: true; the input reads as it did. -/
def kindsFloatsSpec : ChangeSpec := { name := "kindsFloats", fn := fun _ => fun
  | [d1, d2] => { results := [.lit (.bool true)], args := [d1, d2] }
  | _ => none }
def kindsFloatsRow : OpenClaim := { program := "ytpepgealeanecaa", sum := "b0cbe5ed95267fa63d4111d9b3820a7d4ca1b57835fb9d48844ca0b0ec79b1e3", func := "concord/concordlaw12.KindsFloats", spec := "kindsFloats", inPlace := ["math.Float64frombits", "math.Float64bits"], recurses := true, apart := false }
def KindsFloatsSaid : Prop := kindsFloatsRow.holds Try.pinned (OpenSpec.ofChange kindsFloatsSpec)

/-- ITS FALSE NEIGHBOUR: 'it returns false'. Refute it at one input. -/
def kindsFloatsWrong : ChangeSpec := { name := "kindsFloats", fn := fun _ => fun
  | [d1, d2] => { results := [.lit (.bool false)], args := [d1, d2] }
  | _ => none }
def KindsFloatsWrongFalsely : Prop := kindsFloatsRow.holds Try.pinned (OpenSpec.ofChange kindsFloatsWrong)

/-- 'concordlaw12.KindsSteps': WHATEVER THE INPUT: true; the input reads as it did. -/
def kindsStepsSpec : ChangeSpec := { name := "kindsSteps", fn := fun _ => fun
  | [d1, d2] => { results := [.lit (.bool true)], args := [d1, d2] }
  | _ => none }
def kindsStepsRow : OpenClaim := { program := "ytpepgealeanecaa", sum := "b0cbe5ed95267fa63d4111d9b3820a7d4ca1b57835fb9d48844ca0b0ec79b1e3", func := "concord/concordlaw12.KindsSteps", spec := "kindsSteps", inPlace := ["math.Float64frombits", "math.Float64bits"], recurses := true, apart := false }
def KindsStepsSaid : Prop := kindsStepsRow.holds Try.pinned (OpenSpec.ofChange kindsStepsSpec)

/-- ITS FALSE NEIGHBOUR: 'it returns false'. Refute it at one input. -/
def kindsStepsWrong : ChangeSpec := { name := "kindsSteps", fn := fun _ => fun
  | [d1, d2] => { results := [.lit (.bool false)], args := [d1, d2] }
  | _ => none }
def KindsStepsWrongFalsely : Prop := kindsStepsRow.holds Try.pinned (OpenSpec.ofChange kindsStepsWrong)

/-- 'concordlaw12.KindsRunes': WHATEVER THE INPUT: true; the input reads as it did. -/
def kindsRunesSpec : ChangeSpec := { name := "kindsRunes", fn := fun _ => fun
  | [d] => { results := [.lit (.bool true)], args := [d] }
  | _ => none }
def kindsRunesRow : OpenClaim := { program := "ytpepgealeanecaa", sum := "b0cbe5ed95267fa63d4111d9b3820a7d4ca1b57835fb9d48844ca0b0ec79b1e3", func := "concord/concordlaw12.KindsRunes", spec := "kindsRunes", inPlace := ["math.Float64bits", "math.Float64frombits"], recurses := true, apart := false }
def KindsRunesSaid : Prop := kindsRunesRow.holds Try.pinned (OpenSpec.ofChange kindsRunesSpec)

/-- ITS FALSE NEIGHBOUR: 'it returns false'. Refute it at one input. -/
def kindsRunesWrong : ChangeSpec := { name := "kindsRunes", fn := fun _ => fun
  | [d] => { results := [.lit (.bool false)], args := [d] }
  | _ => none }
def KindsRunesWrongFalsely : Prop := kindsRunesRow.holds Try.pinned (OpenSpec.ofChange kindsRunesWrong)

/-- 'concordlaw12.KindsLattice': WHATEVER THE INPUT: true; the input reads as it did. -/
def kindsLatticeSpec : ChangeSpec := { name := "kindsLattice", fn := fun _ => fun
  | [d1, d2, d3] => { results := [.lit (.bool true)], args := [d1, d2, d3] }
  | _ => none }
def kindsLatticeRow : OpenClaim := { program := "ytpepgealeanecaa", sum := "b0cbe5ed95267fa63d4111d9b3820a7d4ca1b57835fb9d48844ca0b0ec79b1e3", func := "concord/concordlaw12.KindsLattice", spec := "kindsLattice", inPlace := ["math.Float64frombits", "math.Float64bits"], recurses := true, apart := false }
def KindsLatticeSaid : Prop := kindsLatticeRow.holds Try.pinned (OpenSpec.ofChange kindsLatticeSpec)

/-- ITS FALSE NEIGHBOUR: 'it returns false'. Refute it at one input. -/
def kindsLatticeWrong : ChangeSpec := { name := "kindsLattice", fn := fun _ => fun
  | [d1, d2, d3] => { results := [.lit (.bool false)], args := [d1, d2, d3] }
  | _ => none }
def KindsLatticeWrongFalsely : Prop := kindsLatticeRow.holds Try.pinned (OpenSpec.ofChange kindsLatticeWrong)

/-- 'concordlaw12.KindsOrder': WHATEVER THE INPUT: true; the input reads as it did. -/
def kindsOrderSpec : ChangeSpec := { name := "kindsOrder", fn := fun _ => fun
  | [d1, d2] => { results := [.lit (.bool true)], args := [d1, d2] }
  | _ => none }
def kindsOrderRow : OpenClaim := { program := "ytpepgealeanecaa", sum := "b0cbe5ed95267fa63d4111d9b3820a7d4ca1b57835fb9d48844ca0b0ec79b1e3", func := "concord/concordlaw12.KindsOrder", spec := "kindsOrder", inPlace := ["math.Float64frombits", "math.Float64bits"], recurses := true, apart := false }
def KindsOrderSaid : Prop := kindsOrderRow.holds Try.pinned (OpenSpec.ofChange kindsOrderSpec)

/-- ITS FALSE NEIGHBOUR: 'it returns false'. Refute it at one input. -/
def kindsOrderWrong : ChangeSpec := { name := "kindsOrder", fn := fun _ => fun
  | [d1, d2] => { results := [.lit (.bool false)], args := [d1, d2] }
  | _ => none }
def KindsOrderWrongFalsely : Prop := kindsOrderRow.holds Try.pinned (OpenSpec.ofChange kindsOrderWrong)

/-- 'concordlaw12.KindsUp': WHATEVER THE INPUT: true; the input reads as it did. -/
def kindsUpSpec : ChangeSpec := { name := "kindsUp", fn := fun _ => fun
  | [d1, d2] => { results := [.lit (.bool true)], args := [d1, d2] }
  | _ => none }
def kindsUpRow : OpenClaim := { program := "ytpepgealeanecaa", sum := "b0cbe5ed95267fa63d4111d9b3820a7d4ca1b57835fb9d48844ca0b0ec79b1e3", func := "concord/concordlaw12.KindsUp", spec := "kindsUp", inPlace := ["math.Float64bits", "math.Float64frombits"], recurses := true, apart := false }
def KindsUpSaid : Prop := kindsUpRow.holds Try.pinned (OpenSpec.ofChange kindsUpSpec)

/-- ITS FALSE NEIGHBOUR: 'it returns false'. Refute it at one input. -/
def kindsUpWrong : ChangeSpec := { name := "kindsUp", fn := fun _ => fun
  | [d1, d2] => { results := [.lit (.bool false)], args := [d1, d2] }
  | _ => none }
def KindsUpWrongFalsely : Prop := kindsUpRow.holds Try.pinned (OpenSpec.ofChange kindsUpWrong)

/- THE SECOND FORM. 'bulk': how many values and letters a reading holds, each counted each time it is reached (what is shared counts as often as it is met; a slice's spare places count too). A statement '..UptoSaid' is the law's where the arguments, and the package variables that the reading takes, are together of bulk at most 1048576: NARROWER than '..Said'. Prove '..Said' where nothing that the law and all that it calls make is longer than what came in: it says more and counts as full. Else prove '..UptoSaid'. A law counts once. -/
mutual
def uptoBulk {H : Type} : DataW H → Nat
  | .lit (.string bytes) => bytes.length + 1
  | .lit _ => 1
  | .nil => 1
  | .ptr d => uptoBulk d + 1
  | .slice elems spare => uptoBulkAll elems + uptoBulkAll spare + 1
  | .agg parts => uptoBulkAll parts + 1
  | .iface _ d => uptoBulk d + 1
  | .map entries => uptoBulkEntries entries + 1
  | .held _ => 1
def uptoBulkAll {H : Type} : List (DataW H) → Nat
  | [] => 0
  | d :: r => uptoBulk d + uptoBulkAll r
def uptoBulkEntries {H : Type} : List (Lit × DataW H) → Nat
  | [] => 0
  | x :: r => uptoBulkEntry x + uptoBulkEntries r
def uptoBulkEntry {H : Type} : Lit × DataW H → Nat
  | (.string bytes, d) => bytes.length + uptoBulk d + 1
  | (_, d) => uptoBulk d + 1
 end
def uptoSmall : (H : Type) → List (DataW H) → Bool := fun _ ds => decide (uptoBulkAll ds ≤ 1048576)
def OpenSpec.upto (s : _root_.Go.ChangeSpec) : _root_.Go.OpenSpec := { _root_.Go.OpenSpec.ofChange s with cond := some uptoSmall }

/-- 'concordlaw12.KindsJoins', WHERE WHAT IT READS IS OF BULK AT MOST 1048576: true; the input reads as it did. -/
def kindsJoinsUptoRow : OpenClaim := { program := "ytpepgealeanecaa", sum := "b0cbe5ed95267fa63d4111d9b3820a7d4ca1b57835fb9d48844ca0b0ec79b1e3", func := "concord/concordlaw12.KindsJoins", spec := "kindsJoins", inPlace := ["math.Float64frombits", "math.Float64bits"], recurses := true, apart := false, narrowed := true }
def KindsJoinsUptoSaid : Prop := kindsJoinsUptoRow.holds Try.pinned (OpenSpec.upto kindsJoinsSpec)

/-- 'concordlaw12.KindsReads', WHERE WHAT IT READS IS OF BULK AT MOST 1048576: true; the input reads as it did. -/
def kindsReadsUptoRow : OpenClaim := { program := "ytpepgealeanecaa", sum := "b0cbe5ed95267fa63d4111d9b3820a7d4ca1b57835fb9d48844ca0b0ec79b1e3", func := "concord/concordlaw12.KindsReads", spec := "kindsReads", inPlace := ["math.Float64frombits", "math.Float64bits"], recurses := true, apart := false, narrowed := true }
def KindsReadsUptoSaid : Prop := kindsReadsUptoRow.holds Try.pinned (OpenSpec.upto kindsReadsSpec)

/-- 'concordlaw12.KindsFloats', WHERE WHAT IT READS IS OF BULK AT MOST 1048576: true; the input reads as it did. -/
def kindsFloatsUptoRow : OpenClaim := { program := "ytpepgealeanecaa", sum := "b0cbe5ed95267fa63d4111d9b3820a7d4ca1b57835fb9d48844ca0b0ec79b1e3", func := "concord/concordlaw12.KindsFloats", spec := "kindsFloats", inPlace := ["math.Float64frombits", "math.Float64bits"], recurses := true, apart := false, narrowed := true }
def KindsFloatsUptoSaid : Prop := kindsFloatsUptoRow.holds Try.pinned (OpenSpec.upto kindsFloatsSpec)

/-- 'concordlaw12.KindsSteps', WHERE WHAT IT READS IS OF BULK AT MOST 1048576: true; the input reads as it did. -/
def kindsStepsUptoRow : OpenClaim := { program := "ytpepgealeanecaa", sum := "b0cbe5ed95267fa63d4111d9b3820a7d4ca1b57835fb9d48844ca0b0ec79b1e3", func := "concord/concordlaw12.KindsSteps", spec := "kindsSteps", inPlace := ["math.Float64frombits", "math.Float64bits"], recurses := true, apart := false, narrowed := true }
def KindsStepsUptoSaid : Prop := kindsStepsUptoRow.holds Try.pinned (OpenSpec.upto kindsStepsSpec)

/-- 'concordlaw12.KindsRunes', WHERE WHAT IT READS IS OF BULK AT MOST 1048576: true; the input reads as it did. -/
def kindsRunesUptoRow : OpenClaim := { program := "ytpepgealeanecaa", sum := "b0cbe5ed95267fa63d4111d9b3820a7d4ca1b57835fb9d48844ca0b0ec79b1e3", func := "concord/concordlaw12.KindsRunes", spec := "kindsRunes", inPlace := ["math.Float64bits", "math.Float64frombits"], recurses := true, apart := false, narrowed := true }
def KindsRunesUptoSaid : Prop := kindsRunesUptoRow.holds Try.pinned (OpenSpec.upto kindsRunesSpec)

/-- 'concordlaw12.KindsLattice', WHERE WHAT IT READS IS OF BULK AT MOST 1048576: true; the input reads as it did. -/
def kindsLatticeUptoRow : OpenClaim := { program := "ytpepgealeanecaa", sum := "b0cbe5ed95267fa63d4111d9b3820a7d4ca1b57835fb9d48844ca0b0ec79b1e3", func := "concord/concordlaw12.KindsLattice", spec := "kindsLattice", inPlace := ["math.Float64frombits", "math.Float64bits"], recurses := true, apart := false, narrowed := true }
def KindsLatticeUptoSaid : Prop := kindsLatticeUptoRow.holds Try.pinned (OpenSpec.upto kindsLatticeSpec)

/-- 'concordlaw12.KindsOrder', WHERE WHAT IT READS IS OF BULK AT MOST 1048576: true; the input reads as it did. -/
def kindsOrderUptoRow : OpenClaim := { program := "ytpepgealeanecaa", sum := "b0cbe5ed95267fa63d4111d9b3820a7d4ca1b57835fb9d48844ca0b0ec79b1e3", func := "concord/concordlaw12.KindsOrder", spec := "kindsOrder", inPlace := ["math.Float64frombits", "math.Float64bits"], recurses := true, apart := false, narrowed := true }
def KindsOrderUptoSaid : Prop := kindsOrderUptoRow.holds Try.pinned (OpenSpec.upto kindsOrderSpec)

/-- 'concordlaw12.KindsUp', WHERE WHAT IT READS IS OF BULK AT MOST 1048576: true; the input reads as it did. -/
def kindsUpUptoRow : OpenClaim := { program := "ytpepgealeanecaa", sum := "b0cbe5ed95267fa63d4111d9b3820a7d4ca1b57835fb9d48844ca0b0ec79b1e3", func := "concord/concordlaw12.KindsUp", spec := "kindsUp", inPlace := ["math.Float64bits", "math.Float64frombits"], recurses := true, apart := false, narrowed := true }
def KindsUpUptoSaid : Prop := kindsUpUptoRow.holds Try.pinned (OpenSpec.upto kindsUpSpec)

end Rows
end Go.Proofs.Ytpepgealeanecaa
