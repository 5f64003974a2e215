/-
  No cell of these rows narrows 'for every input' (looked for: loops, veiled, ifaces, maps, wideKeys, modest, calm, conditions, laid).
  DERIVED. THE GIVEN ROWS OF THIS SEAT. 3 by the template 'for every input the law returns true; each argument reads behind the call as it read before'; 0 by the template 'total and deterministic' (their statements: YtloealcaagfehaaTotals.lean).
  GIVEN WITH THE SEED: the statements are not yours to turn. If you find one false, say at which input.
  Laid BY PROGRAM, IN A SANDBOX (cutbox-rows.mjs): the forced cells as the released guide's own fill.sh prints them over the translation 28e9e69b757f5e75… (all of the seat's roots in one cut). By AI agents, Wed Nov 11 2026. No macro, syntax, notation, axiom, sorry.
-/
import Derived.Test.YtloealcaagfehaaChecked
import GoSem.Claim
import GoSem.ClaimJoined
import GoSem.ClaimMapViews
import Derived.JoinedTies
import Derived.KernelRfl
namespace Go.Proofs.Ytloealcaagfehaa
/- THE CELL 'sum', in the pinned program and in every row, IS THE sha256 OF THE DUMP (.gsa) THAT YtloealcaagfehaaProg.lean LOADS. Nothing in Lean hashes anything: it is a label: what it is worth is what the hold of that sum in a sandbox is worth. -/
noncomputable def Try.pinned : Pinned := { name := "ytloealcaagfehaa", sum := "28e9e69b757f5e75642a4a6be60c63131c7657cdb17e8ad01c5f061915d22293", checked := Try.checked }
namespace Rows
def none {H : Type} : Left H := { results := [], args := [] }

/-- 'concordlaw03.BitmapLaws': WHATEVER THE INPUT: true; the input reads as it did. -/
def bitmapLawsSpec : ChangeSpec := { name := "bitmapLaws", fn := fun _ => fun
  | [d1, d2, d3] => { results := [.lit (.bool true)], args := [d1, d2, d3] }
  | _ => none }
def bitmapLawsRow : OpenClaim := { program := "ytloealcaagfehaa", sum := "28e9e69b757f5e75642a4a6be60c63131c7657cdb17e8ad01c5f061915d22293", func := "concord/concordlaw03.BitmapLaws", spec := "bitmapLaws", unfollowed := true, recurses := true, apart := false }
def BitmapLawsSaid : Prop := bitmapLawsRow.holds Try.pinned (OpenSpec.ofChange bitmapLawsSpec)

/-- ITS FALSE NEIGHBOUR: 'it returns false'. Refute it at one input. -/
def bitmapLawsWrong : ChangeSpec := { name := "bitmapLaws", fn := fun _ => fun
  | [d1, d2, d3] => { results := [.lit (.bool false)], args := [d1, d2, d3] }
  | _ => none }
def BitmapLawsWrongFalsely : Prop := bitmapLawsRow.holds Try.pinned (OpenSpec.ofChange bitmapLawsWrong)

/-- 'concordlaw03.BitmapBack': WHATEVER THE INPUT: true; the input reads as it did. -/
def bitmapBackSpec : ChangeSpec := { name := "bitmapBack", fn := fun _ => fun
  | [d1, d2, d3] => { results := [.lit (.bool true)], args := [d1, d2, d3] }
  | _ => none }
def bitmapBackRow : OpenClaim := { program := "ytloealcaagfehaa", sum := "28e9e69b757f5e75642a4a6be60c63131c7657cdb17e8ad01c5f061915d22293", func := "concord/concordlaw03.BitmapBack", spec := "bitmapBack", apart := false }
def BitmapBackSaid : Prop := bitmapBackRow.holds Try.pinned (OpenSpec.ofChange bitmapBackSpec)

/-- ITS FALSE NEIGHBOUR: 'it returns false'. Refute it at one input. -/
def bitmapBackWrong : ChangeSpec := { name := "bitmapBack", fn := fun _ => fun
  | [d1, d2, d3] => { results := [.lit (.bool false)], args := [d1, d2, d3] }
  | _ => none }
def BitmapBackWrongFalsely : Prop := bitmapBackRow.holds Try.pinned (OpenSpec.ofChange bitmapBackWrong)

/-- 'concordlaw03.BitmapApart': WHATEVER THE INPUT: true; the input reads as it did. -/
def bitmapApartSpec : ChangeSpec := { name := "bitmapApart", fn := fun _ => fun
  | [d1, d2, d3] => { results := [.lit (.bool true)], args := [d1, d2, d3] }
  | _ => none }
def bitmapApartRow : OpenClaim := { program := "ytloealcaagfehaa", sum := "28e9e69b757f5e75642a4a6be60c63131c7657cdb17e8ad01c5f061915d22293", func := "concord/concordlaw03.BitmapApart", spec := "bitmapApart", apart := false }
def BitmapApartSaid : Prop := bitmapApartRow.holds Try.pinned (OpenSpec.ofChange bitmapApartSpec)

/-- ITS FALSE NEIGHBOUR: 'it returns false'. Refute it at one input. -/
def bitmapApartWrong : ChangeSpec := { name := "bitmapApart", fn := fun _ => fun
  | [d1, d2, d3] => { results := [.lit (.bool false)], args := [d1, d2, d3] }
  | _ => none }
def BitmapApartWrongFalsely : Prop := bitmapApartRow.holds Try.pinned (OpenSpec.ofChange bitmapApartWrong)

/- THE SECOND FORM. 'bulk': how many values and letters a reading holds, each counted each time it is reached (what is shared counts as often as it is met; a slice's spare places count too). A statement '..UptoSaid' is the law's where the arguments, and the package variables that the reading takes, are together of bulk at most 1048576: NARROWER than '..Said'. Prove '..Said' where nothing that the law and all that it calls make is longer than what came in: it says more and counts as full. Else prove '..UptoSaid'. A law counts once. -/
mutual
def uptoBulk {H : Type} : DataW H → Nat
  | .lit (.string bytes) => bytes.length + 1
  | .lit _ => 1
  | .nil => 1
  | .ptr d => uptoBulk d + 1
  | .slice elems spare => uptoBulkAll elems + uptoBulkAll spare + 1
  | .agg parts => uptoBulkAll parts + 1
  | .iface _ d => uptoBulk d + 1
  | .map entries => uptoBulkEntries entries + 1
  | .held _ => 1
def uptoBulkAll {H : Type} : List (DataW H) → Nat
  | [] => 0
  | d :: r => uptoBulk d + uptoBulkAll r
def uptoBulkEntries {H : Type} : List (Lit × DataW H) → Nat
  | [] => 0
  | x :: r => uptoBulkEntry x + uptoBulkEntries r
def uptoBulkEntry {H : Type} : Lit × DataW H → Nat
  | (.string bytes, d) => bytes.length + uptoBulk d + 1
  | (_, d) => uptoBulk d + 1
 end
def uptoSmall : (H : Type) → List (DataW H) → Bool := fun _ ds => decide (uptoBulkAll ds ≤ 1048576)
def OpenSpec.upto (s : _root_.Go.ChangeSpec) : _root_.Go.OpenSpec := { _root_.Go.OpenSpec.ofChange s with cond := some uptoSmall }

/-- 'concordlaw03.BitmapLaws', WHERE WHAT IT READS IS OF BULK AT MOST 1048576: true; the input reads as it did. -/
def bitmapLawsUptoRow : OpenClaim := { program := "ytloealcaagfehaa", sum := "28e9e69b757f5e75642a4a6be60c63131c7657cdb17e8ad01c5f061915d22293", func := "concord/concordlaw03.BitmapLaws", spec := "bitmapLaws", unfollowed := true, recurses := true, apart := false, narrowed := true }
def BitmapLawsUptoSaid : Prop := bitmapLawsUptoRow.holds Try.pinned (OpenSpec.upto bitmapLawsSpec)

/-- 'concordlaw03.BitmapBack', WHERE WHAT IT READS IS OF BULK AT MOST 1048576: true; the input reads as it did. -/
def bitmapBackUptoRow : OpenClaim := { program := "ytloealcaagfehaa", sum := "28e9e69b757f5e75642a4a6be60c63131c7657cdb17e8ad01c5f061915d22293", func := "concord/concordlaw03.BitmapBack", spec := "bitmapBack", apart := false, narrowed := true }
def BitmapBackUptoSaid : Prop := bitmapBackUptoRow.holds Try.pinned (OpenSpec.upto bitmapBackSpec)

/-- 'concordlaw03.BitmapApart', WHERE WHAT IT READS IS OF BULK AT MOST 1048576: true; the input reads as it did. -/
def bitmapApartUptoRow : OpenClaim := { program := "ytloealcaagfehaa", sum := "28e9e69b757f5e75642a4a6be60c63131c7657cdb17e8ad01c5f061915d22293", func := "concord/concordlaw03.BitmapApart", spec := "bitmapApart", apart := false, narrowed := true }
def BitmapApartUptoSaid : Prop := bitmapApartUptoRow.holds Try.pinned (OpenSpec.upto bitmapApartSpec)

end Rows
end Go.Proofs.Ytloealcaagfehaa
