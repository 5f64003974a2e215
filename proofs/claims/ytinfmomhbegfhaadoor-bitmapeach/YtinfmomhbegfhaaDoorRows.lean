/-
  NARROWER THAN 'FOR EVERY INPUT', by the rows' own cells (each row's printed sentence says how): BitmapPlays: laid · BitmapReads: laid · BitmapEach: laid · BitmapNext: laid · BitmapNone: laid.
  DERIVED. THE GIVEN ROWS OF THIS SEAT. 5 by the template 'for every input the law returns true; each argument reads behind the call as it read before'; 0 by the template 'total and deterministic' (their statements: YtinfmomhbegfhaaDoorTotals.lean).
  GIVEN WITH THE SEED: the statements are not yours to turn. If you find one false, say at which input.
  Laid BY PROGRAM, IN A SANDBOX (cutbox-rows.mjs): the forced cells as the released guide's own fill.sh prints them over the translation 985f1bf88029b44b… (all of the seat's roots in one cut). By AI agents, Wed Nov 11 2026. No macro, syntax, notation, axiom, sorry.
-/
import Derived.Test.YtinfmomhbegfhaaDoorChecked
import GoSem.Claim
import GoSem.ClaimJoined
import GoSem.ClaimMapViews
import Derived.JoinedTies
import Derived.KernelRfl
namespace Go.Proofs.YtinfmomhbegfhaaDoor
/- THE CELL 'sum', in the pinned program and in every row, IS THE sha256 OF THE DUMP (.gsa) THAT YtinfmomhbegfhaaDoorProg.lean LOADS. Nothing in Lean hashes anything: it is a label: what it is worth is what the hold of that sum in a sandbox is worth. -/
noncomputable def Tryd.pinned : Pinned := { name := "ytinfmomhbegfhaadoor", sum := "985f1bf88029b44bef62c8acc0374c38f0915b976b5d14ac6e493f7d6e52ba41", checked := Tryd.checked }
namespace Rows
def none {H : Type} : Left H := { results := [], args := [] }

/- WHAT THE LISTED PACKAGE-LEVEL VARIABLES READ AS WHEN THE CALL BEGINS. Each datum BY PROGRAM (the guide's laid-datum.mjs) off the statement by which the dump's own 'gosem.cut.vars' lays the variable. In a bare row this is a premise. The card (YtinfmomhbegfhaaDoorCards.lean) ties it to the program's text. -/
def laid_math_bits_deBruijn64tab {H : Type} : DataW H := .agg [.lit (.int .u8 0), .lit (.int .u8 1), .lit (.int .u8 56), .lit (.int .u8 2), .lit (.int .u8 57), .lit (.int .u8 49), .lit (.int .u8 28), .lit (.int .u8 3), .lit (.int .u8 61), .lit (.int .u8 58), .lit (.int .u8 42), .lit (.int .u8 50), .lit (.int .u8 38), .lit (.int .u8 29), .lit (.int .u8 17), .lit (.int .u8 4), .lit (.int .u8 62), .lit (.int .u8 47), .lit (.int .u8 59), .lit (.int .u8 36), .lit (.int .u8 45), .lit (.int .u8 43), .lit (.int .u8 51), .lit (.int .u8 22), .lit (.int .u8 53), .lit (.int .u8 39), .lit (.int .u8 33), .lit (.int .u8 30), .lit (.int .u8 24), .lit (.int .u8 18), .lit (.int .u8 12), .lit (.int .u8 5), .lit (.int .u8 63), .lit (.int .u8 55), .lit (.int .u8 48), .lit (.int .u8 27), .lit (.int .u8 60), .lit (.int .u8 41), .lit (.int .u8 37), .lit (.int .u8 16), .lit (.int .u8 46), .lit (.int .u8 35), .lit (.int .u8 44), .lit (.int .u8 21), .lit (.int .u8 52), .lit (.int .u8 32), .lit (.int .u8 23), .lit (.int .u8 11), .lit (.int .u8 54), .lit (.int .u8 26), .lit (.int .u8 40), .lit (.int .u8 15), .lit (.int .u8 34), .lit (.int .u8 20), .lit (.int .u8 31), .lit (.int .u8 10), .lit (.int .u8 25), .lit (.int .u8 14), .lit (.int .u8 19), .lit (.int .u8 9), .lit (.int .u8 13), .lit (.int .u8 8), .lit (.int .u8 7), .lit (.int .u8 6)]

/-- 'concordlaw03.BitmapPlays': WHATEVER THE INPUT: true; the input reads as it did. -/
def bitmapPlaysSpec : ChangeSpec := { name := "bitmapPlays", fn := fun _ => fun
  | [d] => { results := [.lit (.bool true)], args := [d] }
  | _ => none }
def bitmapPlaysRow : OpenClaim := { program := "ytinfmomhbegfhaadoor", sum := "985f1bf88029b44bef62c8acc0374c38f0915b976b5d14ac6e493f7d6e52ba41", func := "concord/concordlaw03.BitmapPlays", spec := "bitmapPlays", unfollowed := true, recurses := true, named := ["math/bits.deBruijn64tab"], apart := false, laid := [("math/bits.deBruijn64tab", laid_math_bits_deBruijn64tab)] }
def BitmapPlaysSaid : Prop := bitmapPlaysRow.holds Tryd.pinned (OpenSpec.ofChange bitmapPlaysSpec)

/-- ITS FALSE NEIGHBOUR: 'it returns false'. Refute it at one input. -/
def bitmapPlaysWrong : ChangeSpec := { name := "bitmapPlays", fn := fun _ => fun
  | [d] => { results := [.lit (.bool false)], args := [d] }
  | _ => none }
def BitmapPlaysWrongFalsely : Prop := bitmapPlaysRow.holds Tryd.pinned (OpenSpec.ofChange bitmapPlaysWrong)

/-- 'concordlaw03.BitmapReads': WHATEVER THE INPUT: true; the input reads as it did. -/
def bitmapReadsSpec : ChangeSpec := { name := "bitmapReads", fn := fun _ => fun
  | [d1, d2] => { results := [.lit (.bool true)], args := [d1, d2] }
  | _ => none }
def bitmapReadsRow : OpenClaim := { program := "ytinfmomhbegfhaadoor", sum := "985f1bf88029b44bef62c8acc0374c38f0915b976b5d14ac6e493f7d6e52ba41", func := "concord/concordlaw03.BitmapReads", spec := "bitmapReads", unfollowed := true, recurses := true, named := ["math/bits.deBruijn64tab"], apart := false, laid := [("math/bits.deBruijn64tab", laid_math_bits_deBruijn64tab)] }
def BitmapReadsSaid : Prop := bitmapReadsRow.holds Tryd.pinned (OpenSpec.ofChange bitmapReadsSpec)

/-- ITS FALSE NEIGHBOUR: 'it returns false'. Refute it at one input. -/
def bitmapReadsWrong : ChangeSpec := { name := "bitmapReads", fn := fun _ => fun
  | [d1, d2] => { results := [.lit (.bool false)], args := [d1, d2] }
  | _ => none }
def BitmapReadsWrongFalsely : Prop := bitmapReadsRow.holds Tryd.pinned (OpenSpec.ofChange bitmapReadsWrong)

/-- 'concordlaw03.BitmapEach': WHATEVER THE INPUT: true; the input reads as it did. -/
def bitmapEachSpec : ChangeSpec := { name := "bitmapEach", fn := fun _ => fun
  | [d1, d2, d3] => { results := [.lit (.bool true)], args := [d1, d2, d3] }
  | _ => none }
def bitmapEachRow : OpenClaim := { program := "ytinfmomhbegfhaadoor", sum := "985f1bf88029b44bef62c8acc0374c38f0915b976b5d14ac6e493f7d6e52ba41", func := "concord/concordlaw03.BitmapEach", spec := "bitmapEach", unfollowed := true, recurses := true, named := ["math/bits.deBruijn64tab"], apart := false, laid := [("math/bits.deBruijn64tab", laid_math_bits_deBruijn64tab)] }
def BitmapEachSaid : Prop := bitmapEachRow.holds Tryd.pinned (OpenSpec.ofChange bitmapEachSpec)

/-- ITS FALSE NEIGHBOUR: 'it returns false'. Refute it at one input. -/
def bitmapEachWrong : ChangeSpec := { name := "bitmapEach", fn := fun _ => fun
  | [d1, d2, d3] => { results := [.lit (.bool false)], args := [d1, d2, d3] }
  | _ => none }
def BitmapEachWrongFalsely : Prop := bitmapEachRow.holds Tryd.pinned (OpenSpec.ofChange bitmapEachWrong)

/-- 'concordlaw03.BitmapNext': WHATEVER THE INPUT: true; the input reads as it did. -/
def bitmapNextSpec : ChangeSpec := { name := "bitmapNext", fn := fun _ => fun
  | [d1, d2, d3] => { results := [.lit (.bool true)], args := [d1, d2, d3] }
  | _ => none }
def bitmapNextRow : OpenClaim := { program := "ytinfmomhbegfhaadoor", sum := "985f1bf88029b44bef62c8acc0374c38f0915b976b5d14ac6e493f7d6e52ba41", func := "concord/concordlaw03.BitmapNext", spec := "bitmapNext", unfollowed := true, recurses := true, named := ["math/bits.deBruijn64tab"], apart := false, laid := [("math/bits.deBruijn64tab", laid_math_bits_deBruijn64tab)] }
def BitmapNextSaid : Prop := bitmapNextRow.holds Tryd.pinned (OpenSpec.ofChange bitmapNextSpec)

/-- ITS FALSE NEIGHBOUR: 'it returns false'. Refute it at one input. -/
def bitmapNextWrong : ChangeSpec := { name := "bitmapNext", fn := fun _ => fun
  | [d1, d2, d3] => { results := [.lit (.bool false)], args := [d1, d2, d3] }
  | _ => none }
def BitmapNextWrongFalsely : Prop := bitmapNextRow.holds Tryd.pinned (OpenSpec.ofChange bitmapNextWrong)

/-- 'concordlaw03.BitmapNone': WHATEVER THE INPUT: true; the input reads as it did. -/
def bitmapNoneSpec : ChangeSpec := { name := "bitmapNone", fn := fun _ => fun
  | [] => { results := [.lit (.bool true)], args := [] }
  | _ => none }
def bitmapNoneRow : OpenClaim := { program := "ytinfmomhbegfhaadoor", sum := "985f1bf88029b44bef62c8acc0374c38f0915b976b5d14ac6e493f7d6e52ba41", func := "concord/concordlaw03.BitmapNone", spec := "bitmapNone", unfollowed := true, recurses := true, named := ["math/bits.deBruijn64tab"], apart := false, laid := [("math/bits.deBruijn64tab", laid_math_bits_deBruijn64tab)] }
def BitmapNoneSaid : Prop := bitmapNoneRow.holds Tryd.pinned (OpenSpec.ofChange bitmapNoneSpec)

/-- ITS FALSE NEIGHBOUR: 'it returns false'. Refute it at one input. -/
def bitmapNoneWrong : ChangeSpec := { name := "bitmapNone", fn := fun _ => fun
  | [] => { results := [.lit (.bool false)], args := [] }
  | _ => none }
def BitmapNoneWrongFalsely : Prop := bitmapNoneRow.holds Tryd.pinned (OpenSpec.ofChange bitmapNoneWrong)

/- THE SECOND FORM. 'bulk': how many values and letters a reading holds, each counted each time it is reached (what is shared counts as often as it is met; a slice's spare places count too). A statement '..UptoSaid' is the law's where the arguments, and the package variables that the reading takes, are together of bulk at most 1048576: NARROWER than '..Said'. Prove '..Said' where nothing that the law and all that it calls make is longer than what came in: it says more and counts as full. Else prove '..UptoSaid'. A law counts once. -/
mutual
def uptoBulk {H : Type} : DataW H → Nat
  | .lit (.string bytes) => bytes.length + 1
  | .lit _ => 1
  | .nil => 1
  | .ptr d => uptoBulk d + 1
  | .slice elems spare => uptoBulkAll elems + uptoBulkAll spare + 1
  | .agg parts => uptoBulkAll parts + 1
  | .iface _ d => uptoBulk d + 1
  | .map entries => uptoBulkEntries entries + 1
  | .held _ => 1
def uptoBulkAll {H : Type} : List (DataW H) → Nat
  | [] => 0
  | d :: r => uptoBulk d + uptoBulkAll r
def uptoBulkEntries {H : Type} : List (Lit × DataW H) → Nat
  | [] => 0
  | x :: r => uptoBulkEntry x + uptoBulkEntries r
def uptoBulkEntry {H : Type} : Lit × DataW H → Nat
  | (.string bytes, d) => bytes.length + uptoBulk d + 1
  | (_, d) => uptoBulk d + 1
 end
def uptoSmall : (H : Type) → List (DataW H) → Bool := fun _ ds => decide (uptoBulkAll ds ≤ 1048576)
def OpenSpec.upto (s : _root_.Go.ChangeSpec) : _root_.Go.OpenSpec := { _root_.Go.OpenSpec.ofChange s with cond := some uptoSmall }

/-- 'concordlaw03.BitmapPlays', WHERE WHAT IT READS IS OF BULK AT MOST 1048576: true; the input reads as it did. -/
def bitmapPlaysUptoRow : OpenClaim := { program := "ytinfmomhbegfhaadoor", sum := "985f1bf88029b44bef62c8acc0374c38f0915b976b5d14ac6e493f7d6e52ba41", func := "concord/concordlaw03.BitmapPlays", spec := "bitmapPlays", unfollowed := true, recurses := true, named := ["math/bits.deBruijn64tab"], apart := false, laid := [("math/bits.deBruijn64tab", laid_math_bits_deBruijn64tab)], narrowed := true }
def BitmapPlaysUptoSaid : Prop := bitmapPlaysUptoRow.holds Tryd.pinned (OpenSpec.upto bitmapPlaysSpec)

/-- 'concordlaw03.BitmapReads', WHERE WHAT IT READS IS OF BULK AT MOST 1048576: true; the input reads as it did. -/
def bitmapReadsUptoRow : OpenClaim := { program := "ytinfmomhbegfhaadoor", sum := "985f1bf88029b44bef62c8acc0374c38f0915b976b5d14ac6e493f7d6e52ba41", func := "concord/concordlaw03.BitmapReads", spec := "bitmapReads", unfollowed := true, recurses := true, named := ["math/bits.deBruijn64tab"], apart := false, laid := [("math/bits.deBruijn64tab", laid_math_bits_deBruijn64tab)], narrowed := true }
def BitmapReadsUptoSaid : Prop := bitmapReadsUptoRow.holds Tryd.pinned (OpenSpec.upto bitmapReadsSpec)

/-- 'concordlaw03.BitmapEach', WHERE WHAT IT READS IS OF BULK AT MOST 1048576: true; the input reads as it did. -/
def bitmapEachUptoRow : OpenClaim := { program := "ytinfmomhbegfhaadoor", sum := "985f1bf88029b44bef62c8acc0374c38f0915b976b5d14ac6e493f7d6e52ba41", func := "concord/concordlaw03.BitmapEach", spec := "bitmapEach", unfollowed := true, recurses := true, named := ["math/bits.deBruijn64tab"], apart := false, laid := [("math/bits.deBruijn64tab", laid_math_bits_deBruijn64tab)], narrowed := true }
def BitmapEachUptoSaid : Prop := bitmapEachUptoRow.holds Tryd.pinned (OpenSpec.upto bitmapEachSpec)

/-- 'concordlaw03.BitmapNext', WHERE WHAT IT READS IS OF BULK AT MOST 1048576: true; the input reads as it did. -/
def bitmapNextUptoRow : OpenClaim := { program := "ytinfmomhbegfhaadoor", sum := "985f1bf88029b44bef62c8acc0374c38f0915b976b5d14ac6e493f7d6e52ba41", func := "concord/concordlaw03.BitmapNext", spec := "bitmapNext", unfollowed := true, recurses := true, named := ["math/bits.deBruijn64tab"], apart := false, laid := [("math/bits.deBruijn64tab", laid_math_bits_deBruijn64tab)], narrowed := true }
def BitmapNextUptoSaid : Prop := bitmapNextUptoRow.holds Tryd.pinned (OpenSpec.upto bitmapNextSpec)

/-- 'concordlaw03.BitmapNone', WHERE WHAT IT READS IS OF BULK AT MOST 1048576: true; the input reads as it did. -/
def bitmapNoneUptoRow : OpenClaim := { program := "ytinfmomhbegfhaadoor", sum := "985f1bf88029b44bef62c8acc0374c38f0915b976b5d14ac6e493f7d6e52ba41", func := "concord/concordlaw03.BitmapNone", spec := "bitmapNone", unfollowed := true, recurses := true, named := ["math/bits.deBruijn64tab"], apart := false, laid := [("math/bits.deBruijn64tab", laid_math_bits_deBruijn64tab)], narrowed := true }
def BitmapNoneUptoSaid : Prop := bitmapNoneUptoRow.holds Tryd.pinned (OpenSpec.upto bitmapNoneSpec)

end Rows
end Go.Proofs.YtinfmomhbegfhaaDoor
