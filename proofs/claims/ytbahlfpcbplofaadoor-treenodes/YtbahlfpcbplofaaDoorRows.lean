/-
  NARROWER THAN 'FOR EVERY INPUT', by the rows' own cells (each row's printed sentence says how): TreeDiffers: laid · TreeNodes: laid · TreeClash: laid · TreeSums: laid · TreeBack: laid · TreeEach: laid · TreeNone: laid.
  DERIVED. THE GIVEN ROWS OF THIS SEAT. 7 by the template 'for every input the law returns true; each argument reads behind the call as it read before'; 0 by the template 'total and deterministic' (their statements: YtbahlfpcbplofaaDoorTotals.lean).
  GIVEN WITH THE SEED: the statements are not yours to turn. If you find one false, say at which input.
  Laid BY PROGRAM, IN A SANDBOX (cutbox-rows.mjs): the forced cells as the released guide's own fill.sh prints them over the translation 5ca913570f2e94a5… (all of the seat's roots in one cut). By AI agents, Wed Nov 11 2026. No macro, syntax, notation, axiom, sorry.
-/
import Derived.Test.YtbahlfpcbplofaaDoorChecked
import GoSem.Claim
import GoSem.ClaimJoined
import GoSem.ClaimMapViews
import Derived.JoinedTies
import Derived.KernelRfl
namespace Go.Proofs.YtbahlfpcbplofaaDoor
/- THE CELL 'sum', in the pinned program and in every row, IS THE sha256 OF THE DUMP (.gsa) THAT YtbahlfpcbplofaaDoorProg.lean LOADS. Nothing in Lean hashes anything: it is a label: what it is worth is what the hold of that sum in a sandbox is worth. -/
noncomputable def Tryd.pinned : Pinned := { name := "ytbahlfpcbplofaadoor", sum := "5ca913570f2e94a5b366bad31524028bf659e1c6dcdff1eb8fb760299c4a3502", checked := Tryd.checked }
namespace Rows
def none {H : Type} : Left H := { results := [], args := [] }

/- WHAT THE LISTED PACKAGE-LEVEL VARIABLES READ AS WHEN THE CALL BEGINS. Each datum BY PROGRAM (the guide's laid-datum.mjs) off the statement by which the dump's own 'gosem.cut.vars' lays the variable. In a bare row this is a premise. The card (YtbahlfpcbplofaaDoorCards.lean) ties it to the program's text. -/
def laid_concord_tree_firsts {H : Type} : DataW H := .agg [.lit (.int .i64 0), .lit (.int .i64 1), .lit (.int .i64 17), .lit (.int .i64 273), .lit (.int .i64 4369)]

/-- 'concordlaw15.TreeDiffers': WHATEVER THE INPUT: true; the input reads as it did. -/
def treeDiffersSpec : ChangeSpec := { name := "treeDiffers", fn := fun _ => fun
  | [d1, d2, d3] => { results := [.lit (.bool true)], args := [d1, d2, d3] }
  | _ => none }
def treeDiffersRow : OpenClaim := { program := "ytbahlfpcbplofaadoor", sum := "5ca913570f2e94a5b366bad31524028bf659e1c6dcdff1eb8fb760299c4a3502", func := "concord/concordlaw15.TreeDiffers", spec := "treeDiffers", unfollowed := true, recurses := true, named := ["concord/tree.firsts"], apart := false, laid := [("concord/tree.firsts", laid_concord_tree_firsts)] }
def TreeDiffersSaid : Prop := treeDiffersRow.holds Tryd.pinned (OpenSpec.ofChange treeDiffersSpec)

/-- ITS FALSE NEIGHBOUR: 'it returns false'. Refute it at one input. -/
def treeDiffersWrong : ChangeSpec := { name := "treeDiffers", fn := fun _ => fun
  | [d1, d2, d3] => { results := [.lit (.bool false)], args := [d1, d2, d3] }
  | _ => none }
def TreeDiffersWrongFalsely : Prop := treeDiffersRow.holds Tryd.pinned (OpenSpec.ofChange treeDiffersWrong)

/-- 'concordlaw15.TreeNodes': WHATEVER THE INPUT: true; the input reads as it did. -/
def treeNodesSpec : ChangeSpec := { name := "treeNodes", fn := fun _ => fun
  | [d1, d2, d3] => { results := [.lit (.bool true)], args := [d1, d2, d3] }
  | _ => none }
def treeNodesRow : OpenClaim := { program := "ytbahlfpcbplofaadoor", sum := "5ca913570f2e94a5b366bad31524028bf659e1c6dcdff1eb8fb760299c4a3502", func := "concord/concordlaw15.TreeNodes", spec := "treeNodes", named := ["concord/tree.firsts"], apart := false, laid := [("concord/tree.firsts", laid_concord_tree_firsts)] }
def TreeNodesSaid : Prop := treeNodesRow.holds Tryd.pinned (OpenSpec.ofChange treeNodesSpec)

/-- ITS FALSE NEIGHBOUR: 'it returns false'. Refute it at one input. -/
def treeNodesWrong : ChangeSpec := { name := "treeNodes", fn := fun _ => fun
  | [d1, d2, d3] => { results := [.lit (.bool false)], args := [d1, d2, d3] }
  | _ => none }
def TreeNodesWrongFalsely : Prop := treeNodesRow.holds Tryd.pinned (OpenSpec.ofChange treeNodesWrong)

/-- 'concordlaw15.TreeClash': WHATEVER THE INPUT: true; the input reads as it did. -/
def treeClashSpec : ChangeSpec := { name := "treeClash", fn := fun _ => fun
  | [d1, d2, d3] => { results := [.lit (.bool true)], args := [d1, d2, d3] }
  | _ => none }
def treeClashRow : OpenClaim := { program := "ytbahlfpcbplofaadoor", sum := "5ca913570f2e94a5b366bad31524028bf659e1c6dcdff1eb8fb760299c4a3502", func := "concord/concordlaw15.TreeClash", spec := "treeClash", unfollowed := true, recurses := true, named := ["concord/tree.firsts"], apart := false, laid := [("concord/tree.firsts", laid_concord_tree_firsts)] }
def TreeClashSaid : Prop := treeClashRow.holds Tryd.pinned (OpenSpec.ofChange treeClashSpec)

/-- ITS FALSE NEIGHBOUR: 'it returns false'. Refute it at one input. -/
def treeClashWrong : ChangeSpec := { name := "treeClash", fn := fun _ => fun
  | [d1, d2, d3] => { results := [.lit (.bool false)], args := [d1, d2, d3] }
  | _ => none }
def TreeClashWrongFalsely : Prop := treeClashRow.holds Tryd.pinned (OpenSpec.ofChange treeClashWrong)

/-- 'concordlaw15.TreeSums': WHATEVER THE INPUT: true; the input reads as it did. -/
def treeSumsSpec : ChangeSpec := { name := "treeSums", fn := fun _ => fun
  | [d1, d2, d3] => { results := [.lit (.bool true)], args := [d1, d2, d3] }
  | _ => none }
def treeSumsRow : OpenClaim := { program := "ytbahlfpcbplofaadoor", sum := "5ca913570f2e94a5b366bad31524028bf659e1c6dcdff1eb8fb760299c4a3502", func := "concord/concordlaw15.TreeSums", spec := "treeSums", unfollowed := true, recurses := true, named := ["concord/tree.firsts"], apart := false, laid := [("concord/tree.firsts", laid_concord_tree_firsts)] }
def TreeSumsSaid : Prop := treeSumsRow.holds Tryd.pinned (OpenSpec.ofChange treeSumsSpec)

/-- ITS FALSE NEIGHBOUR: 'it returns false'. Refute it at one input. -/
def treeSumsWrong : ChangeSpec := { name := "treeSums", fn := fun _ => fun
  | [d1, d2, d3] => { results := [.lit (.bool false)], args := [d1, d2, d3] }
  | _ => none }
def TreeSumsWrongFalsely : Prop := treeSumsRow.holds Tryd.pinned (OpenSpec.ofChange treeSumsWrong)

/-- 'concordlaw15.TreeBack': WHATEVER THE INPUT: true; the input reads as it did. -/
def treeBackSpec : ChangeSpec := { name := "treeBack", fn := fun _ => fun
  | [d1, d2, d3] => { results := [.lit (.bool true)], args := [d1, d2, d3] }
  | _ => none }
def treeBackRow : OpenClaim := { program := "ytbahlfpcbplofaadoor", sum := "5ca913570f2e94a5b366bad31524028bf659e1c6dcdff1eb8fb760299c4a3502", func := "concord/concordlaw15.TreeBack", spec := "treeBack", unfollowed := true, recurses := true, named := ["concord/tree.firsts"], apart := false, laid := [("concord/tree.firsts", laid_concord_tree_firsts)] }
def TreeBackSaid : Prop := treeBackRow.holds Tryd.pinned (OpenSpec.ofChange treeBackSpec)

/-- ITS FALSE NEIGHBOUR: 'it returns false'. Refute it at one input. -/
def treeBackWrong : ChangeSpec := { name := "treeBack", fn := fun _ => fun
  | [d1, d2, d3] => { results := [.lit (.bool false)], args := [d1, d2, d3] }
  | _ => none }
def TreeBackWrongFalsely : Prop := treeBackRow.holds Tryd.pinned (OpenSpec.ofChange treeBackWrong)

/-- 'concordlaw15.TreeEach': WHATEVER THE INPUT: true; the input reads as it did. -/
def treeEachSpec : ChangeSpec := { name := "treeEach", fn := fun _ => fun
  | [d1, d2, d3] => { results := [.lit (.bool true)], args := [d1, d2, d3] }
  | _ => none }
def treeEachRow : OpenClaim := { program := "ytbahlfpcbplofaadoor", sum := "5ca913570f2e94a5b366bad31524028bf659e1c6dcdff1eb8fb760299c4a3502", func := "concord/concordlaw15.TreeEach", spec := "treeEach", unfollowed := true, recurses := true, named := ["concord/tree.firsts"], apart := false, laid := [("concord/tree.firsts", laid_concord_tree_firsts)] }
def TreeEachSaid : Prop := treeEachRow.holds Tryd.pinned (OpenSpec.ofChange treeEachSpec)

/-- ITS FALSE NEIGHBOUR: 'it returns false'. Refute it at one input. -/
def treeEachWrong : ChangeSpec := { name := "treeEach", fn := fun _ => fun
  | [d1, d2, d3] => { results := [.lit (.bool false)], args := [d1, d2, d3] }
  | _ => none }
def TreeEachWrongFalsely : Prop := treeEachRow.holds Tryd.pinned (OpenSpec.ofChange treeEachWrong)

/-- 'concordlaw15.TreeNone': WHATEVER THE INPUT: true; the input reads as it did. -/
def treeNoneSpec : ChangeSpec := { name := "treeNone", fn := fun _ => fun
  | [] => { results := [.lit (.bool true)], args := [] }
  | _ => none }
def treeNoneRow : OpenClaim := { program := "ytbahlfpcbplofaadoor", sum := "5ca913570f2e94a5b366bad31524028bf659e1c6dcdff1eb8fb760299c4a3502", func := "concord/concordlaw15.TreeNone", spec := "treeNone", unfollowed := true, recurses := true, named := ["concord/tree.firsts"], apart := false, laid := [("concord/tree.firsts", laid_concord_tree_firsts)] }
def TreeNoneSaid : Prop := treeNoneRow.holds Tryd.pinned (OpenSpec.ofChange treeNoneSpec)

/-- ITS FALSE NEIGHBOUR: 'it returns false'. Refute it at one input. -/
def treeNoneWrong : ChangeSpec := { name := "treeNone", fn := fun _ => fun
  | [] => { results := [.lit (.bool false)], args := [] }
  | _ => none }
def TreeNoneWrongFalsely : Prop := treeNoneRow.holds Tryd.pinned (OpenSpec.ofChange treeNoneWrong)

/- THE SECOND FORM. 'bulk': how many values and letters a reading holds, each counted each time it is reached (what is shared counts as often as it is met; a slice's spare places count too). A statement '..UptoSaid' is the law's where the arguments, and the package variables that the reading takes, are together of bulk at most 1048576: NARROWER than '..Said'. Prove '..Said' where nothing that the law and all that it calls make is longer than what came in: it says more and counts as full. Else prove '..UptoSaid'. A law counts once. -/
mutual
def uptoBulk {H : Type} : DataW H → Nat
  | .lit (.string bytes) => bytes.length + 1
  | .lit _ => 1
  | .nil => 1
  | .ptr d => uptoBulk d + 1
  | .slice elems spare => uptoBulkAll elems + uptoBulkAll spare + 1
  | .agg parts => uptoBulkAll parts + 1
  | .iface _ d => uptoBulk d + 1
  | .map entries => uptoBulkEntries entries + 1
  | .held _ => 1
def uptoBulkAll {H : Type} : List (DataW H) → Nat
  | [] => 0
  | d :: r => uptoBulk d + uptoBulkAll r
def uptoBulkEntries {H : Type} : List (Lit × DataW H) → Nat
  | [] => 0
  | x :: r => uptoBulkEntry x + uptoBulkEntries r
def uptoBulkEntry {H : Type} : Lit × DataW H → Nat
  | (.string bytes, d) => bytes.length + uptoBulk d + 1
  | (_, d) => uptoBulk d + 1
 end
def uptoSmall : (H : Type) → List (DataW H) → Bool := fun _ ds => decide (uptoBulkAll ds ≤ 1048576)
def OpenSpec.upto (s : _root_.Go.ChangeSpec) : _root_.Go.OpenSpec := { _root_.Go.OpenSpec.ofChange s with cond := some uptoSmall }

/-- 'concordlaw15.TreeDiffers', WHERE WHAT IT READS IS OF BULK AT MOST 1048576: true; the input reads as it did. -/
def treeDiffersUptoRow : OpenClaim := { program := "ytbahlfpcbplofaadoor", sum := "5ca913570f2e94a5b366bad31524028bf659e1c6dcdff1eb8fb760299c4a3502", func := "concord/concordlaw15.TreeDiffers", spec := "treeDiffers", unfollowed := true, recurses := true, named := ["concord/tree.firsts"], apart := false, laid := [("concord/tree.firsts", laid_concord_tree_firsts)], narrowed := true }
def TreeDiffersUptoSaid : Prop := treeDiffersUptoRow.holds Tryd.pinned (OpenSpec.upto treeDiffersSpec)

/-- 'concordlaw15.TreeNodes', WHERE WHAT IT READS IS OF BULK AT MOST 1048576: true; the input reads as it did. -/
def treeNodesUptoRow : OpenClaim := { program := "ytbahlfpcbplofaadoor", sum := "5ca913570f2e94a5b366bad31524028bf659e1c6dcdff1eb8fb760299c4a3502", func := "concord/concordlaw15.TreeNodes", spec := "treeNodes", named := ["concord/tree.firsts"], apart := false, laid := [("concord/tree.firsts", laid_concord_tree_firsts)], narrowed := true }
def TreeNodesUptoSaid : Prop := treeNodesUptoRow.holds Tryd.pinned (OpenSpec.upto treeNodesSpec)

/-- 'concordlaw15.TreeClash', WHERE WHAT IT READS IS OF BULK AT MOST 1048576: true; the input reads as it did. -/
def treeClashUptoRow : OpenClaim := { program := "ytbahlfpcbplofaadoor", sum := "5ca913570f2e94a5b366bad31524028bf659e1c6dcdff1eb8fb760299c4a3502", func := "concord/concordlaw15.TreeClash", spec := "treeClash", unfollowed := true, recurses := true, named := ["concord/tree.firsts"], apart := false, laid := [("concord/tree.firsts", laid_concord_tree_firsts)], narrowed := true }
def TreeClashUptoSaid : Prop := treeClashUptoRow.holds Tryd.pinned (OpenSpec.upto treeClashSpec)

/-- 'concordlaw15.TreeSums', WHERE WHAT IT READS IS OF BULK AT MOST 1048576: true; the input reads as it did. -/
def treeSumsUptoRow : OpenClaim := { program := "ytbahlfpcbplofaadoor", sum := "5ca913570f2e94a5b366bad31524028bf659e1c6dcdff1eb8fb760299c4a3502", func := "concord/concordlaw15.TreeSums", spec := "treeSums", unfollowed := true, recurses := true, named := ["concord/tree.firsts"], apart := false, laid := [("concord/tree.firsts", laid_concord_tree_firsts)], narrowed := true }
def TreeSumsUptoSaid : Prop := treeSumsUptoRow.holds Tryd.pinned (OpenSpec.upto treeSumsSpec)

/-- 'concordlaw15.TreeBack', WHERE WHAT IT READS IS OF BULK AT MOST 1048576: true; the input reads as it did. -/
def treeBackUptoRow : OpenClaim := { program := "ytbahlfpcbplofaadoor", sum := "5ca913570f2e94a5b366bad31524028bf659e1c6dcdff1eb8fb760299c4a3502", func := "concord/concordlaw15.TreeBack", spec := "treeBack", unfollowed := true, recurses := true, named := ["concord/tree.firsts"], apart := false, laid := [("concord/tree.firsts", laid_concord_tree_firsts)], narrowed := true }
def TreeBackUptoSaid : Prop := treeBackUptoRow.holds Tryd.pinned (OpenSpec.upto treeBackSpec)

/-- 'concordlaw15.TreeEach', WHERE WHAT IT READS IS OF BULK AT MOST 1048576: true; the input reads as it did. -/
def treeEachUptoRow : OpenClaim := { program := "ytbahlfpcbplofaadoor", sum := "5ca913570f2e94a5b366bad31524028bf659e1c6dcdff1eb8fb760299c4a3502", func := "concord/concordlaw15.TreeEach", spec := "treeEach", unfollowed := true, recurses := true, named := ["concord/tree.firsts"], apart := false, laid := [("concord/tree.firsts", laid_concord_tree_firsts)], narrowed := true }
def TreeEachUptoSaid : Prop := treeEachUptoRow.holds Tryd.pinned (OpenSpec.upto treeEachSpec)

/-- 'concordlaw15.TreeNone', WHERE WHAT IT READS IS OF BULK AT MOST 1048576: true; the input reads as it did. -/
def treeNoneUptoRow : OpenClaim := { program := "ytbahlfpcbplofaadoor", sum := "5ca913570f2e94a5b366bad31524028bf659e1c6dcdff1eb8fb760299c4a3502", func := "concord/concordlaw15.TreeNone", spec := "treeNone", unfollowed := true, recurses := true, named := ["concord/tree.firsts"], apart := false, laid := [("concord/tree.firsts", laid_concord_tree_firsts)], narrowed := true }
def TreeNoneUptoSaid : Prop := treeNoneUptoRow.holds Tryd.pinned (OpenSpec.upto treeNoneSpec)

end Rows
end Go.Proofs.YtbahlfpcbplofaaDoor
