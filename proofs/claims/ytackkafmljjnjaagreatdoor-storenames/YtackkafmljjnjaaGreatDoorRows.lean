/-
  NARROWER THAN 'FOR EVERY INPUT', by the rows' own cells (each row's printed sentence says how): StoreNames: laid · StorePlays: laid · StoreDisks: laid · StoreAtomic: laid · StoreUnseen: laid · StoreSpace: laid.
  DERIVED. THE GIVEN ROWS OF THIS SEAT. 6 by the template 'for every input the law returns true; each argument reads behind the call as it read before'; 0 by the template 'total and deterministic' (their statements: YtackkafmljjnjaaGreatDoorTotals.lean).
  GIVEN WITH THE SEED: the statements are not yours to turn. If you find one false, say at which input.
  Laid BY PROGRAM, IN A SANDBOX (cutbox-rows.mjs): the forced cells as the released guide's own fill.sh prints them over the translation e64d4d323524f760… (all of the seat's roots in one cut). By AI agents, Wed Nov 11 2026. No macro, syntax, notation, axiom, sorry.
-/
import Derived.Test.YtackkafmljjnjaaGreatDoorChecked
import GoSem.Claim
import GoSem.ClaimJoined
import GoSem.ClaimMapViews
import Derived.JoinedTies
import Derived.KernelRfl
namespace Go.Proofs.YtackkafmljjnjaaGreatDoor
/- THE CELL 'sum', in the pinned program and in every row, IS THE sha256 OF THE DUMP (.gsa) THAT YtackkafmljjnjaaGreatDoorProg.lean LOADS. Nothing in Lean hashes anything: it is a label: what it is worth is what the hold of that sum in a sandbox is worth. -/
noncomputable def Tryz.pinned : Pinned := { name := "ytackkafmljjnjaagreatdoor", sum := "e64d4d323524f7601655c4dc5e94c81f0ef2d272dd8e625866e5c9b8b94788bc", checked := Tryz.checked }
namespace Rows
def none {H : Type} : Left H := { results := [], args := [] }

/- WHAT THE LISTED PACKAGE-LEVEL VARIABLES READ AS WHEN THE CALL BEGINS. Each datum BY PROGRAM (the guide's laid-datum.mjs) off the statement by which the dump's own 'gosem.cut.vars' lays the variable. In a bare row this is a premise. The card (YtackkafmljjnjaaGreatDoorCards.lean) ties it to the program's text. -/
def laid_concord_wire_fourSteps {H : Type} : DataW H := .agg [.lit (.int .u32 0), .lit (.int .u32 274646895), .lit (.int .u32 549293790), .lit (.int .u32 820201905), .lit (.int .u32 1098587580), .lit (.int .u32 1361435347), .lit (.int .u32 1640403810), .lit (.int .u32 1905808397), .lit (.int .u32 2197175160), .lit (.int .u32 2460548119), .lit (.int .u32 2722870694), .lit (.int .u32 2987750089), .lit (.int .u32 3280807620), .lit (.int .u32 3553878443), .lit (.int .u32 3811616794), .lit (.int .u32 4084100981)]

/-- 'concordlaw07.StoreNames': WHATEVER THE INPUT: true; the input reads as it did. -/
def storeNamesSpec : ChangeSpec := { name := "storeNames", fn := fun _ => fun
  | [] => { results := [.lit (.bool true)], args := [] }
  | _ => none }
def storeNamesRow : OpenClaim := { program := "ytackkafmljjnjaagreatdoor", sum := "e64d4d323524f7601655c4dc5e94c81f0ef2d272dd8e625866e5c9b8b94788bc", func := "concord/concordlaw07.StoreNames", spec := "storeNames", unfollowed := true, recurses := true, named := ["concord/wire.fourSteps"], apart := false, laid := [("concord/wire.fourSteps", laid_concord_wire_fourSteps)] }
def StoreNamesSaid : Prop := storeNamesRow.holds Tryz.pinned (OpenSpec.ofChange storeNamesSpec)

/-- ITS FALSE NEIGHBOUR: 'it returns false'. Refute it at one input. -/
def storeNamesWrong : ChangeSpec := { name := "storeNames", fn := fun _ => fun
  | [] => { results := [.lit (.bool false)], args := [] }
  | _ => none }
def StoreNamesWrongFalsely : Prop := storeNamesRow.holds Tryz.pinned (OpenSpec.ofChange storeNamesWrong)

/-- 'concordlaw07.StorePlays': WHATEVER THE INPUT: true; the input reads as it did. -/
def storePlaysSpec : ChangeSpec := { name := "storePlays", fn := fun _ => fun
  | [d1, d2, d3] => { results := [.lit (.bool true)], args := [d1, d2, d3] }
  | _ => none }
def storePlaysRow : OpenClaim := { program := "ytackkafmljjnjaagreatdoor", sum := "e64d4d323524f7601655c4dc5e94c81f0ef2d272dd8e625866e5c9b8b94788bc", func := "concord/concordlaw07.StorePlays", spec := "storePlays", unfollowed := true, recurses := true, named := ["concord/wire.fourSteps"], apart := false, laid := [("concord/wire.fourSteps", laid_concord_wire_fourSteps)] }
def StorePlaysSaid : Prop := storePlaysRow.holds Tryz.pinned (OpenSpec.ofChange storePlaysSpec)

/-- ITS FALSE NEIGHBOUR: 'it returns false'. Refute it at one input. -/
def storePlaysWrong : ChangeSpec := { name := "storePlays", fn := fun _ => fun
  | [d1, d2, d3] => { results := [.lit (.bool false)], args := [d1, d2, d3] }
  | _ => none }
def StorePlaysWrongFalsely : Prop := storePlaysRow.holds Tryz.pinned (OpenSpec.ofChange storePlaysWrong)

/-- 'concordlaw07.StoreDisks': WHATEVER THE INPUT: true; the input reads as it did. -/
def storeDisksSpec : ChangeSpec := { name := "storeDisks", fn := fun _ => fun
  | [d1, d2, d3] => { results := [.lit (.bool true)], args := [d1, d2, d3] }
  | _ => none }
def storeDisksRow : OpenClaim := { program := "ytackkafmljjnjaagreatdoor", sum := "e64d4d323524f7601655c4dc5e94c81f0ef2d272dd8e625866e5c9b8b94788bc", func := "concord/concordlaw07.StoreDisks", spec := "storeDisks", unfollowed := true, recurses := true, named := ["concord/wire.fourSteps"], apart := false, laid := [("concord/wire.fourSteps", laid_concord_wire_fourSteps)] }
def StoreDisksSaid : Prop := storeDisksRow.holds Tryz.pinned (OpenSpec.ofChange storeDisksSpec)

/-- ITS FALSE NEIGHBOUR: 'it returns false'. Refute it at one input. -/
def storeDisksWrong : ChangeSpec := { name := "storeDisks", fn := fun _ => fun
  | [d1, d2, d3] => { results := [.lit (.bool false)], args := [d1, d2, d3] }
  | _ => none }
def StoreDisksWrongFalsely : Prop := storeDisksRow.holds Tryz.pinned (OpenSpec.ofChange storeDisksWrong)

/-- 'concordlaw07.StoreAtomic': WHATEVER THE INPUT: true; the input reads as it did. -/
def storeAtomicSpec : ChangeSpec := { name := "storeAtomic", fn := fun _ => fun
  | [d1, d2, d3] => { results := [.lit (.bool true)], args := [d1, d2, d3] }
  | _ => none }
def storeAtomicRow : OpenClaim := { program := "ytackkafmljjnjaagreatdoor", sum := "e64d4d323524f7601655c4dc5e94c81f0ef2d272dd8e625866e5c9b8b94788bc", func := "concord/concordlaw07.StoreAtomic", spec := "storeAtomic", unfollowed := true, recurses := true, named := ["concord/wire.fourSteps"], apart := false, laid := [("concord/wire.fourSteps", laid_concord_wire_fourSteps)] }
def StoreAtomicSaid : Prop := storeAtomicRow.holds Tryz.pinned (OpenSpec.ofChange storeAtomicSpec)

/-- ITS FALSE NEIGHBOUR: 'it returns false'. Refute it at one input. -/
def storeAtomicWrong : ChangeSpec := { name := "storeAtomic", fn := fun _ => fun
  | [d1, d2, d3] => { results := [.lit (.bool false)], args := [d1, d2, d3] }
  | _ => none }
def StoreAtomicWrongFalsely : Prop := storeAtomicRow.holds Tryz.pinned (OpenSpec.ofChange storeAtomicWrong)

/-- 'concordlaw07.StoreUnseen': WHATEVER THE INPUT: true; the input reads as it did. -/
def storeUnseenSpec : ChangeSpec := { name := "storeUnseen", fn := fun _ => fun
  | [d1, d2, d3] => { results := [.lit (.bool true)], args := [d1, d2, d3] }
  | _ => none }
def storeUnseenRow : OpenClaim := { program := "ytackkafmljjnjaagreatdoor", sum := "e64d4d323524f7601655c4dc5e94c81f0ef2d272dd8e625866e5c9b8b94788bc", func := "concord/concordlaw07.StoreUnseen", spec := "storeUnseen", unfollowed := true, recurses := true, named := ["concord/wire.fourSteps"], apart := false, laid := [("concord/wire.fourSteps", laid_concord_wire_fourSteps)] }
def StoreUnseenSaid : Prop := storeUnseenRow.holds Tryz.pinned (OpenSpec.ofChange storeUnseenSpec)

/-- ITS FALSE NEIGHBOUR: 'it returns false'. Refute it at one input. -/
def storeUnseenWrong : ChangeSpec := { name := "storeUnseen", fn := fun _ => fun
  | [d1, d2, d3] => { results := [.lit (.bool false)], args := [d1, d2, d3] }
  | _ => none }
def StoreUnseenWrongFalsely : Prop := storeUnseenRow.holds Tryz.pinned (OpenSpec.ofChange storeUnseenWrong)

/-- 'concordlaw07.StoreSpace': WHATEVER THE INPUT: true; the input reads as it did. -/
def storeSpaceSpec : ChangeSpec := { name := "storeSpace", fn := fun _ => fun
  | [d1, d2] => { results := [.lit (.bool true)], args := [d1, d2] }
  | _ => none }
def storeSpaceRow : OpenClaim := { program := "ytackkafmljjnjaagreatdoor", sum := "e64d4d323524f7601655c4dc5e94c81f0ef2d272dd8e625866e5c9b8b94788bc", func := "concord/concordlaw07.StoreSpace", spec := "storeSpace", unfollowed := true, recurses := true, named := ["concord/wire.fourSteps"], apart := false, laid := [("concord/wire.fourSteps", laid_concord_wire_fourSteps)] }
def StoreSpaceSaid : Prop := storeSpaceRow.holds Tryz.pinned (OpenSpec.ofChange storeSpaceSpec)

/-- ITS FALSE NEIGHBOUR: 'it returns false'. Refute it at one input. -/
def storeSpaceWrong : ChangeSpec := { name := "storeSpace", fn := fun _ => fun
  | [d1, d2] => { results := [.lit (.bool false)], args := [d1, d2] }
  | _ => none }
def StoreSpaceWrongFalsely : Prop := storeSpaceRow.holds Tryz.pinned (OpenSpec.ofChange storeSpaceWrong)

/- THE SECOND FORM. 'bulk': how many values and letters a reading holds, each counted each time it is reached (what is shared counts as often as it is met; a slice's spare places count too). A statement '..UptoSaid' is the law's where the arguments, and the package variables that the reading takes, are together of bulk at most 1048576: NARROWER than '..Said'. Prove '..Said' where nothing that the law and all that it calls make is longer than what came in: it says more and counts as full. Else prove '..UptoSaid'. A law counts once. -/
mutual
def uptoBulk {H : Type} : DataW H → Nat
  | .lit (.string bytes) => bytes.length + 1
  | .lit _ => 1
  | .nil => 1
  | .ptr d => uptoBulk d + 1
  | .slice elems spare => uptoBulkAll elems + uptoBulkAll spare + 1
  | .agg parts => uptoBulkAll parts + 1
  | .iface _ d => uptoBulk d + 1
  | .map entries => uptoBulkEntries entries + 1
  | .held _ => 1
def uptoBulkAll {H : Type} : List (DataW H) → Nat
  | [] => 0
  | d :: r => uptoBulk d + uptoBulkAll r
def uptoBulkEntries {H : Type} : List (Lit × DataW H) → Nat
  | [] => 0
  | x :: r => uptoBulkEntry x + uptoBulkEntries r
def uptoBulkEntry {H : Type} : Lit × DataW H → Nat
  | (.string bytes, d) => bytes.length + uptoBulk d + 1
  | (_, d) => uptoBulk d + 1
 end
def uptoSmall : (H : Type) → List (DataW H) → Bool := fun _ ds => decide (uptoBulkAll ds ≤ 1048576)
def OpenSpec.upto (s : _root_.Go.ChangeSpec) : _root_.Go.OpenSpec := { _root_.Go.OpenSpec.ofChange s with cond := some uptoSmall }

/-- 'concordlaw07.StoreNames', WHERE WHAT IT READS IS OF BULK AT MOST 1048576: true; the input reads as it did. -/
def storeNamesUptoRow : OpenClaim := { program := "ytackkafmljjnjaagreatdoor", sum := "e64d4d323524f7601655c4dc5e94c81f0ef2d272dd8e625866e5c9b8b94788bc", func := "concord/concordlaw07.StoreNames", spec := "storeNames", unfollowed := true, recurses := true, named := ["concord/wire.fourSteps"], apart := false, laid := [("concord/wire.fourSteps", laid_concord_wire_fourSteps)], narrowed := true }
def StoreNamesUptoSaid : Prop := storeNamesUptoRow.holds Tryz.pinned (OpenSpec.upto storeNamesSpec)

/-- 'concordlaw07.StorePlays', WHERE WHAT IT READS IS OF BULK AT MOST 1048576: true; the input reads as it did. -/
def storePlaysUptoRow : OpenClaim := { program := "ytackkafmljjnjaagreatdoor", sum := "e64d4d323524f7601655c4dc5e94c81f0ef2d272dd8e625866e5c9b8b94788bc", func := "concord/concordlaw07.StorePlays", spec := "storePlays", unfollowed := true, recurses := true, named := ["concord/wire.fourSteps"], apart := false, laid := [("concord/wire.fourSteps", laid_concord_wire_fourSteps)], narrowed := true }
def StorePlaysUptoSaid : Prop := storePlaysUptoRow.holds Tryz.pinned (OpenSpec.upto storePlaysSpec)

/-- 'concordlaw07.StoreDisks', WHERE WHAT IT READS IS OF BULK AT MOST 1048576: true; the input reads as it did. -/
def storeDisksUptoRow : OpenClaim := { program := "ytackkafmljjnjaagreatdoor", sum := "e64d4d323524f7601655c4dc5e94c81f0ef2d272dd8e625866e5c9b8b94788bc", func := "concord/concordlaw07.StoreDisks", spec := "storeDisks", unfollowed := true, recurses := true, named := ["concord/wire.fourSteps"], apart := false, laid := [("concord/wire.fourSteps", laid_concord_wire_fourSteps)], narrowed := true }
def StoreDisksUptoSaid : Prop := storeDisksUptoRow.holds Tryz.pinned (OpenSpec.upto storeDisksSpec)

/-- 'concordlaw07.StoreAtomic', WHERE WHAT IT READS IS OF BULK AT MOST 1048576: true; the input reads as it did. -/
def storeAtomicUptoRow : OpenClaim := { program := "ytackkafmljjnjaagreatdoor", sum := "e64d4d323524f7601655c4dc5e94c81f0ef2d272dd8e625866e5c9b8b94788bc", func := "concord/concordlaw07.StoreAtomic", spec := "storeAtomic", unfollowed := true, recurses := true, named := ["concord/wire.fourSteps"], apart := false, laid := [("concord/wire.fourSteps", laid_concord_wire_fourSteps)], narrowed := true }
def StoreAtomicUptoSaid : Prop := storeAtomicUptoRow.holds Tryz.pinned (OpenSpec.upto storeAtomicSpec)

/-- 'concordlaw07.StoreUnseen', WHERE WHAT IT READS IS OF BULK AT MOST 1048576: true; the input reads as it did. -/
def storeUnseenUptoRow : OpenClaim := { program := "ytackkafmljjnjaagreatdoor", sum := "e64d4d323524f7601655c4dc5e94c81f0ef2d272dd8e625866e5c9b8b94788bc", func := "concord/concordlaw07.StoreUnseen", spec := "storeUnseen", unfollowed := true, recurses := true, named := ["concord/wire.fourSteps"], apart := false, laid := [("concord/wire.fourSteps", laid_concord_wire_fourSteps)], narrowed := true }
def StoreUnseenUptoSaid : Prop := storeUnseenUptoRow.holds Tryz.pinned (OpenSpec.upto storeUnseenSpec)

/-- 'concordlaw07.StoreSpace', WHERE WHAT IT READS IS OF BULK AT MOST 1048576: true; the input reads as it did. -/
def storeSpaceUptoRow : OpenClaim := { program := "ytackkafmljjnjaagreatdoor", sum := "e64d4d323524f7601655c4dc5e94c81f0ef2d272dd8e625866e5c9b8b94788bc", func := "concord/concordlaw07.StoreSpace", spec := "storeSpace", unfollowed := true, recurses := true, named := ["concord/wire.fourSteps"], apart := false, laid := [("concord/wire.fourSteps", laid_concord_wire_fourSteps)], narrowed := true }
def StoreSpaceUptoSaid : Prop := storeSpaceUptoRow.holds Tryz.pinned (OpenSpec.upto storeSpaceSpec)

end Rows
end Go.Proofs.YtackkafmljjnjaaGreatDoor
