/-
  DERIVED. GIVEN WITH THE SEED: THE CARDS: each row of YtkmcjjlkammlaaaDoorRows.lean that lists a variable, with what it lists TIED to the program's text (the seventh form; the later family's looks); each row that meets fmt, with fmt's text TOLD by the authors' own Lean function (tested against real Go, not proved from fmt's source: count such statements apart). THE CARD IS WHAT COUNTS. Prove the row's statement (the work); the ties are given (YtkmcjjlkammlaaaDoorTie.lean); close each card by the builder's one call (the guide's Derived/Test/ToyasCard.lean, 'card_holds'). Laid BY PROGRAM, IN A SANDBOX (cutbox-door.mjs). By AI agents, Wed Nov 11 2026. No macro, syntax, notation, axiom, sorry.
-/
import Derived.Test.YtkmcjjlkammlaaaDoorRows
import GoSem.ClaimSeven
namespace Go.Proofs.YtkmcjjlkammlaaaDoor
namespace Rows

/-- THE TIED CARD OF 'concordlaw05.PageEncodes'. -/
def pageEncodesCard : Claim7 := { stood := { row := pageEncodesRow, standIns := [], harness := (true, "426eac169b0041960db620cc499df42c7465ff8988e84c1d7d8c43933fbb0f9a"), looks := false }, kinds := [], alts := [], laidByText := true, laidKinds := [.data], laidTests := true, laidLooks := .later }
def PageEncodesCardSaid : Prop := Claim7.holds Tryd.pinned (.plain (OpenSpec.ofChange pageEncodesSpec)) pageEncodesCard

/-- THE TIED CARD OF 'concordlaw05.PageDecodes'. -/
def pageDecodesCard : Claim7 := { stood := { row := pageDecodesRow, standIns := [], harness := (true, "426eac169b0041960db620cc499df42c7465ff8988e84c1d7d8c43933fbb0f9a"), looks := false }, kinds := [], alts := [], laidByText := true, laidKinds := [.data], laidTests := true, laidLooks := .later }
def PageDecodesCardSaid : Prop := Claim7.holds Tryd.pinned (.plain (OpenSpec.ofChange pageDecodesSpec)) pageDecodesCard

/-- THE TIED CARD OF 'concordlaw05.PageNames'. -/
def pageNamesCard : Claim7 := { stood := { row := pageNamesRow, standIns := [], harness := (true, "426eac169b0041960db620cc499df42c7465ff8988e84c1d7d8c43933fbb0f9a"), looks := false }, kinds := [], alts := [], laidByText := true, laidKinds := [.data], laidTests := true, laidLooks := .later }
def PageNamesCardSaid : Prop := Claim7.holds Tryd.pinned (.plain (OpenSpec.ofChange pageNamesSpec)) pageNamesCard

/-- THE TIED CARD OF 'concordlaw05.PageBack'. -/
def pageBackCard : Claim7 := { stood := { row := pageBackRow, standIns := [], harness := (true, "426eac169b0041960db620cc499df42c7465ff8988e84c1d7d8c43933fbb0f9a"), looks := false }, kinds := [], alts := [], laidByText := true, laidKinds := [.data], laidTests := true, laidLooks := .later }
def PageBackCardSaid : Prop := Claim7.holds Tryd.pinned (.plain (OpenSpec.ofChange pageBackSpec)) pageBackCard

/-- THE TIED CARD OF 'concordlaw05.PageTears'. -/
def pageTearsCard : Claim7 := { stood := { row := pageTearsRow, standIns := [], harness := (true, "426eac169b0041960db620cc499df42c7465ff8988e84c1d7d8c43933fbb0f9a"), looks := false }, kinds := [], alts := [], laidByText := true, laidKinds := [.data], laidTests := true, laidLooks := .later }
def PageTearsCardSaid : Prop := Claim7.holds Tryd.pinned (.plain (OpenSpec.ofChange pageTearsSpec)) pageTearsCard

/-- THE TIED CARD OF 'concordlaw05.PageTurns'. -/
def pageTurnsCard : Claim7 := { stood := { row := pageTurnsRow, standIns := [], harness := (true, "426eac169b0041960db620cc499df42c7465ff8988e84c1d7d8c43933fbb0f9a"), looks := false }, kinds := [], alts := [], laidByText := true, laidKinds := [.data], laidTests := true, laidLooks := .later }
def PageTurnsCardSaid : Prop := Claim7.holds Tryd.pinned (.plain (OpenSpec.ofChange pageTurnsSpec)) pageTurnsCard

/-- THE SECOND FORM's CARD OF 'concordlaw05.PageEncodes'. -/
def pageEncodesUptoCard : Claim7 := { stood := { row := pageEncodesUptoRow, standIns := [], harness := (true, "426eac169b0041960db620cc499df42c7465ff8988e84c1d7d8c43933fbb0f9a"), looks := false }, kinds := [], alts := [], laidByText := true, laidKinds := [.data], laidTests := true, laidLooks := .later }
def PageEncodesUptoCardSaid : Prop := Claim7.holds Tryd.pinned (.plain (OpenSpec.upto pageEncodesSpec)) pageEncodesUptoCard

/-- THE SECOND FORM's CARD OF 'concordlaw05.PageDecodes'. -/
def pageDecodesUptoCard : Claim7 := { stood := { row := pageDecodesUptoRow, standIns := [], harness := (true, "426eac169b0041960db620cc499df42c7465ff8988e84c1d7d8c43933fbb0f9a"), looks := false }, kinds := [], alts := [], laidByText := true, laidKinds := [.data], laidTests := true, laidLooks := .later }
def PageDecodesUptoCardSaid : Prop := Claim7.holds Tryd.pinned (.plain (OpenSpec.upto pageDecodesSpec)) pageDecodesUptoCard

/-- THE SECOND FORM's CARD OF 'concordlaw05.PageNames'. -/
def pageNamesUptoCard : Claim7 := { stood := { row := pageNamesUptoRow, standIns := [], harness := (true, "426eac169b0041960db620cc499df42c7465ff8988e84c1d7d8c43933fbb0f9a"), looks := false }, kinds := [], alts := [], laidByText := true, laidKinds := [.data], laidTests := true, laidLooks := .later }
def PageNamesUptoCardSaid : Prop := Claim7.holds Tryd.pinned (.plain (OpenSpec.upto pageNamesSpec)) pageNamesUptoCard

/-- THE SECOND FORM's CARD OF 'concordlaw05.PageBack'. -/
def pageBackUptoCard : Claim7 := { stood := { row := pageBackUptoRow, standIns := [], harness := (true, "426eac169b0041960db620cc499df42c7465ff8988e84c1d7d8c43933fbb0f9a"), looks := false }, kinds := [], alts := [], laidByText := true, laidKinds := [.data], laidTests := true, laidLooks := .later }
def PageBackUptoCardSaid : Prop := Claim7.holds Tryd.pinned (.plain (OpenSpec.upto pageBackSpec)) pageBackUptoCard

/-- THE SECOND FORM's CARD OF 'concordlaw05.PageTears'. -/
def pageTearsUptoCard : Claim7 := { stood := { row := pageTearsUptoRow, standIns := [], harness := (true, "426eac169b0041960db620cc499df42c7465ff8988e84c1d7d8c43933fbb0f9a"), looks := false }, kinds := [], alts := [], laidByText := true, laidKinds := [.data], laidTests := true, laidLooks := .later }
def PageTearsUptoCardSaid : Prop := Claim7.holds Tryd.pinned (.plain (OpenSpec.upto pageTearsSpec)) pageTearsUptoCard

/-- THE SECOND FORM's CARD OF 'concordlaw05.PageTurns'. -/
def pageTurnsUptoCard : Claim7 := { stood := { row := pageTurnsUptoRow, standIns := [], harness := (true, "426eac169b0041960db620cc499df42c7465ff8988e84c1d7d8c43933fbb0f9a"), looks := false }, kinds := [], alts := [], laidByText := true, laidKinds := [.data], laidTests := true, laidLooks := .later }
def PageTurnsUptoCardSaid : Prop := Claim7.holds Tryd.pinned (.plain (OpenSpec.upto pageTurnsSpec)) pageTurnsUptoCard
end Rows
end Go.Proofs.YtkmcjjlkammlaaaDoor
