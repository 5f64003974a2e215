/-
  DERIVED. GIVEN WITH THE SEED: THE CARDS: each row of YtfdfbjijomepgaaDoorRows.lean that lists a variable, with what it lists TIED to the program's text (the seventh form; the later family's looks); each row that meets fmt, with fmt's text TOLD by the authors' own Lean function (tested against real Go, not proved from fmt's source: count such statements apart). THE CARD IS WHAT COUNTS. Prove the row's statement (the work); the ties are given (YtfdfbjijomepgaaDoorTie.lean); close each card by the builder's one call (the guide's Derived/Test/ToyasCard.lean, 'card_holds'). Laid BY PROGRAM, IN A SANDBOX (cutbox-door.mjs). By AI agents, Wed Nov 11 2026. No macro, syntax, notation, axiom, sorry.
-/
import Derived.Test.YtfdfbjijomepgaaDoorRows
import GoSem.ClaimSeven
namespace Go.Proofs.YtfdfbjijomepgaaDoor
namespace Rows

/-- THE TIED CARD OF 'concordlaw06.JournalCalls'. -/
def journalCallsCard : Claim7 := { stood := { row := journalCallsRow, standIns := [], harness := (true, "68d467f95f89416d8ba757d5e36277c3833fded0493952cd61c9f68a05aea846"), looks := false }, kinds := [], alts := [], laidByText := true, laidKinds := [.data], laidTests := true, laidLooks := .later }
def JournalCallsCardSaid : Prop := Claim7.holds Tryd.pinned (.plain (OpenSpec.ofChange journalCallsSpec)) journalCallsCard

/-- THE TIED CARD OF 'concordlaw06.JournalWhole'. -/
def journalWholeCard : Claim7 := { stood := { row := journalWholeRow, standIns := [], harness := (true, "68d467f95f89416d8ba757d5e36277c3833fded0493952cd61c9f68a05aea846"), looks := false }, kinds := [], alts := [], laidByText := true, laidKinds := [.data], laidTests := true, laidLooks := .later }
def JournalWholeCardSaid : Prop := Claim7.holds Tryd.pinned (.plain (OpenSpec.ofChange journalWholeSpec)) journalWholeCard

/-- THE TIED CARD OF 'concordlaw06.JournalNone'. -/
def journalNoneCard : Claim7 := { stood := { row := journalNoneRow, standIns := [], harness := (true, "68d467f95f89416d8ba757d5e36277c3833fded0493952cd61c9f68a05aea846"), looks := false }, kinds := [], alts := [], laidByText := true, laidKinds := [.data], laidTests := true, laidLooks := .later }
def JournalNoneCardSaid : Prop := Claim7.holds Tryd.pinned (.plain (OpenSpec.ofChange journalNoneSpec)) journalNoneCard

/-- THE SECOND FORM's CARD OF 'concordlaw06.JournalCalls'. -/
def journalCallsUptoCard : Claim7 := { stood := { row := journalCallsUptoRow, standIns := [], harness := (true, "68d467f95f89416d8ba757d5e36277c3833fded0493952cd61c9f68a05aea846"), looks := false }, kinds := [], alts := [], laidByText := true, laidKinds := [.data], laidTests := true, laidLooks := .later }
def JournalCallsUptoCardSaid : Prop := Claim7.holds Tryd.pinned (.plain (OpenSpec.upto journalCallsSpec)) journalCallsUptoCard

/-- THE SECOND FORM's CARD OF 'concordlaw06.JournalWhole'. -/
def journalWholeUptoCard : Claim7 := { stood := { row := journalWholeUptoRow, standIns := [], harness := (true, "68d467f95f89416d8ba757d5e36277c3833fded0493952cd61c9f68a05aea846"), looks := false }, kinds := [], alts := [], laidByText := true, laidKinds := [.data], laidTests := true, laidLooks := .later }
def JournalWholeUptoCardSaid : Prop := Claim7.holds Tryd.pinned (.plain (OpenSpec.upto journalWholeSpec)) journalWholeUptoCard

/-- THE SECOND FORM's CARD OF 'concordlaw06.JournalNone'. -/
def journalNoneUptoCard : Claim7 := { stood := { row := journalNoneUptoRow, standIns := [], harness := (true, "68d467f95f89416d8ba757d5e36277c3833fded0493952cd61c9f68a05aea846"), looks := false }, kinds := [], alts := [], laidByText := true, laidKinds := [.data], laidTests := true, laidLooks := .later }
def JournalNoneUptoCardSaid : Prop := Claim7.holds Tryd.pinned (.plain (OpenSpec.upto journalNoneSpec)) journalNoneUptoCard
end Rows
end Go.Proofs.YtfdfbjijomepgaaDoor
