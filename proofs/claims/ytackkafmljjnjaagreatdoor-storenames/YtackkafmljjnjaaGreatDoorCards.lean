/-
  DERIVED. GIVEN WITH THE SEED: THE CARDS: each row of YtackkafmljjnjaaGreatDoorRows.lean that lists a variable, with what it lists TIED to the program's text (the seventh form; the later family's looks); each row that meets fmt, with fmt's text TOLD by the authors' own Lean function (tested against real Go, not proved from fmt's source: count such statements apart). THE CARD IS WHAT COUNTS. Prove the row's statement (the work); the ties are given (YtackkafmljjnjaaGreatDoorTie.lean); close each card by the builder's one call (the guide's Derived/Test/ToyasCard.lean, 'card_holds'). Laid BY PROGRAM, IN A SANDBOX (cutbox-door.mjs). By AI agents, Wed Nov 11 2026. No macro, syntax, notation, axiom, sorry.
-/
import Derived.Test.YtackkafmljjnjaaGreatDoorRows
import GoSem.ClaimSeven
namespace Go.Proofs.YtackkafmljjnjaaGreatDoor
namespace Rows

/-- THE TIED CARD OF 'concordlaw07.StoreNames'. -/
def storeNamesCard : Claim7 := { stood := { row := storeNamesRow, standIns := [], harness := (true, "bb792379b6d25303881968a5142e2ad105eb60690f897a9f7cbabb2ee098ba30"), looks := false }, kinds := [], alts := [], laidByText := true, laidKinds := [.data], laidTests := true, laidLooks := .later }
def StoreNamesCardSaid : Prop := Claim7.holds Tryz.pinned (.plain (OpenSpec.ofChange storeNamesSpec)) storeNamesCard

/-- THE TIED CARD OF 'concordlaw07.StorePlays'. -/
def storePlaysCard : Claim7 := { stood := { row := storePlaysRow, standIns := [], harness := (true, "bb792379b6d25303881968a5142e2ad105eb60690f897a9f7cbabb2ee098ba30"), looks := false }, kinds := [], alts := [], laidByText := true, laidKinds := [.data], laidTests := true, laidLooks := .later }
def StorePlaysCardSaid : Prop := Claim7.holds Tryz.pinned (.plain (OpenSpec.ofChange storePlaysSpec)) storePlaysCard

/-- THE TIED CARD OF 'concordlaw07.StoreDisks'. -/
def storeDisksCard : Claim7 := { stood := { row := storeDisksRow, standIns := [], harness := (true, "bb792379b6d25303881968a5142e2ad105eb60690f897a9f7cbabb2ee098ba30"), looks := false }, kinds := [], alts := [], laidByText := true, laidKinds := [.data], laidTests := true, laidLooks := .later }
def StoreDisksCardSaid : Prop := Claim7.holds Tryz.pinned (.plain (OpenSpec.ofChange storeDisksSpec)) storeDisksCard

/-- THE TIED CARD OF 'concordlaw07.StoreAtomic'. -/
def storeAtomicCard : Claim7 := { stood := { row := storeAtomicRow, standIns := [], harness := (true, "bb792379b6d25303881968a5142e2ad105eb60690f897a9f7cbabb2ee098ba30"), looks := false }, kinds := [], alts := [], laidByText := true, laidKinds := [.data], laidTests := true, laidLooks := .later }
def StoreAtomicCardSaid : Prop := Claim7.holds Tryz.pinned (.plain (OpenSpec.ofChange storeAtomicSpec)) storeAtomicCard

/-- THE TIED CARD OF 'concordlaw07.StoreUnseen'. -/
def storeUnseenCard : Claim7 := { stood := { row := storeUnseenRow, standIns := [], harness := (true, "bb792379b6d25303881968a5142e2ad105eb60690f897a9f7cbabb2ee098ba30"), looks := false }, kinds := [], alts := [], laidByText := true, laidKinds := [.data], laidTests := true, laidLooks := .later }
def StoreUnseenCardSaid : Prop := Claim7.holds Tryz.pinned (.plain (OpenSpec.ofChange storeUnseenSpec)) storeUnseenCard

/-- THE TIED CARD OF 'concordlaw07.StoreSpace'. -/
def storeSpaceCard : Claim7 := { stood := { row := storeSpaceRow, standIns := [], harness := (true, "bb792379b6d25303881968a5142e2ad105eb60690f897a9f7cbabb2ee098ba30"), looks := false }, kinds := [], alts := [], laidByText := true, laidKinds := [.data], laidTests := true, laidLooks := .later }
def StoreSpaceCardSaid : Prop := Claim7.holds Tryz.pinned (.plain (OpenSpec.ofChange storeSpaceSpec)) storeSpaceCard

/-- THE SECOND FORM's CARD OF 'concordlaw07.StoreNames'. -/
def storeNamesUptoCard : Claim7 := { stood := { row := storeNamesUptoRow, standIns := [], harness := (true, "bb792379b6d25303881968a5142e2ad105eb60690f897a9f7cbabb2ee098ba30"), looks := false }, kinds := [], alts := [], laidByText := true, laidKinds := [.data], laidTests := true, laidLooks := .later }
def StoreNamesUptoCardSaid : Prop := Claim7.holds Tryz.pinned (.plain (OpenSpec.upto storeNamesSpec)) storeNamesUptoCard

/-- THE SECOND FORM's CARD OF 'concordlaw07.StorePlays'. -/
def storePlaysUptoCard : Claim7 := { stood := { row := storePlaysUptoRow, standIns := [], harness := (true, "bb792379b6d25303881968a5142e2ad105eb60690f897a9f7cbabb2ee098ba30"), looks := false }, kinds := [], alts := [], laidByText := true, laidKinds := [.data], laidTests := true, laidLooks := .later }
def StorePlaysUptoCardSaid : Prop := Claim7.holds Tryz.pinned (.plain (OpenSpec.upto storePlaysSpec)) storePlaysUptoCard

/-- THE SECOND FORM's CARD OF 'concordlaw07.StoreDisks'. -/
def storeDisksUptoCard : Claim7 := { stood := { row := storeDisksUptoRow, standIns := [], harness := (true, "bb792379b6d25303881968a5142e2ad105eb60690f897a9f7cbabb2ee098ba30"), looks := false }, kinds := [], alts := [], laidByText := true, laidKinds := [.data], laidTests := true, laidLooks := .later }
def StoreDisksUptoCardSaid : Prop := Claim7.holds Tryz.pinned (.plain (OpenSpec.upto storeDisksSpec)) storeDisksUptoCard

/-- THE SECOND FORM's CARD OF 'concordlaw07.StoreAtomic'. -/
def storeAtomicUptoCard : Claim7 := { stood := { row := storeAtomicUptoRow, standIns := [], harness := (true, "bb792379b6d25303881968a5142e2ad105eb60690f897a9f7cbabb2ee098ba30"), looks := false }, kinds := [], alts := [], laidByText := true, laidKinds := [.data], laidTests := true, laidLooks := .later }
def StoreAtomicUptoCardSaid : Prop := Claim7.holds Tryz.pinned (.plain (OpenSpec.upto storeAtomicSpec)) storeAtomicUptoCard

/-- THE SECOND FORM's CARD OF 'concordlaw07.StoreUnseen'. -/
def storeUnseenUptoCard : Claim7 := { stood := { row := storeUnseenUptoRow, standIns := [], harness := (true, "bb792379b6d25303881968a5142e2ad105eb60690f897a9f7cbabb2ee098ba30"), looks := false }, kinds := [], alts := [], laidByText := true, laidKinds := [.data], laidTests := true, laidLooks := .later }
def StoreUnseenUptoCardSaid : Prop := Claim7.holds Tryz.pinned (.plain (OpenSpec.upto storeUnseenSpec)) storeUnseenUptoCard

/-- THE SECOND FORM's CARD OF 'concordlaw07.StoreSpace'. -/
def storeSpaceUptoCard : Claim7 := { stood := { row := storeSpaceUptoRow, standIns := [], harness := (true, "bb792379b6d25303881968a5142e2ad105eb60690f897a9f7cbabb2ee098ba30"), looks := false }, kinds := [], alts := [], laidByText := true, laidKinds := [.data], laidTests := true, laidLooks := .later }
def StoreSpaceUptoCardSaid : Prop := Claim7.holds Tryz.pinned (.plain (OpenSpec.upto storeSpaceSpec)) storeSpaceUptoCard
end Rows
end Go.Proofs.YtackkafmljjnjaaGreatDoor
