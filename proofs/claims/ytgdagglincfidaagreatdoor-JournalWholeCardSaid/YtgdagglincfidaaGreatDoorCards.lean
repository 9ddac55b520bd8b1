/-
  DERIVED. GIVEN WITH THE SEED: THE CARDS: each row of YtgdagglincfidaaGreatDoorRows.lean that lists a variable, with what it lists TIED to the program's text (the seventh form; the later family's looks); each row that meets fmt, with fmt's text TOLD by the authors' own Lean function (tested against real Go, not proved from fmt's source: count such statements apart). THE CARD IS WHAT COUNTS. Prove the row's statement (the work); the ties are given (YtgdagglincfidaaGreatDoorTie.lean); close each card by the builder's one call (the guide's Derived/Test/ToyasCard.lean, 'card_holds'). Laid BY PROGRAM, IN A SANDBOX (cutbox-door.mjs). By AI agents, Wed Nov 11 2026. No macro, syntax, notation, axiom, sorry.
-/
import Derived.Test.YtgdagglincfidaaGreatDoorRows
import GoSem.ClaimSeven
namespace Go.Proofs.YtgdagglincfidaaGreatDoor
namespace Rows

/-- THE TIED CARD OF 'cofferlaw11.JournalCodes'. -/
def journalCodesCard : Claim7 := { stood := { row := journalCodesRow, standIns := [], harness := (true, "1a2780c3aaebf4f8606d7008f6e3c884bd8b20df9921bcbebc2b9892b194b54b"), looks := false }, kinds := [], alts := [], laidByText := true, laidKinds := [.data, .pinned], laidTests := true, laidLooks := .later }
def JournalCodesCardSaid : Prop := Claim7.holds Tryz.pinned (.plain (OpenSpec.ofChange journalCodesSpec)) journalCodesCard

/-- THE TIED CARD OF 'cofferlaw11.JournalWhole'. -/
def journalWholeCard : Claim7 := { stood := { row := journalWholeRow, standIns := [], harness := (true, "1a2780c3aaebf4f8606d7008f6e3c884bd8b20df9921bcbebc2b9892b194b54b"), looks := false }, kinds := [], alts := [], laidByText := true, laidKinds := [.data, .pinned], laidTests := true, laidLooks := .later }
def JournalWholeCardSaid : Prop := Claim7.holds Tryz.pinned (.plain (OpenSpec.ofChange journalWholeSpec)) journalWholeCard

/-- THE SECOND FORM's CARD OF 'cofferlaw11.JournalCodes'. -/
def journalCodesUptoCard : Claim7 := { stood := { row := journalCodesUptoRow, standIns := [], harness := (true, "1a2780c3aaebf4f8606d7008f6e3c884bd8b20df9921bcbebc2b9892b194b54b"), looks := false }, kinds := [], alts := [], laidByText := true, laidKinds := [.data, .pinned], laidTests := true, laidLooks := .later }
def JournalCodesUptoCardSaid : Prop := Claim7.holds Tryz.pinned (.plain (OpenSpec.upto journalCodesSpec)) journalCodesUptoCard

/-- THE SECOND FORM's CARD OF 'cofferlaw11.JournalWhole'. -/
def journalWholeUptoCard : Claim7 := { stood := { row := journalWholeUptoRow, standIns := [], harness := (true, "1a2780c3aaebf4f8606d7008f6e3c884bd8b20df9921bcbebc2b9892b194b54b"), looks := false }, kinds := [], alts := [], laidByText := true, laidKinds := [.data, .pinned], laidTests := true, laidLooks := .later }
def JournalWholeUptoCardSaid : Prop := Claim7.holds Tryz.pinned (.plain (OpenSpec.upto journalWholeSpec)) journalWholeUptoCard
end Rows
end Go.Proofs.YtgdagglincfidaaGreatDoor
