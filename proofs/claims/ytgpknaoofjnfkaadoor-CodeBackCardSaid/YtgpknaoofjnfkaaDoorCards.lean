/-
  DERIVED. GIVEN WITH THE SEED: THE CARDS: each row of YtgpknaoofjnfkaaDoorRows.lean that lists a variable, with what it lists TIED to the program's text (the seventh form; the later family's looks); each row that meets fmt, with fmt's text TOLD by the authors' own Lean function (tested against real Go, not proved from fmt's source: count such statements apart). THE CARD IS WHAT COUNTS. Prove the row's statement (the work); the ties are given (YtgpknaoofjnfkaaDoorTie.lean); close each card by the builder's one call (the guide's Derived/Test/ToyasCard.lean, 'card_holds'). Laid BY PROGRAM, IN A SANDBOX (cutbox-door.mjs). By AI agents, Wed Nov 11 2026. No macro, syntax, notation, axiom, sorry.
-/
import Derived.Test.YtgpknaoofjnfkaaDoorRows
import GoSem.ClaimSeven
namespace Go.Proofs.YtgpknaoofjnfkaaDoor
namespace Rows

/-- THE TIED CARD OF 'cofferlaw05.CodeWrites'. -/
def codeWritesCard : Claim7 := { stood := { row := codeWritesRow, standIns := [], harness := (true, "0131bfff6974df7f61a6de146a76684f74a0316c0bf0b65ee182f29a70073873"), looks := false }, kinds := [], alts := [], laidByText := true, laidKinds := [.data, .pinned], laidTests := true, laidLooks := .later }
def CodeWritesCardSaid : Prop := Claim7.holds Tryd.pinned (.plain (OpenSpec.ofChange codeWritesSpec)) codeWritesCard

/-- THE TIED CARD OF 'cofferlaw05.CodeLong'. -/
def codeLongCard : Claim7 := { stood := { row := codeLongRow, standIns := [], harness := (true, "0131bfff6974df7f61a6de146a76684f74a0316c0bf0b65ee182f29a70073873"), looks := false }, kinds := [], alts := [], laidByText := true, laidKinds := [.data, .pinned], laidTests := true, laidLooks := .later }
def CodeLongCardSaid : Prop := Claim7.holds Tryd.pinned (.plain (OpenSpec.ofChange codeLongSpec)) codeLongCard

/-- THE TIED CARD OF 'cofferlaw05.CodeReads'. -/
def codeReadsCard : Claim7 := { stood := { row := codeReadsRow, standIns := [], harness := (true, "0131bfff6974df7f61a6de146a76684f74a0316c0bf0b65ee182f29a70073873"), looks := false }, kinds := [], alts := [], laidByText := true, laidKinds := [.data, .pinned], laidTests := true, laidLooks := .later }
def CodeReadsCardSaid : Prop := Claim7.holds Tryd.pinned (.plain (OpenSpec.ofChange codeReadsSpec)) codeReadsCard

/-- THE TIED CARD OF 'cofferlaw05.CodePads'. -/
def codePadsCard : Claim7 := { stood := { row := codePadsRow, standIns := [], harness := (true, "0131bfff6974df7f61a6de146a76684f74a0316c0bf0b65ee182f29a70073873"), looks := false }, kinds := [], alts := [], laidByText := true, laidKinds := [.data, .pinned], laidTests := true, laidLooks := .later }
def CodePadsCardSaid : Prop := Claim7.holds Tryd.pinned (.plain (OpenSpec.ofChange codePadsSpec)) codePadsCard

/-- THE TIED CARD OF 'cofferlaw05.CodeBack'. -/
def codeBackCard : Claim7 := { stood := { row := codeBackRow, standIns := [], harness := (true, "0131bfff6974df7f61a6de146a76684f74a0316c0bf0b65ee182f29a70073873"), looks := false }, kinds := [], alts := [], laidByText := true, laidKinds := [.data, .pinned], laidTests := true, laidLooks := .later }
def CodeBackCardSaid : Prop := Claim7.holds Tryd.pinned (.plain (OpenSpec.ofChange codeBackSpec)) codeBackCard

/-- THE TIED CARD OF 'cofferlaw05.CodeNil'. -/
def codeNilCard : Claim7 := { stood := { row := codeNilRow, standIns := [], harness := (true, "0131bfff6974df7f61a6de146a76684f74a0316c0bf0b65ee182f29a70073873"), looks := false }, kinds := [], alts := [], laidByText := true, laidKinds := [.data, .pinned], laidTests := true, laidLooks := .later }
def CodeNilCardSaid : Prop := Claim7.holds Tryd.pinned (.plain (OpenSpec.ofChange codeNilSpec)) codeNilCard

/-- THE SECOND FORM's CARD OF 'cofferlaw05.CodeWrites'. -/
def codeWritesUptoCard : Claim7 := { stood := { row := codeWritesUptoRow, standIns := [], harness := (true, "0131bfff6974df7f61a6de146a76684f74a0316c0bf0b65ee182f29a70073873"), looks := false }, kinds := [], alts := [], laidByText := true, laidKinds := [.data, .pinned], laidTests := true, laidLooks := .later }
def CodeWritesUptoCardSaid : Prop := Claim7.holds Tryd.pinned (.plain (OpenSpec.upto codeWritesSpec)) codeWritesUptoCard

/-- THE SECOND FORM's CARD OF 'cofferlaw05.CodeLong'. -/
def codeLongUptoCard : Claim7 := { stood := { row := codeLongUptoRow, standIns := [], harness := (true, "0131bfff6974df7f61a6de146a76684f74a0316c0bf0b65ee182f29a70073873"), looks := false }, kinds := [], alts := [], laidByText := true, laidKinds := [.data, .pinned], laidTests := true, laidLooks := .later }
def CodeLongUptoCardSaid : Prop := Claim7.holds Tryd.pinned (.plain (OpenSpec.upto codeLongSpec)) codeLongUptoCard

/-- THE SECOND FORM's CARD OF 'cofferlaw05.CodeReads'. -/
def codeReadsUptoCard : Claim7 := { stood := { row := codeReadsUptoRow, standIns := [], harness := (true, "0131bfff6974df7f61a6de146a76684f74a0316c0bf0b65ee182f29a70073873"), looks := false }, kinds := [], alts := [], laidByText := true, laidKinds := [.data, .pinned], laidTests := true, laidLooks := .later }
def CodeReadsUptoCardSaid : Prop := Claim7.holds Tryd.pinned (.plain (OpenSpec.upto codeReadsSpec)) codeReadsUptoCard

/-- THE SECOND FORM's CARD OF 'cofferlaw05.CodePads'. -/
def codePadsUptoCard : Claim7 := { stood := { row := codePadsUptoRow, standIns := [], harness := (true, "0131bfff6974df7f61a6de146a76684f74a0316c0bf0b65ee182f29a70073873"), looks := false }, kinds := [], alts := [], laidByText := true, laidKinds := [.data, .pinned], laidTests := true, laidLooks := .later }
def CodePadsUptoCardSaid : Prop := Claim7.holds Tryd.pinned (.plain (OpenSpec.upto codePadsSpec)) codePadsUptoCard

/-- THE SECOND FORM's CARD OF 'cofferlaw05.CodeBack'. -/
def codeBackUptoCard : Claim7 := { stood := { row := codeBackUptoRow, standIns := [], harness := (true, "0131bfff6974df7f61a6de146a76684f74a0316c0bf0b65ee182f29a70073873"), looks := false }, kinds := [], alts := [], laidByText := true, laidKinds := [.data, .pinned], laidTests := true, laidLooks := .later }
def CodeBackUptoCardSaid : Prop := Claim7.holds Tryd.pinned (.plain (OpenSpec.upto codeBackSpec)) codeBackUptoCard

/-- THE SECOND FORM's CARD OF 'cofferlaw05.CodeNil'. -/
def codeNilUptoCard : Claim7 := { stood := { row := codeNilUptoRow, standIns := [], harness := (true, "0131bfff6974df7f61a6de146a76684f74a0316c0bf0b65ee182f29a70073873"), looks := false }, kinds := [], alts := [], laidByText := true, laidKinds := [.data, .pinned], laidTests := true, laidLooks := .later }
def CodeNilUptoCardSaid : Prop := Claim7.holds Tryd.pinned (.plain (OpenSpec.upto codeNilSpec)) codeNilUptoCard
end Rows
end Go.Proofs.YtgpknaoofjnfkaaDoor
