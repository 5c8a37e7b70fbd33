/-
  DERIVED. GIVEN WITH THE SEED: THE CARDS: each row of YtgpocnapkflihaaDoorRows.lean that lists a variable, with what it lists TIED to the program's text (the seventh form; the later family's looks); each row that meets fmt, with fmt's text TOLD by the authors' own Lean function (tested against real Go, not proved from fmt's source: count such statements apart). THE CARD IS WHAT COUNTS. Prove the row's statement (the work); the ties are given (YtgpocnapkflihaaDoorTie.lean); close each card by the builder's one call (the guide's Derived/Test/ToyasCard.lean, 'card_holds'). Laid BY PROGRAM, IN A SANDBOX (cutbox-door.mjs). By AI agents, Wed Nov 11 2026. No macro, syntax, notation, axiom, sorry.
-/
import Derived.Test.YtgpocnapkflihaaDoorRows
import GoSem.ClaimSeven
namespace Go.Proofs.YtgpocnapkflihaaDoor
namespace Rows

/-- THE TIED CARD OF 'laws.FnExactCorrectByParsing'. -/
def fnExactCorrectByParsingCard : Claim7 := { stood := { row := fnExactCorrectByParsingRow, standIns := [], harness := (true, "d92f3ff18e972d5b0054d8ddb9ee787074e21573dd0c74db6f3d99d5b9445a38"), looks := false }, kinds := [], alts := [], laidByText := true, laidKinds := [.data, .data], laidTests := true, laidLooks := .later }
def FnExactCorrectByParsingCardSaid : Prop := Claim7.holds Tryd.pinned (.plain (OpenSpec.ofChange fnExactCorrectByParsingSpec)) fnExactCorrectByParsingCard

/-- THE TIED CARD OF 'laws.FnExactTerminalLinks'. -/
def fnExactTerminalLinksCard : Claim7 := { stood := { row := fnExactTerminalLinksRow, standIns := [], harness := (true, "d92f3ff18e972d5b0054d8ddb9ee787074e21573dd0c74db6f3d99d5b9445a38"), looks := false }, kinds := [], alts := [], laidByText := true, laidKinds := [.data, .data], laidTests := true, laidLooks := .later }
def FnExactTerminalLinksCardSaid : Prop := Claim7.holds Tryd.pinned (.plain (OpenSpec.ofChange fnExactTerminalLinksSpec)) fnExactTerminalLinksCard

/-- THE TIED CARD OF 'laws.FnExactSplittingLinks'. -/
def fnExactSplittingLinksCard : Claim7 := { stood := { row := fnExactSplittingLinksRow, standIns := [], harness := (true, "d92f3ff18e972d5b0054d8ddb9ee787074e21573dd0c74db6f3d99d5b9445a38"), looks := false }, kinds := [], alts := [], laidByText := true, laidKinds := [.data, .data], laidTests := true, laidLooks := .later }
def FnExactSplittingLinksCardSaid : Prop := Claim7.holds Tryd.pinned (.plain (OpenSpec.ofChange fnExactSplittingLinksSpec)) fnExactSplittingLinksCard

/-- THE TIED CARD OF 'laws.FnExactLastLink'. -/
def fnExactLastLinkCard : Claim7 := { stood := { row := fnExactLastLinkRow, standIns := [], harness := (true, "d92f3ff18e972d5b0054d8ddb9ee787074e21573dd0c74db6f3d99d5b9445a38"), looks := false }, kinds := [], alts := [], laidByText := true, laidKinds := [.data, .data], laidTests := true, laidLooks := .later }
def FnExactLastLinkCardSaid : Prop := Claim7.holds Tryd.pinned (.plain (OpenSpec.ofChange fnExactLastLinkSpec)) fnExactLastLinkCard

/-- THE SECOND FORM's CARD OF 'laws.FnExactCorrectByParsing'. -/
def fnExactCorrectByParsingUptoCard : Claim7 := { stood := { row := fnExactCorrectByParsingUptoRow, standIns := [], harness := (true, "d92f3ff18e972d5b0054d8ddb9ee787074e21573dd0c74db6f3d99d5b9445a38"), looks := false }, kinds := [], alts := [], laidByText := true, laidKinds := [.data, .data], laidTests := true, laidLooks := .later }
def FnExactCorrectByParsingUptoCardSaid : Prop := Claim7.holds Tryd.pinned (.plain (OpenSpec.upto fnExactCorrectByParsingSpec)) fnExactCorrectByParsingUptoCard

/-- THE SECOND FORM's CARD OF 'laws.FnExactTerminalLinks'. -/
def fnExactTerminalLinksUptoCard : Claim7 := { stood := { row := fnExactTerminalLinksUptoRow, standIns := [], harness := (true, "d92f3ff18e972d5b0054d8ddb9ee787074e21573dd0c74db6f3d99d5b9445a38"), looks := false }, kinds := [], alts := [], laidByText := true, laidKinds := [.data, .data], laidTests := true, laidLooks := .later }
def FnExactTerminalLinksUptoCardSaid : Prop := Claim7.holds Tryd.pinned (.plain (OpenSpec.upto fnExactTerminalLinksSpec)) fnExactTerminalLinksUptoCard

/-- THE SECOND FORM's CARD OF 'laws.FnExactSplittingLinks'. -/
def fnExactSplittingLinksUptoCard : Claim7 := { stood := { row := fnExactSplittingLinksUptoRow, standIns := [], harness := (true, "d92f3ff18e972d5b0054d8ddb9ee787074e21573dd0c74db6f3d99d5b9445a38"), looks := false }, kinds := [], alts := [], laidByText := true, laidKinds := [.data, .data], laidTests := true, laidLooks := .later }
def FnExactSplittingLinksUptoCardSaid : Prop := Claim7.holds Tryd.pinned (.plain (OpenSpec.upto fnExactSplittingLinksSpec)) fnExactSplittingLinksUptoCard

/-- THE SECOND FORM's CARD OF 'laws.FnExactLastLink'. -/
def fnExactLastLinkUptoCard : Claim7 := { stood := { row := fnExactLastLinkUptoRow, standIns := [], harness := (true, "d92f3ff18e972d5b0054d8ddb9ee787074e21573dd0c74db6f3d99d5b9445a38"), looks := false }, kinds := [], alts := [], laidByText := true, laidKinds := [.data, .data], laidTests := true, laidLooks := .later }
def FnExactLastLinkUptoCardSaid : Prop := Claim7.holds Tryd.pinned (.plain (OpenSpec.upto fnExactLastLinkSpec)) fnExactLastLinkUptoCard
end Rows
end Go.Proofs.YtgpocnapkflihaaDoor
