/-
  DERIVED. GIVEN WITH THE SEED: THE CARDS: each row of YtgpocnapkflihaaGreatDoorRows.lean that lists a variable, with what it lists TIED to the program's text (the seventh form; the later family's looks); each row that meets fmt, with fmt's text TOLD by the authors' own Lean function (tested against real Go, not proved from fmt's source: count such statements apart). THE CARD IS WHAT COUNTS. Prove the row's statement (the work); the ties are given (YtgpocnapkflihaaGreatDoorTie.lean); close each card by the builder's one call (the guide's Derived/Test/ToyasCard.lean, 'card_holds'). Laid BY PROGRAM, IN A SANDBOX (cutbox-door.mjs). By AI agents, Wed Nov 11 2026. No macro, syntax, notation, axiom, sorry.
-/
import Derived.Test.YtgpocnapkflihaaGreatDoorRows
import GoSem.ClaimSeven
namespace Go.Proofs.YtgpocnapkflihaaGreatDoor
namespace Rows

/-- THE TIED CARD OF 'laws.FnExactSplitNet'. -/
def fnExactSplitNetCard : Claim7 := { stood := { row := fnExactSplitNetRow, standIns := [], harness := (true, "7657c36315409a36a943771c1812041f71c094f797032a60606676a45e9167dd"), looks := false }, kinds := [], alts := [], laidByText := true, laidKinds := [.data, .data], laidTests := true, laidLooks := .later }
def FnExactSplitNetCardSaid : Prop := Claim7.holds Tryz.pinned (.plain (OpenSpec.ofChange fnExactSplitNetSpec)) fnExactSplitNetCard

/-- THE TIED CARD OF 'laws.FnExactRemovePar'. -/
def fnExactRemoveParCard : Claim7 := { stood := { row := fnExactRemoveParRow, standIns := [], harness := (true, "7657c36315409a36a943771c1812041f71c094f797032a60606676a45e9167dd"), looks := false }, kinds := [], alts := [], laidByText := true, laidKinds := [.data, .data], laidTests := true, laidLooks := .later }
def FnExactRemoveParCardSaid : Prop := Claim7.holds Tryz.pinned (.plain (OpenSpec.ofChange fnExactRemoveParSpec)) fnExactRemoveParCard

/-- THE TIED CARD OF 'laws.FnExactIsSequentialisable'. -/
def fnExactIsSequentialisableCard : Claim7 := { stood := { row := fnExactIsSequentialisableRow, standIns := [], harness := (true, "7657c36315409a36a943771c1812041f71c094f797032a60606676a45e9167dd"), looks := false }, kinds := [], alts := [], laidByText := true, laidKinds := [.data, .data], laidTests := true, laidLooks := .later }
def FnExactIsSequentialisableCardSaid : Prop := Claim7.holds Tryz.pinned (.plain (OpenSpec.ofChange fnExactIsSequentialisableSpec)) fnExactIsSequentialisableCard

/-- THE SECOND FORM's CARD OF 'laws.FnExactSplitNet'. -/
def fnExactSplitNetUptoCard : Claim7 := { stood := { row := fnExactSplitNetUptoRow, standIns := [], harness := (true, "7657c36315409a36a943771c1812041f71c094f797032a60606676a45e9167dd"), looks := false }, kinds := [], alts := [], laidByText := true, laidKinds := [.data, .data], laidTests := true, laidLooks := .later }
def FnExactSplitNetUptoCardSaid : Prop := Claim7.holds Tryz.pinned (.plain (OpenSpec.upto fnExactSplitNetSpec)) fnExactSplitNetUptoCard

/-- THE SECOND FORM's CARD OF 'laws.FnExactRemovePar'. -/
def fnExactRemoveParUptoCard : Claim7 := { stood := { row := fnExactRemoveParUptoRow, standIns := [], harness := (true, "7657c36315409a36a943771c1812041f71c094f797032a60606676a45e9167dd"), looks := false }, kinds := [], alts := [], laidByText := true, laidKinds := [.data, .data], laidTests := true, laidLooks := .later }
def FnExactRemoveParUptoCardSaid : Prop := Claim7.holds Tryz.pinned (.plain (OpenSpec.upto fnExactRemoveParSpec)) fnExactRemoveParUptoCard

/-- THE SECOND FORM's CARD OF 'laws.FnExactIsSequentialisable'. -/
def fnExactIsSequentialisableUptoCard : Claim7 := { stood := { row := fnExactIsSequentialisableUptoRow, standIns := [], harness := (true, "7657c36315409a36a943771c1812041f71c094f797032a60606676a45e9167dd"), looks := false }, kinds := [], alts := [], laidByText := true, laidKinds := [.data, .data], laidTests := true, laidLooks := .later }
def FnExactIsSequentialisableUptoCardSaid : Prop := Claim7.holds Tryz.pinned (.plain (OpenSpec.upto fnExactIsSequentialisableSpec)) fnExactIsSequentialisableUptoCard
end Rows
end Go.Proofs.YtgpocnapkflihaaGreatDoor
