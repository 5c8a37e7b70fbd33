/-
  DERIVED. GIVEN WITH THE SEED: THE CARDS: each row of YtfdpkhiiboghiaaGreatDoorRows.lean that lists a variable, with what it lists TIED to the program's text (the seventh form; the later family's looks); each row that meets fmt, with fmt's text TOLD by the authors' own Lean function (tested against real Go, not proved from fmt's source: count such statements apart). THE CARD IS WHAT COUNTS. Prove the row's statement (the work); the ties are given (YtfdpkhiiboghiaaGreatDoorTie.lean); close each card by the builder's one call (the guide's Derived/Test/ToyasCard.lean, 'card_holds'). Laid BY PROGRAM, IN A SANDBOX (cutbox-door.mjs). By AI agents, Wed Nov 11 2026. No macro, syntax, notation, axiom, sorry.
-/
import Derived.Test.YtfdpkhiiboghiaaGreatDoorRows
import GoSem.ClaimSeven
namespace Go.Proofs.YtfdpkhiiboghiaaGreatDoor
namespace Rows

/-- THE TIED CARD OF 'laws.FnExactSubNet'. -/
def fnExactSubNetCard : Claim7 := { stood := { row := fnExactSubNetRow, standIns := [], harness := (true, "92485ba2288fb5bdb82fabcdd5cd17dbe16e9fe230e769403b925836d4ce97dc"), looks := false }, kinds := [], alts := [], laidByText := true, laidKinds := [.data, .data, .data], laidTests := true, laidLooks := .later }
def FnExactSubNetCardSaid : Prop := Claim7.holds Tryz.pinned (.plain (OpenSpec.ofChange fnExactSubNetSpec)) fnExactSubNetCard

/-- THE TIED CARD OF 'laws.FnExactBorderOf'. -/
def fnExactBorderOfCard : Claim7 := { stood := { row := fnExactBorderOfRow, standIns := [], harness := (true, "92485ba2288fb5bdb82fabcdd5cd17dbe16e9fe230e769403b925836d4ce97dc"), looks := false }, kinds := [], alts := [], laidByText := true, laidKinds := [.data, .data, .data], laidTests := true, laidLooks := .later }
def FnExactBorderOfCardSaid : Prop := Claim7.holds Tryz.pinned (.plain (OpenSpec.ofChange fnExactBorderOfSpec)) fnExactBorderOfCard

/-- THE TIED CARD OF 'laws.FnExactIsSubnetSet'. -/
def fnExactIsSubnetSetCard : Claim7 := { stood := { row := fnExactIsSubnetSetRow, standIns := [], harness := (true, "92485ba2288fb5bdb82fabcdd5cd17dbe16e9fe230e769403b925836d4ce97dc"), looks := false }, kinds := [], alts := [], laidByText := true, laidKinds := [.data, .data, .data], laidTests := true, laidLooks := .later }
def FnExactIsSubnetSetCardSaid : Prop := Claim7.holds Tryz.pinned (.plain (OpenSpec.ofChange fnExactIsSubnetSetSpec)) fnExactIsSubnetSetCard

/-- THE TIED CARD OF 'laws.FnExactSubnetCount'. -/
def fnExactSubnetCountCard : Claim7 := { stood := { row := fnExactSubnetCountRow, standIns := [], harness := (true, "92485ba2288fb5bdb82fabcdd5cd17dbe16e9fe230e769403b925836d4ce97dc"), looks := false }, kinds := [], alts := [], laidByText := true, laidKinds := [.data, .data, .data], laidTests := true, laidLooks := .later }
def FnExactSubnetCountCardSaid : Prop := Claim7.holds Tryz.pinned (.plain (OpenSpec.ofChange fnExactSubnetCountSpec)) fnExactSubnetCountCard

/-- THE TIED CARD OF 'laws.FnExactKingdomOf'. -/
def fnExactKingdomOfCard : Claim7 := { stood := { row := fnExactKingdomOfRow, standIns := [], harness := (true, "92485ba2288fb5bdb82fabcdd5cd17dbe16e9fe230e769403b925836d4ce97dc"), looks := false }, kinds := [], alts := [], laidByText := true, laidKinds := [.data, .data, .data], laidTests := true, laidLooks := .later }
def FnExactKingdomOfCardSaid : Prop := Claim7.holds Tryz.pinned (.plain (OpenSpec.ofChange fnExactKingdomOfSpec)) fnExactKingdomOfCard

/-- THE TIED CARD OF 'laws.FnExactEmpireOf'. -/
def fnExactEmpireOfCard : Claim7 := { stood := { row := fnExactEmpireOfRow, standIns := [], harness := (true, "92485ba2288fb5bdb82fabcdd5cd17dbe16e9fe230e769403b925836d4ce97dc"), looks := false }, kinds := [], alts := [], laidByText := true, laidKinds := [.data, .data, .data], laidTests := true, laidLooks := .later }
def FnExactEmpireOfCardSaid : Prop := Claim7.holds Tryz.pinned (.plain (OpenSpec.ofChange fnExactEmpireOfSpec)) fnExactEmpireOfCard

/-- THE TIED CARD OF 'laws.FnExactSwitchingEmpire'. -/
def fnExactSwitchingEmpireCard : Claim7 := { stood := { row := fnExactSwitchingEmpireRow, standIns := [], harness := (true, "92485ba2288fb5bdb82fabcdd5cd17dbe16e9fe230e769403b925836d4ce97dc"), looks := false }, kinds := [], alts := [], laidByText := true, laidKinds := [.data, .data, .data], laidTests := true, laidLooks := .later }
def FnExactSwitchingEmpireCardSaid : Prop := Claim7.holds Tryz.pinned (.plain (OpenSpec.ofChange fnExactSwitchingEmpireSpec)) fnExactSwitchingEmpireCard

/-- THE TIED CARD OF 'laws.FnExactInKingdom'. -/
def fnExactInKingdomCard : Claim7 := { stood := { row := fnExactInKingdomRow, standIns := [], harness := (true, "92485ba2288fb5bdb82fabcdd5cd17dbe16e9fe230e769403b925836d4ce97dc"), looks := false }, kinds := [], alts := [], laidByText := true, laidKinds := [.data, .data, .data], laidTests := true, laidLooks := .later }
def FnExactInKingdomCardSaid : Prop := Claim7.holds Tryz.pinned (.plain (OpenSpec.ofChange fnExactInKingdomSpec)) fnExactInKingdomCard

/-- THE TIED CARD OF 'laws.FnExactSplitNet'. -/
def fnExactSplitNetCard : Claim7 := { stood := { row := fnExactSplitNetRow, standIns := [], harness := (true, "92485ba2288fb5bdb82fabcdd5cd17dbe16e9fe230e769403b925836d4ce97dc"), looks := false }, kinds := [], alts := [], laidByText := true, laidKinds := [.data, .data], laidTests := true, laidLooks := .later }
def FnExactSplitNetCardSaid : Prop := Claim7.holds Tryz.pinned (.plain (OpenSpec.ofChange fnExactSplitNetSpec)) fnExactSplitNetCard

/-- THE TIED CARD OF 'laws.FnExactIsSequentialisable'. -/
def fnExactIsSequentialisableCard : Claim7 := { stood := { row := fnExactIsSequentialisableRow, standIns := [], harness := (true, "92485ba2288fb5bdb82fabcdd5cd17dbe16e9fe230e769403b925836d4ce97dc"), looks := false }, kinds := [], alts := [], laidByText := true, laidKinds := [.data, .data], laidTests := true, laidLooks := .later }
def FnExactIsSequentialisableCardSaid : Prop := Claim7.holds Tryz.pinned (.plain (OpenSpec.ofChange fnExactIsSequentialisableSpec)) fnExactIsSequentialisableCard

/-- THE SECOND FORM's CARD OF 'laws.FnExactSubNet'. -/
def fnExactSubNetUptoCard : Claim7 := { stood := { row := fnExactSubNetUptoRow, standIns := [], harness := (true, "92485ba2288fb5bdb82fabcdd5cd17dbe16e9fe230e769403b925836d4ce97dc"), looks := false }, kinds := [], alts := [], laidByText := true, laidKinds := [.data, .data, .data], laidTests := true, laidLooks := .later }
def FnExactSubNetUptoCardSaid : Prop := Claim7.holds Tryz.pinned (.plain (OpenSpec.upto fnExactSubNetSpec)) fnExactSubNetUptoCard

/-- THE SECOND FORM's CARD OF 'laws.FnExactBorderOf'. -/
def fnExactBorderOfUptoCard : Claim7 := { stood := { row := fnExactBorderOfUptoRow, standIns := [], harness := (true, "92485ba2288fb5bdb82fabcdd5cd17dbe16e9fe230e769403b925836d4ce97dc"), looks := false }, kinds := [], alts := [], laidByText := true, laidKinds := [.data, .data, .data], laidTests := true, laidLooks := .later }
def FnExactBorderOfUptoCardSaid : Prop := Claim7.holds Tryz.pinned (.plain (OpenSpec.upto fnExactBorderOfSpec)) fnExactBorderOfUptoCard

/-- THE SECOND FORM's CARD OF 'laws.FnExactIsSubnetSet'. -/
def fnExactIsSubnetSetUptoCard : Claim7 := { stood := { row := fnExactIsSubnetSetUptoRow, standIns := [], harness := (true, "92485ba2288fb5bdb82fabcdd5cd17dbe16e9fe230e769403b925836d4ce97dc"), looks := false }, kinds := [], alts := [], laidByText := true, laidKinds := [.data, .data, .data], laidTests := true, laidLooks := .later }
def FnExactIsSubnetSetUptoCardSaid : Prop := Claim7.holds Tryz.pinned (.plain (OpenSpec.upto fnExactIsSubnetSetSpec)) fnExactIsSubnetSetUptoCard

/-- THE SECOND FORM's CARD OF 'laws.FnExactSubnetCount'. -/
def fnExactSubnetCountUptoCard : Claim7 := { stood := { row := fnExactSubnetCountUptoRow, standIns := [], harness := (true, "92485ba2288fb5bdb82fabcdd5cd17dbe16e9fe230e769403b925836d4ce97dc"), looks := false }, kinds := [], alts := [], laidByText := true, laidKinds := [.data, .data, .data], laidTests := true, laidLooks := .later }
def FnExactSubnetCountUptoCardSaid : Prop := Claim7.holds Tryz.pinned (.plain (OpenSpec.upto fnExactSubnetCountSpec)) fnExactSubnetCountUptoCard

/-- THE SECOND FORM's CARD OF 'laws.FnExactKingdomOf'. -/
def fnExactKingdomOfUptoCard : Claim7 := { stood := { row := fnExactKingdomOfUptoRow, standIns := [], harness := (true, "92485ba2288fb5bdb82fabcdd5cd17dbe16e9fe230e769403b925836d4ce97dc"), looks := false }, kinds := [], alts := [], laidByText := true, laidKinds := [.data, .data, .data], laidTests := true, laidLooks := .later }
def FnExactKingdomOfUptoCardSaid : Prop := Claim7.holds Tryz.pinned (.plain (OpenSpec.upto fnExactKingdomOfSpec)) fnExactKingdomOfUptoCard

/-- THE SECOND FORM's CARD OF 'laws.FnExactEmpireOf'. -/
def fnExactEmpireOfUptoCard : Claim7 := { stood := { row := fnExactEmpireOfUptoRow, standIns := [], harness := (true, "92485ba2288fb5bdb82fabcdd5cd17dbe16e9fe230e769403b925836d4ce97dc"), looks := false }, kinds := [], alts := [], laidByText := true, laidKinds := [.data, .data, .data], laidTests := true, laidLooks := .later }
def FnExactEmpireOfUptoCardSaid : Prop := Claim7.holds Tryz.pinned (.plain (OpenSpec.upto fnExactEmpireOfSpec)) fnExactEmpireOfUptoCard

/-- THE SECOND FORM's CARD OF 'laws.FnExactSwitchingEmpire'. -/
def fnExactSwitchingEmpireUptoCard : Claim7 := { stood := { row := fnExactSwitchingEmpireUptoRow, standIns := [], harness := (true, "92485ba2288fb5bdb82fabcdd5cd17dbe16e9fe230e769403b925836d4ce97dc"), looks := false }, kinds := [], alts := [], laidByText := true, laidKinds := [.data, .data, .data], laidTests := true, laidLooks := .later }
def FnExactSwitchingEmpireUptoCardSaid : Prop := Claim7.holds Tryz.pinned (.plain (OpenSpec.upto fnExactSwitchingEmpireSpec)) fnExactSwitchingEmpireUptoCard

/-- THE SECOND FORM's CARD OF 'laws.FnExactInKingdom'. -/
def fnExactInKingdomUptoCard : Claim7 := { stood := { row := fnExactInKingdomUptoRow, standIns := [], harness := (true, "92485ba2288fb5bdb82fabcdd5cd17dbe16e9fe230e769403b925836d4ce97dc"), looks := false }, kinds := [], alts := [], laidByText := true, laidKinds := [.data, .data, .data], laidTests := true, laidLooks := .later }
def FnExactInKingdomUptoCardSaid : Prop := Claim7.holds Tryz.pinned (.plain (OpenSpec.upto fnExactInKingdomSpec)) fnExactInKingdomUptoCard

/-- THE SECOND FORM's CARD OF 'laws.FnExactSplitNet'. -/
def fnExactSplitNetUptoCard : Claim7 := { stood := { row := fnExactSplitNetUptoRow, standIns := [], harness := (true, "92485ba2288fb5bdb82fabcdd5cd17dbe16e9fe230e769403b925836d4ce97dc"), looks := false }, kinds := [], alts := [], laidByText := true, laidKinds := [.data, .data], laidTests := true, laidLooks := .later }
def FnExactSplitNetUptoCardSaid : Prop := Claim7.holds Tryz.pinned (.plain (OpenSpec.upto fnExactSplitNetSpec)) fnExactSplitNetUptoCard

/-- THE SECOND FORM's CARD OF 'laws.FnExactIsSequentialisable'. -/
def fnExactIsSequentialisableUptoCard : Claim7 := { stood := { row := fnExactIsSequentialisableUptoRow, standIns := [], harness := (true, "92485ba2288fb5bdb82fabcdd5cd17dbe16e9fe230e769403b925836d4ce97dc"), looks := false }, kinds := [], alts := [], laidByText := true, laidKinds := [.data, .data], laidTests := true, laidLooks := .later }
def FnExactIsSequentialisableUptoCardSaid : Prop := Claim7.holds Tryz.pinned (.plain (OpenSpec.upto fnExactIsSequentialisableSpec)) fnExactIsSequentialisableUptoCard
end Rows
end Go.Proofs.YtfdpkhiiboghiaaGreatDoor
