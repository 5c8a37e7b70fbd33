/-
  DERIVED. GIVEN WITH THE SEED: THE CARDS: each row of YtgblfcalbikgfaaDoorRows.lean that lists a variable, with what it lists TIED to the program's text (the seventh form; the later family's looks); each row that meets fmt, with fmt's text TOLD by the authors' own Lean function (tested against real Go, not proved from fmt's source: count such statements apart). THE CARD IS WHAT COUNTS. Prove the row's statement (the work); the ties are given (YtgblfcalbikgfaaDoorTie.lean); close each card by the builder's one call (the guide's Derived/Test/ToyasCard.lean, 'card_holds'). Laid BY PROGRAM, IN A SANDBOX (cutbox-door.mjs). By AI agents, Wed Nov 11 2026. No macro, syntax, notation, axiom, sorry.
-/
import Derived.Test.YtgblfcalbikgfaaDoorRows
import GoSem.ClaimSeven
namespace Go.Proofs.YtgblfcalbikgfaaDoor
namespace Rows

/-- THE TIED CARD OF 'laws.FnDual'. -/
def fnDualCard : Claim7 := { stood := { row := fnDualRow, standIns := [], harness := (true, "d24f450d2950f105911e7b6093b33e7afbb31bb7f9b6e7ed26f899200a932bcf"), looks := false }, kinds := [], alts := [], laidByText := true, laidKinds := [.data, .data], laidTests := true, laidLooks := .later }
def FnDualCardSaid : Prop := Claim7.holds Tryd.pinned (.plain (OpenSpec.ofChange fnDualSpec)) fnDualCard

/-- THE TIED CARD OF 'laws.FnParts'. -/
def fnPartsCard : Claim7 := { stood := { row := fnPartsRow, standIns := [], harness := (true, "d24f450d2950f105911e7b6093b33e7afbb31bb7f9b6e7ed26f899200a932bcf"), looks := false }, kinds := [], alts := [], laidByText := true, laidKinds := [.data], laidTests := true, laidLooks := .later }
def FnPartsCardSaid : Prop := Claim7.holds Tryd.pinned (.plain (OpenSpec.ofChange fnPartsSpec)) fnPartsCard

/-- THE TIED CARD OF 'laws.FnExactValidForm'. -/
def fnExactValidFormCard : Claim7 := { stood := { row := fnExactValidFormRow, standIns := [], harness := (true, "d24f450d2950f105911e7b6093b33e7afbb31bb7f9b6e7ed26f899200a932bcf"), looks := false }, kinds := [], alts := [], laidByText := true, laidKinds := [.data], laidTests := true, laidLooks := .later }
def FnExactValidFormCardSaid : Prop := Claim7.holds Tryd.pinned (.plain (OpenSpec.ofChange fnExactValidFormSpec)) fnExactValidFormCard

/-- THE TIED CARD OF 'laws.FnExactFormEnd'. -/
def fnExactFormEndCard : Claim7 := { stood := { row := fnExactFormEndRow, standIns := [], harness := (true, "d24f450d2950f105911e7b6093b33e7afbb31bb7f9b6e7ed26f899200a932bcf"), looks := false }, kinds := [], alts := [], laidByText := true, laidKinds := [.data], laidTests := true, laidLooks := .later }
def FnExactFormEndCardSaid : Prop := Claim7.holds Tryd.pinned (.plain (OpenSpec.ofChange fnExactFormEndSpec)) fnExactFormEndCard

/-- THE TIED CARD OF 'laws.FnExactDualOf'. -/
def fnExactDualOfCard : Claim7 := { stood := { row := fnExactDualOfRow, standIns := [], harness := (true, "d24f450d2950f105911e7b6093b33e7afbb31bb7f9b6e7ed26f899200a932bcf"), looks := false }, kinds := [], alts := [], laidByText := true, laidKinds := [.data, .data], laidTests := true, laidLooks := .later }
def FnExactDualOfCardSaid : Prop := Claim7.holds Tryd.pinned (.plain (OpenSpec.ofChange fnExactDualOfSpec)) fnExactDualOfCard

/-- THE TIED CARD OF 'laws.FnExactOperatorOf'. -/
def fnExactOperatorOfCard : Claim7 := { stood := { row := fnExactOperatorOfRow, standIns := [], harness := (true, "d24f450d2950f105911e7b6093b33e7afbb31bb7f9b6e7ed26f899200a932bcf"), looks := false }, kinds := [], alts := [], laidByText := true, laidKinds := [.data], laidTests := true, laidLooks := .later }
def FnExactOperatorOfCardSaid : Prop := Claim7.holds Tryd.pinned (.plain (OpenSpec.ofChange fnExactOperatorOfSpec)) fnExactOperatorOfCard

/-- THE TIED CARD OF 'laws.FnExactOperandOf'. -/
def fnExactOperandOfCard : Claim7 := { stood := { row := fnExactOperandOfRow, standIns := [], harness := (true, "d24f450d2950f105911e7b6093b33e7afbb31bb7f9b6e7ed26f899200a932bcf"), looks := false }, kinds := [], alts := [], laidByText := true, laidKinds := [.data], laidTests := true, laidLooks := .later }
def FnExactOperandOfCardSaid : Prop := Claim7.holds Tryd.pinned (.plain (OpenSpec.ofChange fnExactOperandOfSpec)) fnExactOperandOfCard

/-- THE TIED CARD OF 'laws.FnExactJoined'. -/
def fnExactJoinedCard : Claim7 := { stood := { row := fnExactJoinedRow, standIns := [], harness := (true, "d24f450d2950f105911e7b6093b33e7afbb31bb7f9b6e7ed26f899200a932bcf"), looks := false }, kinds := [], alts := [], laidByText := true, laidKinds := [.data], laidTests := true, laidLooks := .later }
def FnExactJoinedCardSaid : Prop := Claim7.holds Tryd.pinned (.plain (OpenSpec.ofChange fnExactJoinedSpec)) fnExactJoinedCard

/-- THE TIED CARD OF 'laws.FnExactWrapped'. -/
def fnExactWrappedCard : Claim7 := { stood := { row := fnExactWrappedRow, standIns := [], harness := (true, "d24f450d2950f105911e7b6093b33e7afbb31bb7f9b6e7ed26f899200a932bcf"), looks := false }, kinds := [], alts := [], laidByText := true, laidKinds := [.data], laidTests := true, laidLooks := .later }
def FnExactWrappedCardSaid : Prop := Claim7.holds Tryd.pinned (.plain (OpenSpec.ofChange fnExactWrappedSpec)) fnExactWrappedCard

/-- THE TIED CARD OF 'laws.FnExactLeavesOf'. -/
def fnExactLeavesOfCard : Claim7 := { stood := { row := fnExactLeavesOfRow, standIns := [], harness := (true, "d24f450d2950f105911e7b6093b33e7afbb31bb7f9b6e7ed26f899200a932bcf"), looks := false }, kinds := [], alts := [], laidByText := true, laidKinds := [.data], laidTests := true, laidLooks := .later }
def FnExactLeavesOfCardSaid : Prop := Claim7.holds Tryd.pinned (.plain (OpenSpec.ofChange fnExactLeavesOfSpec)) fnExactLeavesOfCard

/-- THE TIED CARD OF 'laws.FnExactDepthOf'. -/
def fnExactDepthOfCard : Claim7 := { stood := { row := fnExactDepthOfRow, standIns := [], harness := (true, "d24f450d2950f105911e7b6093b33e7afbb31bb7f9b6e7ed26f899200a932bcf"), looks := false }, kinds := [], alts := [], laidByText := true, laidKinds := [.data], laidTests := true, laidLooks := .later }
def FnExactDepthOfCardSaid : Prop := Claim7.holds Tryd.pinned (.plain (OpenSpec.ofChange fnExactDepthOfSpec)) fnExactDepthOfCard

/-- THE TIED CARD OF 'laws.FnExactFragmentOf'. -/
def fnExactFragmentOfCard : Claim7 := { stood := { row := fnExactFragmentOfRow, standIns := [], harness := (true, "d24f450d2950f105911e7b6093b33e7afbb31bb7f9b6e7ed26f899200a932bcf"), looks := false }, kinds := [], alts := [], laidByText := true, laidKinds := [.data], laidTests := true, laidLooks := .later }
def FnExactFragmentOfCardSaid : Prop := Claim7.holds Tryd.pinned (.plain (OpenSpec.ofChange fnExactFragmentOfSpec)) fnExactFragmentOfCard

/-- THE SECOND FORM's CARD OF 'laws.FnDual'. -/
def fnDualUptoCard : Claim7 := { stood := { row := fnDualUptoRow, standIns := [], harness := (true, "d24f450d2950f105911e7b6093b33e7afbb31bb7f9b6e7ed26f899200a932bcf"), looks := false }, kinds := [], alts := [], laidByText := true, laidKinds := [.data, .data], laidTests := true, laidLooks := .later }
def FnDualUptoCardSaid : Prop := Claim7.holds Tryd.pinned (.plain (OpenSpec.upto fnDualSpec)) fnDualUptoCard

/-- THE SECOND FORM's CARD OF 'laws.FnParts'. -/
def fnPartsUptoCard : Claim7 := { stood := { row := fnPartsUptoRow, standIns := [], harness := (true, "d24f450d2950f105911e7b6093b33e7afbb31bb7f9b6e7ed26f899200a932bcf"), looks := false }, kinds := [], alts := [], laidByText := true, laidKinds := [.data], laidTests := true, laidLooks := .later }
def FnPartsUptoCardSaid : Prop := Claim7.holds Tryd.pinned (.plain (OpenSpec.upto fnPartsSpec)) fnPartsUptoCard

/-- THE SECOND FORM's CARD OF 'laws.FnExactValidForm'. -/
def fnExactValidFormUptoCard : Claim7 := { stood := { row := fnExactValidFormUptoRow, standIns := [], harness := (true, "d24f450d2950f105911e7b6093b33e7afbb31bb7f9b6e7ed26f899200a932bcf"), looks := false }, kinds := [], alts := [], laidByText := true, laidKinds := [.data], laidTests := true, laidLooks := .later }
def FnExactValidFormUptoCardSaid : Prop := Claim7.holds Tryd.pinned (.plain (OpenSpec.upto fnExactValidFormSpec)) fnExactValidFormUptoCard

/-- THE SECOND FORM's CARD OF 'laws.FnExactFormEnd'. -/
def fnExactFormEndUptoCard : Claim7 := { stood := { row := fnExactFormEndUptoRow, standIns := [], harness := (true, "d24f450d2950f105911e7b6093b33e7afbb31bb7f9b6e7ed26f899200a932bcf"), looks := false }, kinds := [], alts := [], laidByText := true, laidKinds := [.data], laidTests := true, laidLooks := .later }
def FnExactFormEndUptoCardSaid : Prop := Claim7.holds Tryd.pinned (.plain (OpenSpec.upto fnExactFormEndSpec)) fnExactFormEndUptoCard

/-- THE SECOND FORM's CARD OF 'laws.FnExactDualOf'. -/
def fnExactDualOfUptoCard : Claim7 := { stood := { row := fnExactDualOfUptoRow, standIns := [], harness := (true, "d24f450d2950f105911e7b6093b33e7afbb31bb7f9b6e7ed26f899200a932bcf"), looks := false }, kinds := [], alts := [], laidByText := true, laidKinds := [.data, .data], laidTests := true, laidLooks := .later }
def FnExactDualOfUptoCardSaid : Prop := Claim7.holds Tryd.pinned (.plain (OpenSpec.upto fnExactDualOfSpec)) fnExactDualOfUptoCard

/-- THE SECOND FORM's CARD OF 'laws.FnExactOperatorOf'. -/
def fnExactOperatorOfUptoCard : Claim7 := { stood := { row := fnExactOperatorOfUptoRow, standIns := [], harness := (true, "d24f450d2950f105911e7b6093b33e7afbb31bb7f9b6e7ed26f899200a932bcf"), looks := false }, kinds := [], alts := [], laidByText := true, laidKinds := [.data], laidTests := true, laidLooks := .later }
def FnExactOperatorOfUptoCardSaid : Prop := Claim7.holds Tryd.pinned (.plain (OpenSpec.upto fnExactOperatorOfSpec)) fnExactOperatorOfUptoCard

/-- THE SECOND FORM's CARD OF 'laws.FnExactOperandOf'. -/
def fnExactOperandOfUptoCard : Claim7 := { stood := { row := fnExactOperandOfUptoRow, standIns := [], harness := (true, "d24f450d2950f105911e7b6093b33e7afbb31bb7f9b6e7ed26f899200a932bcf"), looks := false }, kinds := [], alts := [], laidByText := true, laidKinds := [.data], laidTests := true, laidLooks := .later }
def FnExactOperandOfUptoCardSaid : Prop := Claim7.holds Tryd.pinned (.plain (OpenSpec.upto fnExactOperandOfSpec)) fnExactOperandOfUptoCard

/-- THE SECOND FORM's CARD OF 'laws.FnExactJoined'. -/
def fnExactJoinedUptoCard : Claim7 := { stood := { row := fnExactJoinedUptoRow, standIns := [], harness := (true, "d24f450d2950f105911e7b6093b33e7afbb31bb7f9b6e7ed26f899200a932bcf"), looks := false }, kinds := [], alts := [], laidByText := true, laidKinds := [.data], laidTests := true, laidLooks := .later }
def FnExactJoinedUptoCardSaid : Prop := Claim7.holds Tryd.pinned (.plain (OpenSpec.upto fnExactJoinedSpec)) fnExactJoinedUptoCard

/-- THE SECOND FORM's CARD OF 'laws.FnExactWrapped'. -/
def fnExactWrappedUptoCard : Claim7 := { stood := { row := fnExactWrappedUptoRow, standIns := [], harness := (true, "d24f450d2950f105911e7b6093b33e7afbb31bb7f9b6e7ed26f899200a932bcf"), looks := false }, kinds := [], alts := [], laidByText := true, laidKinds := [.data], laidTests := true, laidLooks := .later }
def FnExactWrappedUptoCardSaid : Prop := Claim7.holds Tryd.pinned (.plain (OpenSpec.upto fnExactWrappedSpec)) fnExactWrappedUptoCard

/-- THE SECOND FORM's CARD OF 'laws.FnExactLeavesOf'. -/
def fnExactLeavesOfUptoCard : Claim7 := { stood := { row := fnExactLeavesOfUptoRow, standIns := [], harness := (true, "d24f450d2950f105911e7b6093b33e7afbb31bb7f9b6e7ed26f899200a932bcf"), looks := false }, kinds := [], alts := [], laidByText := true, laidKinds := [.data], laidTests := true, laidLooks := .later }
def FnExactLeavesOfUptoCardSaid : Prop := Claim7.holds Tryd.pinned (.plain (OpenSpec.upto fnExactLeavesOfSpec)) fnExactLeavesOfUptoCard

/-- THE SECOND FORM's CARD OF 'laws.FnExactDepthOf'. -/
def fnExactDepthOfUptoCard : Claim7 := { stood := { row := fnExactDepthOfUptoRow, standIns := [], harness := (true, "d24f450d2950f105911e7b6093b33e7afbb31bb7f9b6e7ed26f899200a932bcf"), looks := false }, kinds := [], alts := [], laidByText := true, laidKinds := [.data], laidTests := true, laidLooks := .later }
def FnExactDepthOfUptoCardSaid : Prop := Claim7.holds Tryd.pinned (.plain (OpenSpec.upto fnExactDepthOfSpec)) fnExactDepthOfUptoCard

/-- THE SECOND FORM's CARD OF 'laws.FnExactFragmentOf'. -/
def fnExactFragmentOfUptoCard : Claim7 := { stood := { row := fnExactFragmentOfUptoRow, standIns := [], harness := (true, "d24f450d2950f105911e7b6093b33e7afbb31bb7f9b6e7ed26f899200a932bcf"), looks := false }, kinds := [], alts := [], laidByText := true, laidKinds := [.data], laidTests := true, laidLooks := .later }
def FnExactFragmentOfUptoCardSaid : Prop := Claim7.holds Tryd.pinned (.plain (OpenSpec.upto fnExactFragmentOfSpec)) fnExactFragmentOfUptoCard
end Rows
end Go.Proofs.YtgblfcalbikgfaaDoor
