/-
  DERIVED. GIVEN WITH THE SEED: THE CARDS: each row of YtjgmgaccmcepdaaGreatDoorRows.lean that lists a variable, with what it lists TIED to the program's text (the seventh form; the later family's looks); each row that meets fmt, with fmt's text TOLD by the authors' own Lean function (tested against real Go, not proved from fmt's source: count such statements apart). THE CARD IS WHAT COUNTS. Prove the row's statement (the work); the ties are given (YtjgmgaccmcepdaaGreatDoorTie.lean); close each card by the builder's one call (the guide's Derived/Test/ToyasCard.lean, 'card_holds'). Laid BY PROGRAM, IN A SANDBOX (cutbox-door.mjs). By AI agents, Wed Nov 11 2026. No macro, syntax, notation, axiom, sorry.
-/
import Derived.Test.YtjgmgaccmcepdaaGreatDoorRows
import GoSem.ClaimSeven
namespace Go.Proofs.YtjgmgaccmcepdaaGreatDoor
namespace Rows

/-- THE TIED CARD OF 'laws.FnProofText'. -/
def fnProofTextCard : Claim7 := { stood := { row := fnProofTextRow, standIns := [], harness := (true, "dee8bcee9fe564587c9dffeed62ba8f46fb7d77bfbfacc7aec9fc4b4c5615a6a"), looks := true }, kinds := [], alts := [], laidByText := true, laidKinds := [.data, .data, .data, .sentinel, .sentinel, .data, .data, .data], laidTests := true, laidLooks := .later }
def FnProofTextCardSaid : Prop := Claim7.holds Tryz.pinned (.plain (OpenSpec.ofChange fnProofTextSpec)) fnProofTextCard

/-- THE TIED CARD OF 'laws.FnExpanded'. -/
def fnExpandedCard : Claim7 := { stood := { row := fnExpandedRow, standIns := [], harness := (true, "dee8bcee9fe564587c9dffeed62ba8f46fb7d77bfbfacc7aec9fc4b4c5615a6a"), looks := true }, kinds := [], alts := [], laidByText := true, laidKinds := [.data, .data], laidTests := true, laidLooks := .later }
def FnExpandedCardSaid : Prop := Claim7.holds Tryz.pinned (.plain (OpenSpec.ofChange fnExpandedSpec)) fnExpandedCard

/-- THE TIED CARD OF 'laws.FnArranged'. -/
def fnArrangedCard : Claim7 := { stood := { row := fnArrangedRow, standIns := [], harness := (true, "dee8bcee9fe564587c9dffeed62ba8f46fb7d77bfbfacc7aec9fc4b4c5615a6a"), looks := true }, kinds := [], alts := [], laidByText := true, laidKinds := [.data], laidTests := true, laidLooks := .later }
def FnArrangedCardSaid : Prop := Claim7.holds Tryz.pinned (.plain (OpenSpec.ofChange fnArrangedSpec)) fnArrangedCard

/-- THE TIED CARD OF 'laws.FnCombined'. -/
def fnCombinedCard : Claim7 := { stood := { row := fnCombinedRow, standIns := [], harness := (true, "dee8bcee9fe564587c9dffeed62ba8f46fb7d77bfbfacc7aec9fc4b4c5615a6a"), looks := true }, kinds := [], alts := [], laidByText := true, laidKinds := [.data], laidTests := true, laidLooks := .later }
def FnCombinedCardSaid : Prop := Claim7.holds Tryz.pinned (.plain (OpenSpec.ofChange fnCombinedSpec)) fnCombinedCard

/-- THE TIED CARD OF 'laws.FnExactReadStep'. -/
def fnExactReadStepCard : Claim7 := { stood := { row := fnExactReadStepRow, standIns := [], harness := (true, "dee8bcee9fe564587c9dffeed62ba8f46fb7d77bfbfacc7aec9fc4b4c5615a6a"), looks := true }, kinds := [], alts := [], laidByText := true, laidKinds := [.data, .data, .data, .sentinel, .sentinel, .data, .data, .data], laidTests := true, laidLooks := .later }
def FnExactReadStepCardSaid : Prop := Claim7.holds Tryz.pinned (.plain (OpenSpec.ofChange fnExactReadStepSpec)) fnExactReadStepCard

/-- THE TIED CARD OF 'laws.FnExactReadProof'. -/
def fnExactReadProofCard : Claim7 := { stood := { row := fnExactReadProofRow, standIns := [], harness := (true, "dee8bcee9fe564587c9dffeed62ba8f46fb7d77bfbfacc7aec9fc4b4c5615a6a"), looks := true }, kinds := [], alts := [], laidByText := true, laidKinds := [.data, .data, .data, .sentinel, .sentinel, .data, .data, .data], laidTests := true, laidLooks := .later }
def FnExactReadProofCardSaid : Prop := Claim7.holds Tryz.pinned (.plain (OpenSpec.ofChange fnExactReadProofSpec)) fnExactReadProofCard

/-- THE TIED CARD OF 'laws.FnExactIdentityProof'. -/
def fnExactIdentityProofCard : Claim7 := { stood := { row := fnExactIdentityProofRow, standIns := [], harness := (true, "dee8bcee9fe564587c9dffeed62ba8f46fb7d77bfbfacc7aec9fc4b4c5615a6a"), looks := true }, kinds := [], alts := [], laidByText := true, laidKinds := [.data, .data], laidTests := true, laidLooks := .later }
def FnExactIdentityProofCardSaid : Prop := Claim7.holds Tryz.pinned (.plain (OpenSpec.ofChange fnExactIdentityProofSpec)) fnExactIdentityProofCard

/-- THE TIED CARD OF 'laws.FnExactExpandedProof'. -/
def fnExactExpandedProofCard : Claim7 := { stood := { row := fnExactExpandedProofRow, standIns := [], harness := (true, "dee8bcee9fe564587c9dffeed62ba8f46fb7d77bfbfacc7aec9fc4b4c5615a6a"), looks := true }, kinds := [], alts := [], laidByText := true, laidKinds := [.data, .data], laidTests := true, laidLooks := .later }
def FnExactExpandedProofCardSaid : Prop := Claim7.holds Tryz.pinned (.plain (OpenSpec.ofChange fnExactExpandedProofSpec)) fnExactExpandedProofCard

/-- THE TIED CARD OF 'laws.FnExactExtendedProof'. -/
def fnExactExtendedProofCard : Claim7 := { stood := { row := fnExactExtendedProofRow, standIns := [], harness := (true, "dee8bcee9fe564587c9dffeed62ba8f46fb7d77bfbfacc7aec9fc4b4c5615a6a"), looks := true }, kinds := [], alts := [], laidByText := true, laidKinds := [.data], laidTests := true, laidLooks := .later }
def FnExactExtendedProofCardSaid : Prop := Claim7.holds Tryz.pinned (.plain (OpenSpec.ofChange fnExactExtendedProofSpec)) fnExactExtendedProofCard

/-- THE TIED CARD OF 'laws.FnExactCombinedProof'. -/
def fnExactCombinedProofCard : Claim7 := { stood := { row := fnExactCombinedProofRow, standIns := [], harness := (true, "dee8bcee9fe564587c9dffeed62ba8f46fb7d77bfbfacc7aec9fc4b4c5615a6a"), looks := true }, kinds := [], alts := [], laidByText := true, laidKinds := [.data], laidTests := true, laidLooks := .later }
def FnExactCombinedProofCardSaid : Prop := Claim7.holds Tryz.pinned (.plain (OpenSpec.ofChange fnExactCombinedProofSpec)) fnExactCombinedProofCard

/-- THE SECOND FORM's CARD OF 'laws.FnProofText'. -/
def fnProofTextUptoCard : Claim7 := { stood := { row := fnProofTextUptoRow, standIns := [], harness := (true, "dee8bcee9fe564587c9dffeed62ba8f46fb7d77bfbfacc7aec9fc4b4c5615a6a"), looks := true }, kinds := [], alts := [], laidByText := true, laidKinds := [.data, .data, .data, .sentinel, .sentinel, .data, .data, .data], laidTests := true, laidLooks := .later }
def FnProofTextUptoCardSaid : Prop := Claim7.holds Tryz.pinned (.plain (OpenSpec.upto fnProofTextSpec)) fnProofTextUptoCard

/-- THE SECOND FORM's CARD OF 'laws.FnExpanded'. -/
def fnExpandedUptoCard : Claim7 := { stood := { row := fnExpandedUptoRow, standIns := [], harness := (true, "dee8bcee9fe564587c9dffeed62ba8f46fb7d77bfbfacc7aec9fc4b4c5615a6a"), looks := true }, kinds := [], alts := [], laidByText := true, laidKinds := [.data, .data], laidTests := true, laidLooks := .later }
def FnExpandedUptoCardSaid : Prop := Claim7.holds Tryz.pinned (.plain (OpenSpec.upto fnExpandedSpec)) fnExpandedUptoCard

/-- THE SECOND FORM's CARD OF 'laws.FnArranged'. -/
def fnArrangedUptoCard : Claim7 := { stood := { row := fnArrangedUptoRow, standIns := [], harness := (true, "dee8bcee9fe564587c9dffeed62ba8f46fb7d77bfbfacc7aec9fc4b4c5615a6a"), looks := true }, kinds := [], alts := [], laidByText := true, laidKinds := [.data], laidTests := true, laidLooks := .later }
def FnArrangedUptoCardSaid : Prop := Claim7.holds Tryz.pinned (.plain (OpenSpec.upto fnArrangedSpec)) fnArrangedUptoCard

/-- THE SECOND FORM's CARD OF 'laws.FnCombined'. -/
def fnCombinedUptoCard : Claim7 := { stood := { row := fnCombinedUptoRow, standIns := [], harness := (true, "dee8bcee9fe564587c9dffeed62ba8f46fb7d77bfbfacc7aec9fc4b4c5615a6a"), looks := true }, kinds := [], alts := [], laidByText := true, laidKinds := [.data], laidTests := true, laidLooks := .later }
def FnCombinedUptoCardSaid : Prop := Claim7.holds Tryz.pinned (.plain (OpenSpec.upto fnCombinedSpec)) fnCombinedUptoCard

/-- THE SECOND FORM's CARD OF 'laws.FnExactReadStep'. -/
def fnExactReadStepUptoCard : Claim7 := { stood := { row := fnExactReadStepUptoRow, standIns := [], harness := (true, "dee8bcee9fe564587c9dffeed62ba8f46fb7d77bfbfacc7aec9fc4b4c5615a6a"), looks := true }, kinds := [], alts := [], laidByText := true, laidKinds := [.data, .data, .data, .sentinel, .sentinel, .data, .data, .data], laidTests := true, laidLooks := .later }
def FnExactReadStepUptoCardSaid : Prop := Claim7.holds Tryz.pinned (.plain (OpenSpec.upto fnExactReadStepSpec)) fnExactReadStepUptoCard

/-- THE SECOND FORM's CARD OF 'laws.FnExactReadProof'. -/
def fnExactReadProofUptoCard : Claim7 := { stood := { row := fnExactReadProofUptoRow, standIns := [], harness := (true, "dee8bcee9fe564587c9dffeed62ba8f46fb7d77bfbfacc7aec9fc4b4c5615a6a"), looks := true }, kinds := [], alts := [], laidByText := true, laidKinds := [.data, .data, .data, .sentinel, .sentinel, .data, .data, .data], laidTests := true, laidLooks := .later }
def FnExactReadProofUptoCardSaid : Prop := Claim7.holds Tryz.pinned (.plain (OpenSpec.upto fnExactReadProofSpec)) fnExactReadProofUptoCard

/-- THE SECOND FORM's CARD OF 'laws.FnExactIdentityProof'. -/
def fnExactIdentityProofUptoCard : Claim7 := { stood := { row := fnExactIdentityProofUptoRow, standIns := [], harness := (true, "dee8bcee9fe564587c9dffeed62ba8f46fb7d77bfbfacc7aec9fc4b4c5615a6a"), looks := true }, kinds := [], alts := [], laidByText := true, laidKinds := [.data, .data], laidTests := true, laidLooks := .later }
def FnExactIdentityProofUptoCardSaid : Prop := Claim7.holds Tryz.pinned (.plain (OpenSpec.upto fnExactIdentityProofSpec)) fnExactIdentityProofUptoCard

/-- THE SECOND FORM's CARD OF 'laws.FnExactExpandedProof'. -/
def fnExactExpandedProofUptoCard : Claim7 := { stood := { row := fnExactExpandedProofUptoRow, standIns := [], harness := (true, "dee8bcee9fe564587c9dffeed62ba8f46fb7d77bfbfacc7aec9fc4b4c5615a6a"), looks := true }, kinds := [], alts := [], laidByText := true, laidKinds := [.data, .data], laidTests := true, laidLooks := .later }
def FnExactExpandedProofUptoCardSaid : Prop := Claim7.holds Tryz.pinned (.plain (OpenSpec.upto fnExactExpandedProofSpec)) fnExactExpandedProofUptoCard

/-- THE SECOND FORM's CARD OF 'laws.FnExactExtendedProof'. -/
def fnExactExtendedProofUptoCard : Claim7 := { stood := { row := fnExactExtendedProofUptoRow, standIns := [], harness := (true, "dee8bcee9fe564587c9dffeed62ba8f46fb7d77bfbfacc7aec9fc4b4c5615a6a"), looks := true }, kinds := [], alts := [], laidByText := true, laidKinds := [.data], laidTests := true, laidLooks := .later }
def FnExactExtendedProofUptoCardSaid : Prop := Claim7.holds Tryz.pinned (.plain (OpenSpec.upto fnExactExtendedProofSpec)) fnExactExtendedProofUptoCard

/-- THE SECOND FORM's CARD OF 'laws.FnExactCombinedProof'. -/
def fnExactCombinedProofUptoCard : Claim7 := { stood := { row := fnExactCombinedProofUptoRow, standIns := [], harness := (true, "dee8bcee9fe564587c9dffeed62ba8f46fb7d77bfbfacc7aec9fc4b4c5615a6a"), looks := true }, kinds := [], alts := [], laidByText := true, laidKinds := [.data], laidTests := true, laidLooks := .later }
def FnExactCombinedProofUptoCardSaid : Prop := Claim7.holds Tryz.pinned (.plain (OpenSpec.upto fnExactCombinedProofSpec)) fnExactCombinedProofUptoCard
end Rows
end Go.Proofs.YtjgmgaccmcepdaaGreatDoor
