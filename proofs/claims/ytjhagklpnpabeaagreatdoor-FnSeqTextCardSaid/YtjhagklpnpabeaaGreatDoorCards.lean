/-
  DERIVED. GIVEN WITH THE SEED: THE CARDS: each row of YtjhagklpnpabeaaGreatDoorRows.lean that lists a variable, with what it lists TIED to the program's text (the seventh form; the later family's looks); each row that meets fmt, with fmt's text TOLD by the authors' own Lean function (tested against real Go, not proved from fmt's source: count such statements apart). THE CARD IS WHAT COUNTS. Prove the row's statement (the work); the ties are given (YtjhagklpnpabeaaGreatDoorTie.lean); close each card by the builder's one call (the guide's Derived/Test/ToyasCard.lean, 'card_holds'). Laid BY PROGRAM, IN A SANDBOX (cutbox-door.mjs). By AI agents, Wed Nov 11 2026. No macro, syntax, notation, axiom, sorry.
-/
import Derived.Test.YtjhagklpnpabeaaGreatDoorRows
import GoSem.ClaimSeven
namespace Go.Proofs.YtjhagklpnpabeaaGreatDoor
namespace Rows

/-- THE TIED CARD OF 'laws.FnSeqText'. -/
def fnSeqTextCard : Claim7 := { stood := { row := fnSeqTextRow, standIns := [], harness := (true, "209c4b70d9bc7ed52076b61c790b3d7921631e925e02850fe11f16bd20e22d47"), looks := true }, kinds := [], alts := [], laidByText := true, laidKinds := [.data, .data, .data, .pinned], laidTests := true, laidLooks := .later }
def FnSeqTextCardSaid : Prop := Claim7.holds Tryz.pinned (.plain (OpenSpec.ofChange fnSeqTextSpec)) fnSeqTextCard

/-- THE TIED CARD OF 'laws.FnProofText'. -/
def fnProofTextCard : Claim7 := { stood := { row := fnProofTextRow, standIns := [], harness := (true, "209c4b70d9bc7ed52076b61c790b3d7921631e925e02850fe11f16bd20e22d47"), looks := true }, kinds := [], alts := [], laidByText := true, laidKinds := [.data, .data, .data, .sentinel, .sentinel, .data, .data, .data], laidTests := true, laidLooks := .later }
def FnProofTextCardSaid : Prop := Claim7.holds Tryz.pinned (.plain (OpenSpec.ofChange fnProofTextSpec)) fnProofTextCard

/-- THE TIED CARD OF 'laws.FnExactReadStep'. -/
def fnExactReadStepCard : Claim7 := { stood := { row := fnExactReadStepRow, standIns := [], harness := (true, "209c4b70d9bc7ed52076b61c790b3d7921631e925e02850fe11f16bd20e22d47"), looks := true }, kinds := [], alts := [], laidByText := true, laidKinds := [.data, .data, .data, .sentinel, .sentinel, .data, .data, .data], laidTests := true, laidLooks := .later }
def FnExactReadStepCardSaid : Prop := Claim7.holds Tryz.pinned (.plain (OpenSpec.ofChange fnExactReadStepSpec)) fnExactReadStepCard

/-- THE TIED CARD OF 'laws.FnExactReadProof'. -/
def fnExactReadProofCard : Claim7 := { stood := { row := fnExactReadProofRow, standIns := [], harness := (true, "209c4b70d9bc7ed52076b61c790b3d7921631e925e02850fe11f16bd20e22d47"), looks := true }, kinds := [], alts := [], laidByText := true, laidKinds := [.data, .data, .data, .sentinel, .sentinel, .data, .data, .data], laidTests := true, laidLooks := .later }
def FnExactReadProofCardSaid : Prop := Claim7.holds Tryz.pinned (.plain (OpenSpec.ofChange fnExactReadProofSpec)) fnExactReadProofCard

/-- THE TIED CARD OF 'laws.FnExactSequentLines'. -/
def fnExactSequentLinesCard : Claim7 := { stood := { row := fnExactSequentLinesRow, standIns := [], harness := (true, "209c4b70d9bc7ed52076b61c790b3d7921631e925e02850fe11f16bd20e22d47"), looks := true }, kinds := [], alts := [], laidByText := true, laidKinds := [.data, .data, .data, .data], laidTests := true, laidLooks := .later }
def FnExactSequentLinesCardSaid : Prop := Claim7.holds Tryz.pinned (.plain (OpenSpec.ofChange fnExactSequentLinesSpec)) fnExactSequentLinesCard

/-- THE TIED CARD OF 'laws.FnExactOutline'. -/
def fnExactOutlineCard : Claim7 := { stood := { row := fnExactOutlineRow, standIns := [], harness := (true, "209c4b70d9bc7ed52076b61c790b3d7921631e925e02850fe11f16bd20e22d47"), looks := true }, kinds := [], alts := [], laidByText := true, laidKinds := [.data, .data], laidTests := true, laidLooks := .later }
def FnExactOutlineCardSaid : Prop := Claim7.holds Tryz.pinned (.plain (OpenSpec.ofChange fnExactOutlineSpec)) fnExactOutlineCard

/-- THE SECOND FORM's CARD OF 'laws.FnSeqText'. -/
def fnSeqTextUptoCard : Claim7 := { stood := { row := fnSeqTextUptoRow, standIns := [], harness := (true, "209c4b70d9bc7ed52076b61c790b3d7921631e925e02850fe11f16bd20e22d47"), looks := true }, kinds := [], alts := [], laidByText := true, laidKinds := [.data, .data, .data, .pinned], laidTests := true, laidLooks := .later }
def FnSeqTextUptoCardSaid : Prop := Claim7.holds Tryz.pinned (.plain (OpenSpec.upto fnSeqTextSpec)) fnSeqTextUptoCard

/-- THE SECOND FORM's CARD OF 'laws.FnProofText'. -/
def fnProofTextUptoCard : Claim7 := { stood := { row := fnProofTextUptoRow, standIns := [], harness := (true, "209c4b70d9bc7ed52076b61c790b3d7921631e925e02850fe11f16bd20e22d47"), looks := true }, kinds := [], alts := [], laidByText := true, laidKinds := [.data, .data, .data, .sentinel, .sentinel, .data, .data, .data], laidTests := true, laidLooks := .later }
def FnProofTextUptoCardSaid : Prop := Claim7.holds Tryz.pinned (.plain (OpenSpec.upto fnProofTextSpec)) fnProofTextUptoCard

/-- THE SECOND FORM's CARD OF 'laws.FnExactReadStep'. -/
def fnExactReadStepUptoCard : Claim7 := { stood := { row := fnExactReadStepUptoRow, standIns := [], harness := (true, "209c4b70d9bc7ed52076b61c790b3d7921631e925e02850fe11f16bd20e22d47"), looks := true }, kinds := [], alts := [], laidByText := true, laidKinds := [.data, .data, .data, .sentinel, .sentinel, .data, .data, .data], laidTests := true, laidLooks := .later }
def FnExactReadStepUptoCardSaid : Prop := Claim7.holds Tryz.pinned (.plain (OpenSpec.upto fnExactReadStepSpec)) fnExactReadStepUptoCard

/-- THE SECOND FORM's CARD OF 'laws.FnExactReadProof'. -/
def fnExactReadProofUptoCard : Claim7 := { stood := { row := fnExactReadProofUptoRow, standIns := [], harness := (true, "209c4b70d9bc7ed52076b61c790b3d7921631e925e02850fe11f16bd20e22d47"), looks := true }, kinds := [], alts := [], laidByText := true, laidKinds := [.data, .data, .data, .sentinel, .sentinel, .data, .data, .data], laidTests := true, laidLooks := .later }
def FnExactReadProofUptoCardSaid : Prop := Claim7.holds Tryz.pinned (.plain (OpenSpec.upto fnExactReadProofSpec)) fnExactReadProofUptoCard

/-- THE SECOND FORM's CARD OF 'laws.FnExactSequentLines'. -/
def fnExactSequentLinesUptoCard : Claim7 := { stood := { row := fnExactSequentLinesUptoRow, standIns := [], harness := (true, "209c4b70d9bc7ed52076b61c790b3d7921631e925e02850fe11f16bd20e22d47"), looks := true }, kinds := [], alts := [], laidByText := true, laidKinds := [.data, .data, .data, .data], laidTests := true, laidLooks := .later }
def FnExactSequentLinesUptoCardSaid : Prop := Claim7.holds Tryz.pinned (.plain (OpenSpec.upto fnExactSequentLinesSpec)) fnExactSequentLinesUptoCard

/-- THE SECOND FORM's CARD OF 'laws.FnExactOutline'. -/
def fnExactOutlineUptoCard : Claim7 := { stood := { row := fnExactOutlineUptoRow, standIns := [], harness := (true, "209c4b70d9bc7ed52076b61c790b3d7921631e925e02850fe11f16bd20e22d47"), looks := true }, kinds := [], alts := [], laidByText := true, laidKinds := [.data, .data], laidTests := true, laidLooks := .later }
def FnExactOutlineUptoCardSaid : Prop := Claim7.holds Tryz.pinned (.plain (OpenSpec.upto fnExactOutlineSpec)) fnExactOutlineUptoCard
end Rows
end Go.Proofs.YtjhagklpnpabeaaGreatDoor
