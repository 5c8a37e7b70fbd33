/-
  DERIVED. GIVEN WITH THE SEED: THE CARDS: each row of YtjfhbofgnagfaaaDoorRows.lean that lists a variable, with what it lists TIED to the program's text (the seventh form; the later family's looks); each row that meets fmt, with fmt's text TOLD by the authors' own Lean function (tested against real Go, not proved from fmt's source: count such statements apart). THE CARD IS WHAT COUNTS. Prove the row's statement (the work); the ties are given (YtjfhbofgnagfaaaDoorTie.lean); close each card by the builder's one call (the guide's Derived/Test/ToyasCard.lean, 'card_holds'). Laid BY PROGRAM, IN A SANDBOX (cutbox-door.mjs). By AI agents, Wed Nov 11 2026. No macro, syntax, notation, axiom, sorry.
-/
import Derived.Test.YtjfhbofgnagfaaaDoorRows
import GoSem.ClaimSeven
namespace Go.Proofs.YtjfhbofgnagfaaaDoor
namespace Rows

/-- THE TIED CARD OF 'laws.FnNetOps'. -/
def fnNetOpsCard : Claim7 := { stood := { row := fnNetOpsRow, standIns := [], harness := (true, "813ed0bacc9ce7eaa18632048b7cbd73354c31696cc09f4056ec142096a0f7d7"), looks := false }, kinds := [], alts := [], laidByText := true, laidKinds := [.data, .data], laidTests := true, laidLooks := .later }
def FnNetOpsCardSaid : Prop := Claim7.holds Tryd.pinned (.plain (OpenSpec.ofChange fnNetOpsSpec)) fnNetOpsCard

/-- THE TIED CARD OF 'laws.FnRenumber'. -/
def fnRenumberCard : Claim7 := { stood := { row := fnRenumberRow, standIns := [], harness := (true, "813ed0bacc9ce7eaa18632048b7cbd73354c31696cc09f4056ec142096a0f7d7"), looks := false }, kinds := [], alts := [], laidByText := true, laidKinds := [.data, .data], laidTests := true, laidLooks := .later }
def FnRenumberCardSaid : Prop := Claim7.holds Tryd.pinned (.plain (OpenSpec.ofChange fnRenumberSpec)) fnRenumberCard

/-- THE TIED CARD OF 'laws.FnExactValidNet'. -/
def fnExactValidNetCard : Claim7 := { stood := { row := fnExactValidNetRow, standIns := [], harness := (true, "813ed0bacc9ce7eaa18632048b7cbd73354c31696cc09f4056ec142096a0f7d7"), looks := false }, kinds := [], alts := [], laidByText := true, laidKinds := [.data, .data], laidTests := true, laidLooks := .later }
def FnExactValidNetCardSaid : Prop := Claim7.holds Tryd.pinned (.plain (OpenSpec.ofChange fnExactValidNetSpec)) fnExactValidNetCard

/-- THE TIED CARD OF 'laws.FnExactConclusionSeq'. -/
def fnExactConclusionSeqCard : Claim7 := { stood := { row := fnExactConclusionSeqRow, standIns := [], harness := (true, "813ed0bacc9ce7eaa18632048b7cbd73354c31696cc09f4056ec142096a0f7d7"), looks := false }, kinds := [], alts := [], laidByText := true, laidKinds := [.data, .data], laidTests := true, laidLooks := .later }
def FnExactConclusionSeqCardSaid : Prop := Claim7.holds Tryd.pinned (.plain (OpenSpec.ofChange fnExactConclusionSeqSpec)) fnExactConclusionSeqCard

/-- THE TIED CARD OF 'laws.FnExactSourceOf'. -/
def fnExactSourceOfCard : Claim7 := { stood := { row := fnExactSourceOfRow, standIns := [], harness := (true, "813ed0bacc9ce7eaa18632048b7cbd73354c31696cc09f4056ec142096a0f7d7"), looks := false }, kinds := [], alts := [], laidByText := true, laidKinds := [.data, .data], laidTests := true, laidLooks := .later }
def FnExactSourceOfCardSaid : Prop := Claim7.holds Tryd.pinned (.plain (OpenSpec.ofChange fnExactSourceOfSpec)) fnExactSourceOfCard

/-- THE TIED CARD OF 'laws.FnExactTargetOf'. -/
def fnExactTargetOfCard : Claim7 := { stood := { row := fnExactTargetOfRow, standIns := [], harness := (true, "813ed0bacc9ce7eaa18632048b7cbd73354c31696cc09f4056ec142096a0f7d7"), looks := false }, kinds := [], alts := [], laidByText := true, laidKinds := [.data, .data], laidTests := true, laidLooks := .later }
def FnExactTargetOfCardSaid : Prop := Claim7.holds Tryd.pinned (.plain (OpenSpec.ofChange fnExactTargetOfSpec)) fnExactTargetOfCard

/-- THE TIED CARD OF 'laws.FnExactLinksOfKind'. -/
def fnExactLinksOfKindCard : Claim7 := { stood := { row := fnExactLinksOfKindRow, standIns := [], harness := (true, "813ed0bacc9ce7eaa18632048b7cbd73354c31696cc09f4056ec142096a0f7d7"), looks := false }, kinds := [], alts := [], laidByText := true, laidKinds := [.data, .data], laidTests := true, laidLooks := .later }
def FnExactLinksOfKindCardSaid : Prop := Claim7.holds Tryd.pinned (.plain (OpenSpec.ofChange fnExactLinksOfKindSpec)) fnExactLinksOfKindCard

/-- THE TIED CARD OF 'laws.FnExactAxiomNet'. -/
def fnExactAxiomNetCard : Claim7 := { stood := { row := fnExactAxiomNetRow, standIns := [], harness := (true, "813ed0bacc9ce7eaa18632048b7cbd73354c31696cc09f4056ec142096a0f7d7"), looks := false }, kinds := [], alts := [], laidByText := true, laidKinds := [.data, .data], laidTests := true, laidLooks := .later }
def FnExactAxiomNetCardSaid : Prop := Claim7.holds Tryd.pinned (.plain (OpenSpec.ofChange fnExactAxiomNetSpec)) fnExactAxiomNetCard

/-- THE TIED CARD OF 'laws.FnExactUnionNet'. -/
def fnExactUnionNetCard : Claim7 := { stood := { row := fnExactUnionNetRow, standIns := [], harness := (true, "813ed0bacc9ce7eaa18632048b7cbd73354c31696cc09f4056ec142096a0f7d7"), looks := false }, kinds := [], alts := [], laidByText := true, laidKinds := [.data, .data], laidTests := true, laidLooks := .later }
def FnExactUnionNetCardSaid : Prop := Claim7.holds Tryd.pinned (.plain (OpenSpec.ofChange fnExactUnionNetSpec)) fnExactUnionNetCard

/-- THE TIED CARD OF 'laws.FnExactLinkNet'. -/
def fnExactLinkNetCard : Claim7 := { stood := { row := fnExactLinkNetRow, standIns := [], harness := (true, "813ed0bacc9ce7eaa18632048b7cbd73354c31696cc09f4056ec142096a0f7d7"), looks := false }, kinds := [], alts := [], laidByText := true, laidKinds := [.data, .data], laidTests := true, laidLooks := .later }
def FnExactLinkNetCardSaid : Prop := Claim7.holds Tryd.pinned (.plain (OpenSpec.ofChange fnExactLinkNetSpec)) fnExactLinkNetCard

/-- THE TIED CARD OF 'laws.FnExactRenumberNet'. -/
def fnExactRenumberNetCard : Claim7 := { stood := { row := fnExactRenumberNetRow, standIns := [], harness := (true, "813ed0bacc9ce7eaa18632048b7cbd73354c31696cc09f4056ec142096a0f7d7"), looks := false }, kinds := [], alts := [], laidByText := true, laidKinds := [.data, .data], laidTests := true, laidLooks := .later }
def FnExactRenumberNetCardSaid : Prop := Claim7.holds Tryd.pinned (.plain (OpenSpec.ofChange fnExactRenumberNetSpec)) fnExactRenumberNetCard

/-- THE SECOND FORM's CARD OF 'laws.FnNetOps'. -/
def fnNetOpsUptoCard : Claim7 := { stood := { row := fnNetOpsUptoRow, standIns := [], harness := (true, "813ed0bacc9ce7eaa18632048b7cbd73354c31696cc09f4056ec142096a0f7d7"), looks := false }, kinds := [], alts := [], laidByText := true, laidKinds := [.data, .data], laidTests := true, laidLooks := .later }
def FnNetOpsUptoCardSaid : Prop := Claim7.holds Tryd.pinned (.plain (OpenSpec.upto fnNetOpsSpec)) fnNetOpsUptoCard

/-- THE SECOND FORM's CARD OF 'laws.FnRenumber'. -/
def fnRenumberUptoCard : Claim7 := { stood := { row := fnRenumberUptoRow, standIns := [], harness := (true, "813ed0bacc9ce7eaa18632048b7cbd73354c31696cc09f4056ec142096a0f7d7"), looks := false }, kinds := [], alts := [], laidByText := true, laidKinds := [.data, .data], laidTests := true, laidLooks := .later }
def FnRenumberUptoCardSaid : Prop := Claim7.holds Tryd.pinned (.plain (OpenSpec.upto fnRenumberSpec)) fnRenumberUptoCard

/-- THE SECOND FORM's CARD OF 'laws.FnExactValidNet'. -/
def fnExactValidNetUptoCard : Claim7 := { stood := { row := fnExactValidNetUptoRow, standIns := [], harness := (true, "813ed0bacc9ce7eaa18632048b7cbd73354c31696cc09f4056ec142096a0f7d7"), looks := false }, kinds := [], alts := [], laidByText := true, laidKinds := [.data, .data], laidTests := true, laidLooks := .later }
def FnExactValidNetUptoCardSaid : Prop := Claim7.holds Tryd.pinned (.plain (OpenSpec.upto fnExactValidNetSpec)) fnExactValidNetUptoCard

/-- THE SECOND FORM's CARD OF 'laws.FnExactConclusionSeq'. -/
def fnExactConclusionSeqUptoCard : Claim7 := { stood := { row := fnExactConclusionSeqUptoRow, standIns := [], harness := (true, "813ed0bacc9ce7eaa18632048b7cbd73354c31696cc09f4056ec142096a0f7d7"), looks := false }, kinds := [], alts := [], laidByText := true, laidKinds := [.data, .data], laidTests := true, laidLooks := .later }
def FnExactConclusionSeqUptoCardSaid : Prop := Claim7.holds Tryd.pinned (.plain (OpenSpec.upto fnExactConclusionSeqSpec)) fnExactConclusionSeqUptoCard

/-- THE SECOND FORM's CARD OF 'laws.FnExactSourceOf'. -/
def fnExactSourceOfUptoCard : Claim7 := { stood := { row := fnExactSourceOfUptoRow, standIns := [], harness := (true, "813ed0bacc9ce7eaa18632048b7cbd73354c31696cc09f4056ec142096a0f7d7"), looks := false }, kinds := [], alts := [], laidByText := true, laidKinds := [.data, .data], laidTests := true, laidLooks := .later }
def FnExactSourceOfUptoCardSaid : Prop := Claim7.holds Tryd.pinned (.plain (OpenSpec.upto fnExactSourceOfSpec)) fnExactSourceOfUptoCard

/-- THE SECOND FORM's CARD OF 'laws.FnExactTargetOf'. -/
def fnExactTargetOfUptoCard : Claim7 := { stood := { row := fnExactTargetOfUptoRow, standIns := [], harness := (true, "813ed0bacc9ce7eaa18632048b7cbd73354c31696cc09f4056ec142096a0f7d7"), looks := false }, kinds := [], alts := [], laidByText := true, laidKinds := [.data, .data], laidTests := true, laidLooks := .later }
def FnExactTargetOfUptoCardSaid : Prop := Claim7.holds Tryd.pinned (.plain (OpenSpec.upto fnExactTargetOfSpec)) fnExactTargetOfUptoCard

/-- THE SECOND FORM's CARD OF 'laws.FnExactLinksOfKind'. -/
def fnExactLinksOfKindUptoCard : Claim7 := { stood := { row := fnExactLinksOfKindUptoRow, standIns := [], harness := (true, "813ed0bacc9ce7eaa18632048b7cbd73354c31696cc09f4056ec142096a0f7d7"), looks := false }, kinds := [], alts := [], laidByText := true, laidKinds := [.data, .data], laidTests := true, laidLooks := .later }
def FnExactLinksOfKindUptoCardSaid : Prop := Claim7.holds Tryd.pinned (.plain (OpenSpec.upto fnExactLinksOfKindSpec)) fnExactLinksOfKindUptoCard

/-- THE SECOND FORM's CARD OF 'laws.FnExactAxiomNet'. -/
def fnExactAxiomNetUptoCard : Claim7 := { stood := { row := fnExactAxiomNetUptoRow, standIns := [], harness := (true, "813ed0bacc9ce7eaa18632048b7cbd73354c31696cc09f4056ec142096a0f7d7"), looks := false }, kinds := [], alts := [], laidByText := true, laidKinds := [.data, .data], laidTests := true, laidLooks := .later }
def FnExactAxiomNetUptoCardSaid : Prop := Claim7.holds Tryd.pinned (.plain (OpenSpec.upto fnExactAxiomNetSpec)) fnExactAxiomNetUptoCard

/-- THE SECOND FORM's CARD OF 'laws.FnExactUnionNet'. -/
def fnExactUnionNetUptoCard : Claim7 := { stood := { row := fnExactUnionNetUptoRow, standIns := [], harness := (true, "813ed0bacc9ce7eaa18632048b7cbd73354c31696cc09f4056ec142096a0f7d7"), looks := false }, kinds := [], alts := [], laidByText := true, laidKinds := [.data, .data], laidTests := true, laidLooks := .later }
def FnExactUnionNetUptoCardSaid : Prop := Claim7.holds Tryd.pinned (.plain (OpenSpec.upto fnExactUnionNetSpec)) fnExactUnionNetUptoCard

/-- THE SECOND FORM's CARD OF 'laws.FnExactLinkNet'. -/
def fnExactLinkNetUptoCard : Claim7 := { stood := { row := fnExactLinkNetUptoRow, standIns := [], harness := (true, "813ed0bacc9ce7eaa18632048b7cbd73354c31696cc09f4056ec142096a0f7d7"), looks := false }, kinds := [], alts := [], laidByText := true, laidKinds := [.data, .data], laidTests := true, laidLooks := .later }
def FnExactLinkNetUptoCardSaid : Prop := Claim7.holds Tryd.pinned (.plain (OpenSpec.upto fnExactLinkNetSpec)) fnExactLinkNetUptoCard

/-- THE SECOND FORM's CARD OF 'laws.FnExactRenumberNet'. -/
def fnExactRenumberNetUptoCard : Claim7 := { stood := { row := fnExactRenumberNetUptoRow, standIns := [], harness := (true, "813ed0bacc9ce7eaa18632048b7cbd73354c31696cc09f4056ec142096a0f7d7"), looks := false }, kinds := [], alts := [], laidByText := true, laidKinds := [.data, .data], laidTests := true, laidLooks := .later }
def FnExactRenumberNetUptoCardSaid : Prop := Claim7.holds Tryd.pinned (.plain (OpenSpec.upto fnExactRenumberNetSpec)) fnExactRenumberNetUptoCard
end Rows
end Go.Proofs.YtjfhbofgnagfaaaDoor
