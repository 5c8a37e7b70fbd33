/-
  DERIVED. GIVEN WITH THE SEED: THE CARDS: each row of YtdcommmefehlgaaDoorRows.lean that lists a variable, with what it lists TIED to the program's text (the seventh form; the later family's looks); each row that meets fmt, with fmt's text TOLD by the authors' own Lean function (tested against real Go, not proved from fmt's source: count such statements apart). THE CARD IS WHAT COUNTS. Prove the row's statement (the work); the ties are given (YtdcommmefehlgaaDoorTie.lean); close each card by the builder's one call (the guide's Derived/Test/ToyasCard.lean, 'card_holds'). Laid BY PROGRAM, IN A SANDBOX (cutbox-door.mjs). By AI agents, Wed Nov 11 2026. No macro, syntax, notation, axiom, sorry.
-/
import Derived.Test.YtdcommmefehlgaaDoorRows
import GoSem.ClaimSeven
namespace Go.Proofs.YtdcommmefehlgaaDoor
namespace Rows

/-- THE TIED CARD OF 'laws.FnExactUnionNet'. -/
def fnExactUnionNetCard : Claim7 := { stood := { row := fnExactUnionNetRow, standIns := [], harness := (true, "22d29613f0784b97212cc6aec71cca1c0607b5afa8bcb3cfb74cc1ceda80f06b"), looks := false }, kinds := [], alts := [], laidByText := true, laidKinds := [.data, .data], laidTests := true, laidLooks := .later }
def FnExactUnionNetCardSaid : Prop := Claim7.holds Tryd.pinned (.plain (OpenSpec.ofChange fnExactUnionNetSpec)) fnExactUnionNetCard

/-- THE TIED CARD OF 'laws.FnExactLinkNet'. -/
def fnExactLinkNetCard : Claim7 := { stood := { row := fnExactLinkNetRow, standIns := [], harness := (true, "22d29613f0784b97212cc6aec71cca1c0607b5afa8bcb3cfb74cc1ceda80f06b"), looks := false }, kinds := [], alts := [], laidByText := true, laidKinds := [.data, .data], laidTests := true, laidLooks := .later }
def FnExactLinkNetCardSaid : Prop := Claim7.holds Tryd.pinned (.plain (OpenSpec.ofChange fnExactLinkNetSpec)) fnExactLinkNetCard

/-- THE TIED CARD OF 'laws.FnExactKindCounts'. -/
def fnExactKindCountsCard : Claim7 := { stood := { row := fnExactKindCountsRow, standIns := [], harness := (true, "22d29613f0784b97212cc6aec71cca1c0607b5afa8bcb3cfb74cc1ceda80f06b"), looks := false }, kinds := [], alts := [], laidByText := true, laidKinds := [.data, .data], laidTests := true, laidLooks := .later }
def FnExactKindCountsCardSaid : Prop := Claim7.holds Tryd.pinned (.plain (OpenSpec.ofChange fnExactKindCountsSpec)) fnExactKindCountsCard

/-- THE TIED CARD OF 'laws.FnEnds'. -/
def fnEndsCard : Claim7 := { stood := { row := fnEndsRow, standIns := [], harness := (true, "22d29613f0784b97212cc6aec71cca1c0607b5afa8bcb3cfb74cc1ceda80f06b"), looks := false }, kinds := [], alts := [], laidByText := true, laidKinds := [.data, .data], laidTests := true, laidLooks := .later }
def FnEndsCardSaid : Prop := Claim7.holds Tryd.pinned (.plain (OpenSpec.ofChange fnEndsSpec)) fnEndsCard

/-- THE TIED CARD OF 'laws.FnNetOps'. -/
def fnNetOpsCard : Claim7 := { stood := { row := fnNetOpsRow, standIns := [], harness := (true, "22d29613f0784b97212cc6aec71cca1c0607b5afa8bcb3cfb74cc1ceda80f06b"), looks := false }, kinds := [], alts := [], laidByText := true, laidKinds := [.data, .data], laidTests := true, laidLooks := .later }
def FnNetOpsCardSaid : Prop := Claim7.holds Tryd.pinned (.plain (OpenSpec.ofChange fnNetOpsSpec)) fnNetOpsCard

/-- THE TIED CARD OF 'laws.FnRenumber'. -/
def fnRenumberCard : Claim7 := { stood := { row := fnRenumberRow, standIns := [], harness := (true, "22d29613f0784b97212cc6aec71cca1c0607b5afa8bcb3cfb74cc1ceda80f06b"), looks := false }, kinds := [], alts := [], laidByText := true, laidKinds := [.data, .data], laidTests := true, laidLooks := .later }
def FnRenumberCardSaid : Prop := Claim7.holds Tryd.pinned (.plain (OpenSpec.ofChange fnRenumberSpec)) fnRenumberCard

/-- THE SECOND FORM's CARD OF 'laws.FnExactUnionNet'. -/
def fnExactUnionNetUptoCard : Claim7 := { stood := { row := fnExactUnionNetUptoRow, standIns := [], harness := (true, "22d29613f0784b97212cc6aec71cca1c0607b5afa8bcb3cfb74cc1ceda80f06b"), looks := false }, kinds := [], alts := [], laidByText := true, laidKinds := [.data, .data], laidTests := true, laidLooks := .later }
def FnExactUnionNetUptoCardSaid : Prop := Claim7.holds Tryd.pinned (.plain (OpenSpec.upto fnExactUnionNetSpec)) fnExactUnionNetUptoCard

/-- THE SECOND FORM's CARD OF 'laws.FnExactLinkNet'. -/
def fnExactLinkNetUptoCard : Claim7 := { stood := { row := fnExactLinkNetUptoRow, standIns := [], harness := (true, "22d29613f0784b97212cc6aec71cca1c0607b5afa8bcb3cfb74cc1ceda80f06b"), looks := false }, kinds := [], alts := [], laidByText := true, laidKinds := [.data, .data], laidTests := true, laidLooks := .later }
def FnExactLinkNetUptoCardSaid : Prop := Claim7.holds Tryd.pinned (.plain (OpenSpec.upto fnExactLinkNetSpec)) fnExactLinkNetUptoCard

/-- THE SECOND FORM's CARD OF 'laws.FnExactKindCounts'. -/
def fnExactKindCountsUptoCard : Claim7 := { stood := { row := fnExactKindCountsUptoRow, standIns := [], harness := (true, "22d29613f0784b97212cc6aec71cca1c0607b5afa8bcb3cfb74cc1ceda80f06b"), looks := false }, kinds := [], alts := [], laidByText := true, laidKinds := [.data, .data], laidTests := true, laidLooks := .later }
def FnExactKindCountsUptoCardSaid : Prop := Claim7.holds Tryd.pinned (.plain (OpenSpec.upto fnExactKindCountsSpec)) fnExactKindCountsUptoCard

/-- THE SECOND FORM's CARD OF 'laws.FnEnds'. -/
def fnEndsUptoCard : Claim7 := { stood := { row := fnEndsUptoRow, standIns := [], harness := (true, "22d29613f0784b97212cc6aec71cca1c0607b5afa8bcb3cfb74cc1ceda80f06b"), looks := false }, kinds := [], alts := [], laidByText := true, laidKinds := [.data, .data], laidTests := true, laidLooks := .later }
def FnEndsUptoCardSaid : Prop := Claim7.holds Tryd.pinned (.plain (OpenSpec.upto fnEndsSpec)) fnEndsUptoCard

/-- THE SECOND FORM's CARD OF 'laws.FnNetOps'. -/
def fnNetOpsUptoCard : Claim7 := { stood := { row := fnNetOpsUptoRow, standIns := [], harness := (true, "22d29613f0784b97212cc6aec71cca1c0607b5afa8bcb3cfb74cc1ceda80f06b"), looks := false }, kinds := [], alts := [], laidByText := true, laidKinds := [.data, .data], laidTests := true, laidLooks := .later }
def FnNetOpsUptoCardSaid : Prop := Claim7.holds Tryd.pinned (.plain (OpenSpec.upto fnNetOpsSpec)) fnNetOpsUptoCard

/-- THE SECOND FORM's CARD OF 'laws.FnRenumber'. -/
def fnRenumberUptoCard : Claim7 := { stood := { row := fnRenumberUptoRow, standIns := [], harness := (true, "22d29613f0784b97212cc6aec71cca1c0607b5afa8bcb3cfb74cc1ceda80f06b"), looks := false }, kinds := [], alts := [], laidByText := true, laidKinds := [.data, .data], laidTests := true, laidLooks := .later }
def FnRenumberUptoCardSaid : Prop := Claim7.holds Tryd.pinned (.plain (OpenSpec.upto fnRenumberSpec)) fnRenumberUptoCard
end Rows
end Go.Proofs.YtdcommmefehlgaaDoor
