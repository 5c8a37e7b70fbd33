/-
  DERIVED. GIVEN WITH THE SEED: THE CARDS: each row of YtedigjkmolnjcaaDoorRows.lean that lists a variable, with what it lists TIED to the program's text (the seventh form; the later family's looks); each row that meets fmt, with fmt's text TOLD by the authors' own Lean function (tested against real Go, not proved from fmt's source: count such statements apart). THE CARD IS WHAT COUNTS. Prove the row's statement (the work); the ties are given (YtedigjkmolnjcaaDoorTie.lean); close each card by the builder's one call (the guide's Derived/Test/ToyasCard.lean, 'card_holds'). Laid BY PROGRAM, IN A SANDBOX (cutbox-door.mjs). By AI agents, Wed Nov 11 2026. No macro, syntax, notation, axiom, sorry.
-/
import Derived.Test.YtedigjkmolnjcaaDoorRows
import GoSem.ClaimSeven
namespace Go.Proofs.YtedigjkmolnjcaaDoor
namespace Rows

/-- THE TIED CARD OF 'laws.FnExactIsFiringSequence'. -/
def fnExactIsFiringSequenceCard : Claim7 := { stood := { row := fnExactIsFiringSequenceRow, standIns := [], harness := (true, "a7fd71c642a506523e6bd4679bc647cf5fbdc2e2071f76e0c75718cfabbe6656"), looks := false }, kinds := [], alts := [], laidByText := true, laidKinds := [.data, .data], laidTests := true, laidLooks := .later }
def FnExactIsFiringSequenceCardSaid : Prop := Claim7.holds Tryd.pinned (.plain (OpenSpec.ofChange fnExactIsFiringSequenceSpec)) fnExactIsFiringSequenceCard

/-- THE TIED CARD OF 'laws.FnExactReadyLinks'. -/
def fnExactReadyLinksCard : Claim7 := { stood := { row := fnExactReadyLinksRow, standIns := [], harness := (true, "a7fd71c642a506523e6bd4679bc647cf5fbdc2e2071f76e0c75718cfabbe6656"), looks := false }, kinds := [], alts := [], laidByText := true, laidKinds := [.data, .data], laidTests := true, laidLooks := .later }
def FnExactReadyLinksCardSaid : Prop := Claim7.holds Tryd.pinned (.plain (OpenSpec.ofChange fnExactReadyLinksSpec)) fnExactReadyLinksCard

/-- THE TIED CARD OF 'laws.FnExactPartsAfter'. -/
def fnExactPartsAfterCard : Claim7 := { stood := { row := fnExactPartsAfterRow, standIns := [], harness := (true, "a7fd71c642a506523e6bd4679bc647cf5fbdc2e2071f76e0c75718cfabbe6656"), looks := false }, kinds := [], alts := [], laidByText := true, laidKinds := [.data, .data], laidTests := true, laidLooks := .later }
def FnExactPartsAfterCardSaid : Prop := Claim7.holds Tryd.pinned (.plain (OpenSpec.ofChange fnExactPartsAfterSpec)) fnExactPartsAfterCard

/-- THE TIED CARD OF 'laws.FnExactOpenWires'. -/
def fnExactOpenWiresCard : Claim7 := { stood := { row := fnExactOpenWiresRow, standIns := [], harness := (true, "a7fd71c642a506523e6bd4679bc647cf5fbdc2e2071f76e0c75718cfabbe6656"), looks := false }, kinds := [], alts := [], laidByText := true, laidKinds := [.data, .data], laidTests := true, laidLooks := .later }
def FnExactOpenWiresCardSaid : Prop := Claim7.holds Tryd.pinned (.plain (OpenSpec.ofChange fnExactOpenWiresSpec)) fnExactOpenWiresCard

/-- THE TIED CARD OF 'laws.FnExactFiringOrder'. -/
def fnExactFiringOrderCard : Claim7 := { stood := { row := fnExactFiringOrderRow, standIns := [], harness := (true, "a7fd71c642a506523e6bd4679bc647cf5fbdc2e2071f76e0c75718cfabbe6656"), looks := false }, kinds := [], alts := [], laidByText := true, laidKinds := [.data, .data], laidTests := true, laidLooks := .later }
def FnExactFiringOrderCardSaid : Prop := Claim7.holds Tryd.pinned (.plain (OpenSpec.ofChange fnExactFiringOrderSpec)) fnExactFiringOrderCard

/-- THE TIED CARD OF 'laws.FnExactLastFiringOrder'. -/
def fnExactLastFiringOrderCard : Claim7 := { stood := { row := fnExactLastFiringOrderRow, standIns := [], harness := (true, "a7fd71c642a506523e6bd4679bc647cf5fbdc2e2071f76e0c75718cfabbe6656"), looks := false }, kinds := [], alts := [], laidByText := true, laidKinds := [.data, .data], laidTests := true, laidLooks := .later }
def FnExactLastFiringOrderCardSaid : Prop := Claim7.holds Tryd.pinned (.plain (OpenSpec.ofChange fnExactLastFiringOrderSpec)) fnExactLastFiringOrderCard

/-- THE TIED CARD OF 'laws.FnExactStuckLinks'. -/
def fnExactStuckLinksCard : Claim7 := { stood := { row := fnExactStuckLinksRow, standIns := [], harness := (true, "a7fd71c642a506523e6bd4679bc647cf5fbdc2e2071f76e0c75718cfabbe6656"), looks := false }, kinds := [], alts := [], laidByText := true, laidKinds := [.data, .data], laidTests := true, laidLooks := .later }
def FnExactStuckLinksCardSaid : Prop := Claim7.holds Tryd.pinned (.plain (OpenSpec.ofChange fnExactStuckLinksSpec)) fnExactStuckLinksCard

/-- THE TIED CARD OF 'laws.FnExactCorrectByParsing'. -/
def fnExactCorrectByParsingCard : Claim7 := { stood := { row := fnExactCorrectByParsingRow, standIns := [], harness := (true, "a7fd71c642a506523e6bd4679bc647cf5fbdc2e2071f76e0c75718cfabbe6656"), looks := false }, kinds := [], alts := [], laidByText := true, laidKinds := [.data, .data], laidTests := true, laidLooks := .later }
def FnExactCorrectByParsingCardSaid : Prop := Claim7.holds Tryd.pinned (.plain (OpenSpec.ofChange fnExactCorrectByParsingSpec)) fnExactCorrectByParsingCard

/-- THE SECOND FORM's CARD OF 'laws.FnExactIsFiringSequence'. -/
def fnExactIsFiringSequenceUptoCard : Claim7 := { stood := { row := fnExactIsFiringSequenceUptoRow, standIns := [], harness := (true, "a7fd71c642a506523e6bd4679bc647cf5fbdc2e2071f76e0c75718cfabbe6656"), looks := false }, kinds := [], alts := [], laidByText := true, laidKinds := [.data, .data], laidTests := true, laidLooks := .later }
def FnExactIsFiringSequenceUptoCardSaid : Prop := Claim7.holds Tryd.pinned (.plain (OpenSpec.upto fnExactIsFiringSequenceSpec)) fnExactIsFiringSequenceUptoCard

/-- THE SECOND FORM's CARD OF 'laws.FnExactReadyLinks'. -/
def fnExactReadyLinksUptoCard : Claim7 := { stood := { row := fnExactReadyLinksUptoRow, standIns := [], harness := (true, "a7fd71c642a506523e6bd4679bc647cf5fbdc2e2071f76e0c75718cfabbe6656"), looks := false }, kinds := [], alts := [], laidByText := true, laidKinds := [.data, .data], laidTests := true, laidLooks := .later }
def FnExactReadyLinksUptoCardSaid : Prop := Claim7.holds Tryd.pinned (.plain (OpenSpec.upto fnExactReadyLinksSpec)) fnExactReadyLinksUptoCard

/-- THE SECOND FORM's CARD OF 'laws.FnExactPartsAfter'. -/
def fnExactPartsAfterUptoCard : Claim7 := { stood := { row := fnExactPartsAfterUptoRow, standIns := [], harness := (true, "a7fd71c642a506523e6bd4679bc647cf5fbdc2e2071f76e0c75718cfabbe6656"), looks := false }, kinds := [], alts := [], laidByText := true, laidKinds := [.data, .data], laidTests := true, laidLooks := .later }
def FnExactPartsAfterUptoCardSaid : Prop := Claim7.holds Tryd.pinned (.plain (OpenSpec.upto fnExactPartsAfterSpec)) fnExactPartsAfterUptoCard

/-- THE SECOND FORM's CARD OF 'laws.FnExactOpenWires'. -/
def fnExactOpenWiresUptoCard : Claim7 := { stood := { row := fnExactOpenWiresUptoRow, standIns := [], harness := (true, "a7fd71c642a506523e6bd4679bc647cf5fbdc2e2071f76e0c75718cfabbe6656"), looks := false }, kinds := [], alts := [], laidByText := true, laidKinds := [.data, .data], laidTests := true, laidLooks := .later }
def FnExactOpenWiresUptoCardSaid : Prop := Claim7.holds Tryd.pinned (.plain (OpenSpec.upto fnExactOpenWiresSpec)) fnExactOpenWiresUptoCard

/-- THE SECOND FORM's CARD OF 'laws.FnExactFiringOrder'. -/
def fnExactFiringOrderUptoCard : Claim7 := { stood := { row := fnExactFiringOrderUptoRow, standIns := [], harness := (true, "a7fd71c642a506523e6bd4679bc647cf5fbdc2e2071f76e0c75718cfabbe6656"), looks := false }, kinds := [], alts := [], laidByText := true, laidKinds := [.data, .data], laidTests := true, laidLooks := .later }
def FnExactFiringOrderUptoCardSaid : Prop := Claim7.holds Tryd.pinned (.plain (OpenSpec.upto fnExactFiringOrderSpec)) fnExactFiringOrderUptoCard

/-- THE SECOND FORM's CARD OF 'laws.FnExactLastFiringOrder'. -/
def fnExactLastFiringOrderUptoCard : Claim7 := { stood := { row := fnExactLastFiringOrderUptoRow, standIns := [], harness := (true, "a7fd71c642a506523e6bd4679bc647cf5fbdc2e2071f76e0c75718cfabbe6656"), looks := false }, kinds := [], alts := [], laidByText := true, laidKinds := [.data, .data], laidTests := true, laidLooks := .later }
def FnExactLastFiringOrderUptoCardSaid : Prop := Claim7.holds Tryd.pinned (.plain (OpenSpec.upto fnExactLastFiringOrderSpec)) fnExactLastFiringOrderUptoCard

/-- THE SECOND FORM's CARD OF 'laws.FnExactStuckLinks'. -/
def fnExactStuckLinksUptoCard : Claim7 := { stood := { row := fnExactStuckLinksUptoRow, standIns := [], harness := (true, "a7fd71c642a506523e6bd4679bc647cf5fbdc2e2071f76e0c75718cfabbe6656"), looks := false }, kinds := [], alts := [], laidByText := true, laidKinds := [.data, .data], laidTests := true, laidLooks := .later }
def FnExactStuckLinksUptoCardSaid : Prop := Claim7.holds Tryd.pinned (.plain (OpenSpec.upto fnExactStuckLinksSpec)) fnExactStuckLinksUptoCard

/-- THE SECOND FORM's CARD OF 'laws.FnExactCorrectByParsing'. -/
def fnExactCorrectByParsingUptoCard : Claim7 := { stood := { row := fnExactCorrectByParsingUptoRow, standIns := [], harness := (true, "a7fd71c642a506523e6bd4679bc647cf5fbdc2e2071f76e0c75718cfabbe6656"), looks := false }, kinds := [], alts := [], laidByText := true, laidKinds := [.data, .data], laidTests := true, laidLooks := .later }
def FnExactCorrectByParsingUptoCardSaid : Prop := Claim7.holds Tryd.pinned (.plain (OpenSpec.upto fnExactCorrectByParsingSpec)) fnExactCorrectByParsingUptoCard
end Rows
end Go.Proofs.YtedigjkmolnjcaaDoor
