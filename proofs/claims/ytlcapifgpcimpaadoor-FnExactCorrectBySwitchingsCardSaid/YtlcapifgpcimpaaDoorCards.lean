/-
  DERIVED. GIVEN WITH THE SEED: THE CARDS: each row of YtlcapifgpcimpaaDoorRows.lean that lists a variable, with what it lists TIED to the program's text (the seventh form; the later family's looks); each row that meets fmt, with fmt's text TOLD by the authors' own Lean function (tested against real Go, not proved from fmt's source: count such statements apart). THE CARD IS WHAT COUNTS. Prove the row's statement (the work); the ties are given (YtlcapifgpcimpaaDoorTie.lean); close each card by the builder's one call (the guide's Derived/Test/ToyasCard.lean, 'card_holds'). Laid BY PROGRAM, IN A SANDBOX (cutbox-door.mjs). By AI agents, Wed Nov 11 2026. No macro, syntax, notation, axiom, sorry.
-/
import Derived.Test.YtlcapifgpcimpaaDoorRows
import GoSem.ClaimSeven
namespace Go.Proofs.YtlcapifgpcimpaaDoor
namespace Rows

/-- THE TIED CARD OF 'laws.FnExactGraphOfNet'. -/
def fnExactGraphOfNetCard : Claim7 := { stood := { row := fnExactGraphOfNetRow, standIns := [], harness := (true, "72b126daa039b5eab8a6259db6be246e4ca1de08996e2fb5f7f2f9c152de635a"), looks := false }, kinds := [], alts := [], laidByText := true, laidKinds := [.data, .data], laidTests := true, laidLooks := .later }
def FnExactGraphOfNetCardSaid : Prop := Claim7.holds Tryd.pinned (.plain (OpenSpec.ofChange fnExactGraphOfNetSpec)) fnExactGraphOfNetCard

/-- THE TIED CARD OF 'laws.FnExactCorrectByContraction'. -/
def fnExactCorrectByContractionCard : Claim7 := { stood := { row := fnExactCorrectByContractionRow, standIns := [], harness := (true, "72b126daa039b5eab8a6259db6be246e4ca1de08996e2fb5f7f2f9c152de635a"), looks := false }, kinds := [], alts := [], laidByText := true, laidKinds := [.data, .data], laidTests := true, laidLooks := .later }
def FnExactCorrectByContractionCardSaid : Prop := Claim7.holds Tryd.pinned (.plain (OpenSpec.ofChange fnExactCorrectByContractionSpec)) fnExactCorrectByContractionCard

/-- THE TIED CARD OF 'laws.FnExactFailingSwitching'. -/
def fnExactFailingSwitchingCard : Claim7 := { stood := { row := fnExactFailingSwitchingRow, standIns := [], harness := (true, "72b126daa039b5eab8a6259db6be246e4ca1de08996e2fb5f7f2f9c152de635a"), looks := false }, kinds := [], alts := [], laidByText := true, laidKinds := [.data, .data], laidTests := true, laidLooks := .later }
def FnExactFailingSwitchingCardSaid : Prop := Claim7.holds Tryd.pinned (.plain (OpenSpec.ofChange fnExactFailingSwitchingSpec)) fnExactFailingSwitchingCard

/-- THE TIED CARD OF 'laws.FnExactCorrectBySwitchings'. -/
def fnExactCorrectBySwitchingsCard : Claim7 := { stood := { row := fnExactCorrectBySwitchingsRow, standIns := [], harness := (true, "72b126daa039b5eab8a6259db6be246e4ca1de08996e2fb5f7f2f9c152de635a"), looks := false }, kinds := [], alts := [], laidByText := true, laidKinds := [.data, .data], laidTests := true, laidLooks := .later }
def FnExactCorrectBySwitchingsCardSaid : Prop := Claim7.holds Tryd.pinned (.plain (OpenSpec.ofChange fnExactCorrectBySwitchingsSpec)) fnExactCorrectBySwitchingsCard

/-- THE SECOND FORM's CARD OF 'laws.FnExactGraphOfNet'. -/
def fnExactGraphOfNetUptoCard : Claim7 := { stood := { row := fnExactGraphOfNetUptoRow, standIns := [], harness := (true, "72b126daa039b5eab8a6259db6be246e4ca1de08996e2fb5f7f2f9c152de635a"), looks := false }, kinds := [], alts := [], laidByText := true, laidKinds := [.data, .data], laidTests := true, laidLooks := .later }
def FnExactGraphOfNetUptoCardSaid : Prop := Claim7.holds Tryd.pinned (.plain (OpenSpec.upto fnExactGraphOfNetSpec)) fnExactGraphOfNetUptoCard

/-- THE SECOND FORM's CARD OF 'laws.FnExactCorrectByContraction'. -/
def fnExactCorrectByContractionUptoCard : Claim7 := { stood := { row := fnExactCorrectByContractionUptoRow, standIns := [], harness := (true, "72b126daa039b5eab8a6259db6be246e4ca1de08996e2fb5f7f2f9c152de635a"), looks := false }, kinds := [], alts := [], laidByText := true, laidKinds := [.data, .data], laidTests := true, laidLooks := .later }
def FnExactCorrectByContractionUptoCardSaid : Prop := Claim7.holds Tryd.pinned (.plain (OpenSpec.upto fnExactCorrectByContractionSpec)) fnExactCorrectByContractionUptoCard

/-- THE SECOND FORM's CARD OF 'laws.FnExactFailingSwitching'. -/
def fnExactFailingSwitchingUptoCard : Claim7 := { stood := { row := fnExactFailingSwitchingUptoRow, standIns := [], harness := (true, "72b126daa039b5eab8a6259db6be246e4ca1de08996e2fb5f7f2f9c152de635a"), looks := false }, kinds := [], alts := [], laidByText := true, laidKinds := [.data, .data], laidTests := true, laidLooks := .later }
def FnExactFailingSwitchingUptoCardSaid : Prop := Claim7.holds Tryd.pinned (.plain (OpenSpec.upto fnExactFailingSwitchingSpec)) fnExactFailingSwitchingUptoCard

/-- THE SECOND FORM's CARD OF 'laws.FnExactCorrectBySwitchings'. -/
def fnExactCorrectBySwitchingsUptoCard : Claim7 := { stood := { row := fnExactCorrectBySwitchingsUptoRow, standIns := [], harness := (true, "72b126daa039b5eab8a6259db6be246e4ca1de08996e2fb5f7f2f9c152de635a"), looks := false }, kinds := [], alts := [], laidByText := true, laidKinds := [.data, .data], laidTests := true, laidLooks := .later }
def FnExactCorrectBySwitchingsUptoCardSaid : Prop := Claim7.holds Tryd.pinned (.plain (OpenSpec.upto fnExactCorrectBySwitchingsSpec)) fnExactCorrectBySwitchingsUptoCard
end Rows
end Go.Proofs.YtlcapifgpcimpaaDoor
