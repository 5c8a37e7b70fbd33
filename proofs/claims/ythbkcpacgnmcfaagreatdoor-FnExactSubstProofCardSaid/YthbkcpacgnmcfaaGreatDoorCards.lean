/-
  DERIVED. GIVEN WITH THE SEED: THE CARDS: each row of YthbkcpacgnmcfaaGreatDoorRows.lean that lists a variable, with what it lists TIED to the program's text (the seventh form; the later family's looks); each row that meets fmt, with fmt's text TOLD by the authors' own Lean function (tested against real Go, not proved from fmt's source: count such statements apart). THE CARD IS WHAT COUNTS. Prove the row's statement (the work); the ties are given (YthbkcpacgnmcfaaGreatDoorTie.lean); close each card by the builder's one call (the guide's Derived/Test/ToyasCard.lean, 'card_holds'). Laid BY PROGRAM, IN A SANDBOX (cutbox-door.mjs). By AI agents, Wed Nov 11 2026. No macro, syntax, notation, axiom, sorry.
-/
import Derived.Test.YthbkcpacgnmcfaaGreatDoorRows
import GoSem.ClaimSeven
namespace Go.Proofs.YthbkcpacgnmcfaaGreatDoor
namespace Rows

/-- THE TIED CARD OF 'laws.FnExactSubstProof'. -/
def fnExactSubstProofCard : Claim7 := { stood := { row := fnExactSubstProofRow, standIns := [], harness := (true, "72631cddbafff6e94396507099cf43dc60162e629478ca50f1bb78e61210a600"), looks := true }, kinds := [], alts := [], laidByText := true, laidKinds := [.data, .data], laidTests := true, laidLooks := .later }
def FnExactSubstProofCardSaid : Prop := Claim7.holds Tryz.pinned (.plain (OpenSpec.ofChange fnExactSubstProofSpec)) fnExactSubstProofCard

/-- THE SECOND FORM's CARD OF 'laws.FnExactSubstProof'. -/
def fnExactSubstProofUptoCard : Claim7 := { stood := { row := fnExactSubstProofUptoRow, standIns := [], harness := (true, "72631cddbafff6e94396507099cf43dc60162e629478ca50f1bb78e61210a600"), looks := true }, kinds := [], alts := [], laidByText := true, laidKinds := [.data, .data], laidTests := true, laidLooks := .later }
def FnExactSubstProofUptoCardSaid : Prop := Claim7.holds Tryz.pinned (.plain (OpenSpec.upto fnExactSubstProofSpec)) fnExactSubstProofUptoCard
end Rows
end Go.Proofs.YthbkcpacgnmcfaaGreatDoor
