/-
  DERIVED. GIVEN WITH THE SEED: THE CARDS: each row of YtfdpkhiiboghiaaDoorRows.lean that lists a variable, with what it lists TIED to the program's text (the seventh form; the later family's looks); each row that meets fmt, with fmt's text TOLD by the authors' own Lean function (tested against real Go, not proved from fmt's source: count such statements apart). THE CARD IS WHAT COUNTS. Prove the row's statement (the work); the ties are given (YtfdpkhiiboghiaaDoorTie.lean); close each card by the builder's one call (the guide's Derived/Test/ToyasCard.lean, 'card_holds'). Laid BY PROGRAM, IN A SANDBOX (cutbox-door.mjs). By AI agents, Wed Nov 11 2026. No macro, syntax, notation, axiom, sorry.
-/
import Derived.Test.YtfdpkhiiboghiaaDoorRows
import GoSem.ClaimSeven
namespace Go.Proofs.YtfdpkhiiboghiaaDoor
namespace Rows

/-- THE TIED CARD OF 'laws.FnExactIsClosedSet'. -/
def fnExactIsClosedSetCard : Claim7 := { stood := { row := fnExactIsClosedSetRow, standIns := [], harness := (true, "b47d7e47ab4f78621be6191cac5994e25d1b706a4cb419738634653640856264"), looks := false }, kinds := [], alts := [], laidByText := true, laidKinds := [.data, .data, .data], laidTests := true, laidLooks := .later }
def FnExactIsClosedSetCardSaid : Prop := Claim7.holds Tryd.pinned (.plain (OpenSpec.ofChange fnExactIsClosedSetSpec)) fnExactIsClosedSetCard

/-- THE SECOND FORM's CARD OF 'laws.FnExactIsClosedSet'. -/
def fnExactIsClosedSetUptoCard : Claim7 := { stood := { row := fnExactIsClosedSetUptoRow, standIns := [], harness := (true, "b47d7e47ab4f78621be6191cac5994e25d1b706a4cb419738634653640856264"), looks := false }, kinds := [], alts := [], laidByText := true, laidKinds := [.data, .data, .data], laidTests := true, laidLooks := .later }
def FnExactIsClosedSetUptoCardSaid : Prop := Claim7.holds Tryd.pinned (.plain (OpenSpec.upto fnExactIsClosedSetSpec)) fnExactIsClosedSetUptoCard
end Rows
end Go.Proofs.YtfdpkhiiboghiaaDoor
