/-
  DERIVED. GIVEN WITH THE SEED: THE CARDS: each row of YtoniekjchabjlaaDoorRows.lean that lists a variable, with what it lists TIED to the program's text (the seventh form; the later family's looks); each row that meets fmt, with fmt's text TOLD by the authors' own Lean function (tested against real Go, not proved from fmt's source: count such statements apart). THE CARD IS WHAT COUNTS. Prove the row's statement (the work); the ties are given (YtoniekjchabjlaaDoorTie.lean); close each card by the builder's one call (the guide's Derived/Test/ToyasCard.lean, 'card_holds'). Laid BY PROGRAM, IN A SANDBOX (cutbox-door.mjs). By AI agents, Wed Nov 11 2026. No macro, syntax, notation, axiom, sorry.
-/
import Derived.Test.YtoniekjchabjlaaDoorRows
import GoSem.ClaimSeven
namespace Go.Proofs.YtoniekjchabjlaaDoor
namespace Rows

/-- THE TIED CARD OF 'laws.FnSubstDual'. -/
def fnSubstDualCard : Claim7 := { stood := { row := fnSubstDualRow, standIns := [], harness := (true, "1cef617b288b16ab059670eb5cf6d338415d1507ee218298ca54b5cf48af3477"), looks := false }, kinds := [], alts := [], laidByText := true, laidKinds := [.data, .data], laidTests := true, laidLooks := .later }
def FnSubstDualCardSaid : Prop := Claim7.holds Tryd.pinned (.plain (OpenSpec.ofChange fnSubstDualSpec)) fnSubstDualCard

/-- THE TIED CARD OF 'laws.FnMatch'. -/
def fnMatchCard : Claim7 := { stood := { row := fnMatchRow, standIns := [], harness := (true, "1cef617b288b16ab059670eb5cf6d338415d1507ee218298ca54b5cf48af3477"), looks := false }, kinds := [], alts := [], laidByText := true, laidKinds := [.data, .data], laidTests := true, laidLooks := .later }
def FnMatchCardSaid : Prop := Claim7.holds Tryd.pinned (.plain (OpenSpec.ofChange fnMatchSpec)) fnMatchCard

/-- THE TIED CARD OF 'laws.FnComposed'. -/
def fnComposedCard : Claim7 := { stood := { row := fnComposedRow, standIns := [], harness := (true, "1cef617b288b16ab059670eb5cf6d338415d1507ee218298ca54b5cf48af3477"), looks := false }, kinds := [], alts := [], laidByText := true, laidKinds := [.data, .data], laidTests := true, laidLooks := .later }
def FnComposedCardSaid : Prop := Claim7.holds Tryd.pinned (.plain (OpenSpec.ofChange fnComposedSpec)) fnComposedCard

/-- THE TIED CARD OF 'laws.FnExactIsBinding'. -/
def fnExactIsBindingCard : Claim7 := { stood := { row := fnExactIsBindingRow, standIns := [], harness := (true, "1cef617b288b16ab059670eb5cf6d338415d1507ee218298ca54b5cf48af3477"), looks := false }, kinds := [], alts := [], laidByText := true, laidKinds := [.data], laidTests := true, laidLooks := .later }
def FnExactIsBindingCardSaid : Prop := Claim7.holds Tryd.pinned (.plain (OpenSpec.ofChange fnExactIsBindingSpec)) fnExactIsBindingCard

/-- THE TIED CARD OF 'laws.FnExactSubstForm'. -/
def fnExactSubstFormCard : Claim7 := { stood := { row := fnExactSubstFormRow, standIns := [], harness := (true, "1cef617b288b16ab059670eb5cf6d338415d1507ee218298ca54b5cf48af3477"), looks := false }, kinds := [], alts := [], laidByText := true, laidKinds := [.data, .data], laidTests := true, laidLooks := .later }
def FnExactSubstFormCardSaid : Prop := Claim7.holds Tryd.pinned (.plain (OpenSpec.ofChange fnExactSubstFormSpec)) fnExactSubstFormCard

/-- THE TIED CARD OF 'laws.FnExactSubstSeq'. -/
def fnExactSubstSeqCard : Claim7 := { stood := { row := fnExactSubstSeqRow, standIns := [], harness := (true, "1cef617b288b16ab059670eb5cf6d338415d1507ee218298ca54b5cf48af3477"), looks := false }, kinds := [], alts := [], laidByText := true, laidKinds := [.data, .data], laidTests := true, laidLooks := .later }
def FnExactSubstSeqCardSaid : Prop := Claim7.holds Tryd.pinned (.plain (OpenSpec.ofChange fnExactSubstSeqSpec)) fnExactSubstSeqCard

/-- THE TIED CARD OF 'laws.FnExactMatchForm'. -/
def fnExactMatchFormCard : Claim7 := { stood := { row := fnExactMatchFormRow, standIns := [], harness := (true, "1cef617b288b16ab059670eb5cf6d338415d1507ee218298ca54b5cf48af3477"), looks := false }, kinds := [], alts := [], laidByText := true, laidKinds := [.data, .data], laidTests := true, laidLooks := .later }
def FnExactMatchFormCardSaid : Prop := Claim7.holds Tryd.pinned (.plain (OpenSpec.ofChange fnExactMatchFormSpec)) fnExactMatchFormCard

/-- THE TIED CARD OF 'laws.FnExactComposedBindings'. -/
def fnExactComposedBindingsCard : Claim7 := { stood := { row := fnExactComposedBindingsRow, standIns := [], harness := (true, "1cef617b288b16ab059670eb5cf6d338415d1507ee218298ca54b5cf48af3477"), looks := false }, kinds := [], alts := [], laidByText := true, laidKinds := [.data, .data], laidTests := true, laidLooks := .later }
def FnExactComposedBindingsCardSaid : Prop := Claim7.holds Tryd.pinned (.plain (OpenSpec.ofChange fnExactComposedBindingsSpec)) fnExactComposedBindingsCard

/-- THE SECOND FORM's CARD OF 'laws.FnSubstDual'. -/
def fnSubstDualUptoCard : Claim7 := { stood := { row := fnSubstDualUptoRow, standIns := [], harness := (true, "1cef617b288b16ab059670eb5cf6d338415d1507ee218298ca54b5cf48af3477"), looks := false }, kinds := [], alts := [], laidByText := true, laidKinds := [.data, .data], laidTests := true, laidLooks := .later }
def FnSubstDualUptoCardSaid : Prop := Claim7.holds Tryd.pinned (.plain (OpenSpec.upto fnSubstDualSpec)) fnSubstDualUptoCard

/-- THE SECOND FORM's CARD OF 'laws.FnMatch'. -/
def fnMatchUptoCard : Claim7 := { stood := { row := fnMatchUptoRow, standIns := [], harness := (true, "1cef617b288b16ab059670eb5cf6d338415d1507ee218298ca54b5cf48af3477"), looks := false }, kinds := [], alts := [], laidByText := true, laidKinds := [.data, .data], laidTests := true, laidLooks := .later }
def FnMatchUptoCardSaid : Prop := Claim7.holds Tryd.pinned (.plain (OpenSpec.upto fnMatchSpec)) fnMatchUptoCard

/-- THE SECOND FORM's CARD OF 'laws.FnComposed'. -/
def fnComposedUptoCard : Claim7 := { stood := { row := fnComposedUptoRow, standIns := [], harness := (true, "1cef617b288b16ab059670eb5cf6d338415d1507ee218298ca54b5cf48af3477"), looks := false }, kinds := [], alts := [], laidByText := true, laidKinds := [.data, .data], laidTests := true, laidLooks := .later }
def FnComposedUptoCardSaid : Prop := Claim7.holds Tryd.pinned (.plain (OpenSpec.upto fnComposedSpec)) fnComposedUptoCard

/-- THE SECOND FORM's CARD OF 'laws.FnExactIsBinding'. -/
def fnExactIsBindingUptoCard : Claim7 := { stood := { row := fnExactIsBindingUptoRow, standIns := [], harness := (true, "1cef617b288b16ab059670eb5cf6d338415d1507ee218298ca54b5cf48af3477"), looks := false }, kinds := [], alts := [], laidByText := true, laidKinds := [.data], laidTests := true, laidLooks := .later }
def FnExactIsBindingUptoCardSaid : Prop := Claim7.holds Tryd.pinned (.plain (OpenSpec.upto fnExactIsBindingSpec)) fnExactIsBindingUptoCard

/-- THE SECOND FORM's CARD OF 'laws.FnExactSubstForm'. -/
def fnExactSubstFormUptoCard : Claim7 := { stood := { row := fnExactSubstFormUptoRow, standIns := [], harness := (true, "1cef617b288b16ab059670eb5cf6d338415d1507ee218298ca54b5cf48af3477"), looks := false }, kinds := [], alts := [], laidByText := true, laidKinds := [.data, .data], laidTests := true, laidLooks := .later }
def FnExactSubstFormUptoCardSaid : Prop := Claim7.holds Tryd.pinned (.plain (OpenSpec.upto fnExactSubstFormSpec)) fnExactSubstFormUptoCard

/-- THE SECOND FORM's CARD OF 'laws.FnExactSubstSeq'. -/
def fnExactSubstSeqUptoCard : Claim7 := { stood := { row := fnExactSubstSeqUptoRow, standIns := [], harness := (true, "1cef617b288b16ab059670eb5cf6d338415d1507ee218298ca54b5cf48af3477"), looks := false }, kinds := [], alts := [], laidByText := true, laidKinds := [.data, .data], laidTests := true, laidLooks := .later }
def FnExactSubstSeqUptoCardSaid : Prop := Claim7.holds Tryd.pinned (.plain (OpenSpec.upto fnExactSubstSeqSpec)) fnExactSubstSeqUptoCard

/-- THE SECOND FORM's CARD OF 'laws.FnExactMatchForm'. -/
def fnExactMatchFormUptoCard : Claim7 := { stood := { row := fnExactMatchFormUptoRow, standIns := [], harness := (true, "1cef617b288b16ab059670eb5cf6d338415d1507ee218298ca54b5cf48af3477"), looks := false }, kinds := [], alts := [], laidByText := true, laidKinds := [.data, .data], laidTests := true, laidLooks := .later }
def FnExactMatchFormUptoCardSaid : Prop := Claim7.holds Tryd.pinned (.plain (OpenSpec.upto fnExactMatchFormSpec)) fnExactMatchFormUptoCard

/-- THE SECOND FORM's CARD OF 'laws.FnExactComposedBindings'. -/
def fnExactComposedBindingsUptoCard : Claim7 := { stood := { row := fnExactComposedBindingsUptoRow, standIns := [], harness := (true, "1cef617b288b16ab059670eb5cf6d338415d1507ee218298ca54b5cf48af3477"), looks := false }, kinds := [], alts := [], laidByText := true, laidKinds := [.data, .data], laidTests := true, laidLooks := .later }
def FnExactComposedBindingsUptoCardSaid : Prop := Claim7.holds Tryd.pinned (.plain (OpenSpec.upto fnExactComposedBindingsSpec)) fnExactComposedBindingsUptoCard
end Rows
end Go.Proofs.YtoniekjchabjlaaDoor
