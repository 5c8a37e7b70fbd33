/-
  DERIVED. GIVEN WITH THE SEED: THE CARDS: each row of YtjmalgadpodmbaaDoorRows.lean that lists a variable, with what it lists TIED to the program's text (the seventh form; the later family's looks); each row that meets fmt, with fmt's text TOLD by the authors' own Lean function (tested against real Go, not proved from fmt's source: count such statements apart). THE CARD IS WHAT COUNTS. Prove the row's statement (the work); the ties are given (YtjmalgadpodmbaaDoorTie.lean); close each card by the builder's one call (the guide's Derived/Test/ToyasCard.lean, 'card_holds'). Laid BY PROGRAM, IN A SANDBOX (cutbox-door.mjs). By AI agents, Wed Nov 11 2026. No macro, syntax, notation, axiom, sorry.
-/
import Derived.Test.YtjmalgadpodmbaaDoorRows
import GoSem.ClaimSeven
namespace Go.Proofs.YtjmalgadpodmbaaDoor
namespace Rows

/-- THE TIED CARD OF 'laws.FnSwapSeq'. -/
def fnSwapSeqCard : Claim7 := { stood := { row := fnSwapSeqRow, standIns := [], harness := (true, "a80ab325bc9c996365c1b0a2876fc97b108e005b28f78c84ffb416f35f66fe66"), looks := true }, kinds := [], alts := [], laidByText := true, laidKinds := [.data, .data], laidTests := true, laidLooks := .later }
def FnSwapSeqCardSaid : Prop := Claim7.holds Tryd.pinned (.plain (OpenSpec.ofChange fnSwapSeqSpec)) fnSwapSeqCard

/-- THE TIED CARD OF 'laws.FnExactValidSeq'. -/
def fnExactValidSeqCard : Claim7 := { stood := { row := fnExactValidSeqRow, standIns := [], harness := (true, "a80ab325bc9c996365c1b0a2876fc97b108e005b28f78c84ffb416f35f66fe66"), looks := true }, kinds := [], alts := [], laidByText := true, laidKinds := [.data], laidTests := true, laidLooks := .later }
def FnExactValidSeqCardSaid : Prop := Claim7.holds Tryd.pinned (.plain (OpenSpec.ofChange fnExactValidSeqSpec)) fnExactValidSeqCard

/-- THE TIED CARD OF 'laws.FnExactSameSeq'. -/
def fnExactSameSeqCard : Claim7 := { stood := { row := fnExactSameSeqRow, standIns := [], harness := (true, "a80ab325bc9c996365c1b0a2876fc97b108e005b28f78c84ffb416f35f66fe66"), looks := true }, kinds := [], alts := [], laidByText := true, laidKinds := [.data], laidTests := true, laidLooks := .later }
def FnExactSameSeqCardSaid : Prop := Claim7.holds Tryd.pinned (.plain (OpenSpec.ofChange fnExactSameSeqSpec)) fnExactSameSeqCard

/-- THE TIED CARD OF 'laws.FnExactSameMultiset'. -/
def fnExactSameMultisetCard : Claim7 := { stood := { row := fnExactSameMultisetRow, standIns := [], harness := (true, "a80ab325bc9c996365c1b0a2876fc97b108e005b28f78c84ffb416f35f66fe66"), looks := true }, kinds := [], alts := [], laidByText := true, laidKinds := [.data], laidTests := true, laidLooks := .later }
def FnExactSameMultisetCardSaid : Prop := Claim7.holds Tryd.pinned (.plain (OpenSpec.ofChange fnExactSameMultisetSpec)) fnExactSameMultisetCard

/-- THE TIED CARD OF 'laws.FnExactSortedSeq'. -/
def fnExactSortedSeqCard : Claim7 := { stood := { row := fnExactSortedSeqRow, standIns := [], harness := (true, "a80ab325bc9c996365c1b0a2876fc97b108e005b28f78c84ffb416f35f66fe66"), looks := true }, kinds := [], alts := [], laidByText := true, laidKinds := [.data], laidTests := true, laidLooks := .later }
def FnExactSortedSeqCardSaid : Prop := Claim7.holds Tryd.pinned (.plain (OpenSpec.ofChange fnExactSortedSeqSpec)) fnExactSortedSeqCard

/-- THE TIED CARD OF 'laws.FnExactSwappedSeq'. -/
def fnExactSwappedSeqCard : Claim7 := { stood := { row := fnExactSwappedSeqRow, standIns := [], harness := (true, "a80ab325bc9c996365c1b0a2876fc97b108e005b28f78c84ffb416f35f66fe66"), looks := true }, kinds := [], alts := [], laidByText := true, laidKinds := [.data], laidTests := true, laidLooks := .later }
def FnExactSwappedSeqCardSaid : Prop := Claim7.holds Tryd.pinned (.plain (OpenSpec.ofChange fnExactSwappedSeqSpec)) fnExactSwappedSeqCard

/-- THE TIED CARD OF 'laws.FnExactDualSeq'. -/
def fnExactDualSeqCard : Claim7 := { stood := { row := fnExactDualSeqRow, standIns := [], harness := (true, "a80ab325bc9c996365c1b0a2876fc97b108e005b28f78c84ffb416f35f66fe66"), looks := true }, kinds := [], alts := [], laidByText := true, laidKinds := [.data, .data], laidTests := true, laidLooks := .later }
def FnExactDualSeqCardSaid : Prop := Claim7.holds Tryd.pinned (.plain (OpenSpec.ofChange fnExactDualSeqSpec)) fnExactDualSeqCard

/-- THE TIED CARD OF 'laws.FnExactBalancedSeq'. -/
def fnExactBalancedSeqCard : Claim7 := { stood := { row := fnExactBalancedSeqRow, standIns := [], harness := (true, "a80ab325bc9c996365c1b0a2876fc97b108e005b28f78c84ffb416f35f66fe66"), looks := true }, kinds := [], alts := [], laidByText := true, laidKinds := [.data], laidTests := true, laidLooks := .later }
def FnExactBalancedSeqCardSaid : Prop := Claim7.holds Tryd.pinned (.plain (OpenSpec.ofChange fnExactBalancedSeqSpec)) fnExactBalancedSeqCard

/-- THE TIED CARD OF 'laws.FnExactSeqText'. -/
def fnExactSeqTextCard : Claim7 := { stood := { row := fnExactSeqTextRow, standIns := [], harness := (true, "a80ab325bc9c996365c1b0a2876fc97b108e005b28f78c84ffb416f35f66fe66"), looks := true }, kinds := [], alts := [], laidByText := true, laidKinds := [.data], laidTests := true, laidLooks := .later }
def FnExactSeqTextCardSaid : Prop := Claim7.holds Tryd.pinned (.plain (OpenSpec.ofChange fnExactSeqTextSpec)) fnExactSeqTextCard

/-- THE TIED CARD OF 'laws.FnExactReadSeq'. -/
def fnExactReadSeqCard : Claim7 := { stood := { row := fnExactReadSeqRow, standIns := [], harness := (true, "a80ab325bc9c996365c1b0a2876fc97b108e005b28f78c84ffb416f35f66fe66"), looks := true }, kinds := [], alts := [], laidByText := true, laidKinds := [.data, .data, .data, .pinned], laidTests := true, laidLooks := .later }
def FnExactReadSeqCardSaid : Prop := Claim7.holds Tryd.pinned (.plain (OpenSpec.ofChange fnExactReadSeqSpec)) fnExactReadSeqCard

/-- THE TIED CARD OF 'laws.FnExactSubformsOf'. -/
def fnExactSubformsOfCard : Claim7 := { stood := { row := fnExactSubformsOfRow, standIns := [], harness := (true, "a80ab325bc9c996365c1b0a2876fc97b108e005b28f78c84ffb416f35f66fe66"), looks := true }, kinds := [], alts := [], laidByText := true, laidKinds := [.data], laidTests := true, laidLooks := .later }
def FnExactSubformsOfCardSaid : Prop := Claim7.holds Tryd.pinned (.plain (OpenSpec.ofChange fnExactSubformsOfSpec)) fnExactSubformsOfCard

/-- THE TIED CARD OF 'laws.FnSubforms'. -/
def fnSubformsCard : Claim7 := { stood := { row := fnSubformsRow, standIns := [], harness := (true, "a80ab325bc9c996365c1b0a2876fc97b108e005b28f78c84ffb416f35f66fe66"), looks := true }, kinds := [], alts := [], laidByText := true, laidKinds := [.data], laidTests := true, laidLooks := .later }
def FnSubformsCardSaid : Prop := Claim7.holds Tryd.pinned (.plain (OpenSpec.ofChange fnSubformsSpec)) fnSubformsCard

/-- THE SECOND FORM's CARD OF 'laws.FnSwapSeq'. -/
def fnSwapSeqUptoCard : Claim7 := { stood := { row := fnSwapSeqUptoRow, standIns := [], harness := (true, "a80ab325bc9c996365c1b0a2876fc97b108e005b28f78c84ffb416f35f66fe66"), looks := true }, kinds := [], alts := [], laidByText := true, laidKinds := [.data, .data], laidTests := true, laidLooks := .later }
def FnSwapSeqUptoCardSaid : Prop := Claim7.holds Tryd.pinned (.plain (OpenSpec.upto fnSwapSeqSpec)) fnSwapSeqUptoCard

/-- THE SECOND FORM's CARD OF 'laws.FnExactValidSeq'. -/
def fnExactValidSeqUptoCard : Claim7 := { stood := { row := fnExactValidSeqUptoRow, standIns := [], harness := (true, "a80ab325bc9c996365c1b0a2876fc97b108e005b28f78c84ffb416f35f66fe66"), looks := true }, kinds := [], alts := [], laidByText := true, laidKinds := [.data], laidTests := true, laidLooks := .later }
def FnExactValidSeqUptoCardSaid : Prop := Claim7.holds Tryd.pinned (.plain (OpenSpec.upto fnExactValidSeqSpec)) fnExactValidSeqUptoCard

/-- THE SECOND FORM's CARD OF 'laws.FnExactSameSeq'. -/
def fnExactSameSeqUptoCard : Claim7 := { stood := { row := fnExactSameSeqUptoRow, standIns := [], harness := (true, "a80ab325bc9c996365c1b0a2876fc97b108e005b28f78c84ffb416f35f66fe66"), looks := true }, kinds := [], alts := [], laidByText := true, laidKinds := [.data], laidTests := true, laidLooks := .later }
def FnExactSameSeqUptoCardSaid : Prop := Claim7.holds Tryd.pinned (.plain (OpenSpec.upto fnExactSameSeqSpec)) fnExactSameSeqUptoCard

/-- THE SECOND FORM's CARD OF 'laws.FnExactSameMultiset'. -/
def fnExactSameMultisetUptoCard : Claim7 := { stood := { row := fnExactSameMultisetUptoRow, standIns := [], harness := (true, "a80ab325bc9c996365c1b0a2876fc97b108e005b28f78c84ffb416f35f66fe66"), looks := true }, kinds := [], alts := [], laidByText := true, laidKinds := [.data], laidTests := true, laidLooks := .later }
def FnExactSameMultisetUptoCardSaid : Prop := Claim7.holds Tryd.pinned (.plain (OpenSpec.upto fnExactSameMultisetSpec)) fnExactSameMultisetUptoCard

/-- THE SECOND FORM's CARD OF 'laws.FnExactSortedSeq'. -/
def fnExactSortedSeqUptoCard : Claim7 := { stood := { row := fnExactSortedSeqUptoRow, standIns := [], harness := (true, "a80ab325bc9c996365c1b0a2876fc97b108e005b28f78c84ffb416f35f66fe66"), looks := true }, kinds := [], alts := [], laidByText := true, laidKinds := [.data], laidTests := true, laidLooks := .later }
def FnExactSortedSeqUptoCardSaid : Prop := Claim7.holds Tryd.pinned (.plain (OpenSpec.upto fnExactSortedSeqSpec)) fnExactSortedSeqUptoCard

/-- THE SECOND FORM's CARD OF 'laws.FnExactSwappedSeq'. -/
def fnExactSwappedSeqUptoCard : Claim7 := { stood := { row := fnExactSwappedSeqUptoRow, standIns := [], harness := (true, "a80ab325bc9c996365c1b0a2876fc97b108e005b28f78c84ffb416f35f66fe66"), looks := true }, kinds := [], alts := [], laidByText := true, laidKinds := [.data], laidTests := true, laidLooks := .later }
def FnExactSwappedSeqUptoCardSaid : Prop := Claim7.holds Tryd.pinned (.plain (OpenSpec.upto fnExactSwappedSeqSpec)) fnExactSwappedSeqUptoCard

/-- THE SECOND FORM's CARD OF 'laws.FnExactDualSeq'. -/
def fnExactDualSeqUptoCard : Claim7 := { stood := { row := fnExactDualSeqUptoRow, standIns := [], harness := (true, "a80ab325bc9c996365c1b0a2876fc97b108e005b28f78c84ffb416f35f66fe66"), looks := true }, kinds := [], alts := [], laidByText := true, laidKinds := [.data, .data], laidTests := true, laidLooks := .later }
def FnExactDualSeqUptoCardSaid : Prop := Claim7.holds Tryd.pinned (.plain (OpenSpec.upto fnExactDualSeqSpec)) fnExactDualSeqUptoCard

/-- THE SECOND FORM's CARD OF 'laws.FnExactBalancedSeq'. -/
def fnExactBalancedSeqUptoCard : Claim7 := { stood := { row := fnExactBalancedSeqUptoRow, standIns := [], harness := (true, "a80ab325bc9c996365c1b0a2876fc97b108e005b28f78c84ffb416f35f66fe66"), looks := true }, kinds := [], alts := [], laidByText := true, laidKinds := [.data], laidTests := true, laidLooks := .later }
def FnExactBalancedSeqUptoCardSaid : Prop := Claim7.holds Tryd.pinned (.plain (OpenSpec.upto fnExactBalancedSeqSpec)) fnExactBalancedSeqUptoCard

/-- THE SECOND FORM's CARD OF 'laws.FnExactSeqText'. -/
def fnExactSeqTextUptoCard : Claim7 := { stood := { row := fnExactSeqTextUptoRow, standIns := [], harness := (true, "a80ab325bc9c996365c1b0a2876fc97b108e005b28f78c84ffb416f35f66fe66"), looks := true }, kinds := [], alts := [], laidByText := true, laidKinds := [.data], laidTests := true, laidLooks := .later }
def FnExactSeqTextUptoCardSaid : Prop := Claim7.holds Tryd.pinned (.plain (OpenSpec.upto fnExactSeqTextSpec)) fnExactSeqTextUptoCard

/-- THE SECOND FORM's CARD OF 'laws.FnExactReadSeq'. -/
def fnExactReadSeqUptoCard : Claim7 := { stood := { row := fnExactReadSeqUptoRow, standIns := [], harness := (true, "a80ab325bc9c996365c1b0a2876fc97b108e005b28f78c84ffb416f35f66fe66"), looks := true }, kinds := [], alts := [], laidByText := true, laidKinds := [.data, .data, .data, .pinned], laidTests := true, laidLooks := .later }
def FnExactReadSeqUptoCardSaid : Prop := Claim7.holds Tryd.pinned (.plain (OpenSpec.upto fnExactReadSeqSpec)) fnExactReadSeqUptoCard

/-- THE SECOND FORM's CARD OF 'laws.FnExactSubformsOf'. -/
def fnExactSubformsOfUptoCard : Claim7 := { stood := { row := fnExactSubformsOfUptoRow, standIns := [], harness := (true, "a80ab325bc9c996365c1b0a2876fc97b108e005b28f78c84ffb416f35f66fe66"), looks := true }, kinds := [], alts := [], laidByText := true, laidKinds := [.data], laidTests := true, laidLooks := .later }
def FnExactSubformsOfUptoCardSaid : Prop := Claim7.holds Tryd.pinned (.plain (OpenSpec.upto fnExactSubformsOfSpec)) fnExactSubformsOfUptoCard

/-- THE SECOND FORM's CARD OF 'laws.FnSubforms'. -/
def fnSubformsUptoCard : Claim7 := { stood := { row := fnSubformsUptoRow, standIns := [], harness := (true, "a80ab325bc9c996365c1b0a2876fc97b108e005b28f78c84ffb416f35f66fe66"), looks := true }, kinds := [], alts := [], laidByText := true, laidKinds := [.data], laidTests := true, laidLooks := .later }
def FnSubformsUptoCardSaid : Prop := Claim7.holds Tryd.pinned (.plain (OpenSpec.upto fnSubformsSpec)) fnSubformsUptoCard
end Rows
end Go.Proofs.YtjmalgadpodmbaaDoor
