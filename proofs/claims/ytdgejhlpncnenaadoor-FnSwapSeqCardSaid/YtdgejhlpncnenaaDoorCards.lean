/-
  DERIVED. GIVEN WITH THE SEED: THE CARDS: each row of YtdgejhlpncnenaaDoorRows.lean that lists a variable, with what it lists TIED to the program's text (the seventh form; the later family's looks); each row that meets fmt, with fmt's text TOLD by the authors' own Lean function (tested against real Go, not proved from fmt's source: count such statements apart). THE CARD IS WHAT COUNTS. Prove the row's statement (the work); the ties are given (YtdgejhlpncnenaaDoorTie.lean); close each card by the builder's one call (the guide's Derived/Test/ToyasCard.lean, 'card_holds'). Laid BY PROGRAM, IN A SANDBOX (cutbox-door.mjs). By AI agents, Wed Nov 11 2026. No macro, syntax, notation, axiom, sorry.
-/
import Derived.Test.YtdgejhlpncnenaaDoorRows
import GoSem.ClaimSeven
namespace Go.Proofs.YtdgejhlpncnenaaDoor
namespace Rows

/-- THE TIED CARD OF 'laws.FnSubforms'. -/
def fnSubformsCard : Claim7 := { stood := { row := fnSubformsRow, standIns := [], harness := (true, "ae3ebbc258f7b182bd3546ecb40dc03ae1011a3617afb78d22a8ace1c72670f5"), looks := true }, kinds := [], alts := [], laidByText := true, laidKinds := [.data], laidTests := true, laidLooks := .later }
def FnSubformsCardSaid : Prop := Claim7.holds Tryd.pinned (.plain (OpenSpec.ofChange fnSubformsSpec)) fnSubformsCard

/-- THE TIED CARD OF 'laws.FnSwapSeq'. -/
def fnSwapSeqCard : Claim7 := { stood := { row := fnSwapSeqRow, standIns := [], harness := (true, "ae3ebbc258f7b182bd3546ecb40dc03ae1011a3617afb78d22a8ace1c72670f5"), looks := true }, kinds := [], alts := [], laidByText := true, laidKinds := [.data, .data], laidTests := true, laidLooks := .later }
def FnSwapSeqCardSaid : Prop := Claim7.holds Tryd.pinned (.plain (OpenSpec.ofChange fnSwapSeqSpec)) fnSwapSeqCard

/-- THE TIED CARD OF 'laws.FnExactSortedSeq'. -/
def fnExactSortedSeqCard : Claim7 := { stood := { row := fnExactSortedSeqRow, standIns := [], harness := (true, "ae3ebbc258f7b182bd3546ecb40dc03ae1011a3617afb78d22a8ace1c72670f5"), looks := true }, kinds := [], alts := [], laidByText := true, laidKinds := [.data], laidTests := true, laidLooks := .later }
def FnExactSortedSeqCardSaid : Prop := Claim7.holds Tryd.pinned (.plain (OpenSpec.ofChange fnExactSortedSeqSpec)) fnExactSortedSeqCard

/-- THE TIED CARD OF 'laws.FnExactSameMultiset'. -/
def fnExactSameMultisetCard : Claim7 := { stood := { row := fnExactSameMultisetRow, standIns := [], harness := (true, "ae3ebbc258f7b182bd3546ecb40dc03ae1011a3617afb78d22a8ace1c72670f5"), looks := true }, kinds := [], alts := [], laidByText := true, laidKinds := [.data], laidTests := true, laidLooks := .later }
def FnExactSameMultisetCardSaid : Prop := Claim7.holds Tryd.pinned (.plain (OpenSpec.ofChange fnExactSameMultisetSpec)) fnExactSameMultisetCard

/-- THE TIED CARD OF 'laws.FnExactReadSeq'. -/
def fnExactReadSeqCard : Claim7 := { stood := { row := fnExactReadSeqRow, standIns := [], harness := (true, "ae3ebbc258f7b182bd3546ecb40dc03ae1011a3617afb78d22a8ace1c72670f5"), looks := true }, kinds := [], alts := [], laidByText := true, laidKinds := [.data, .data, .data, .pinned], laidTests := true, laidLooks := .later }
def FnExactReadSeqCardSaid : Prop := Claim7.holds Tryd.pinned (.plain (OpenSpec.ofChange fnExactReadSeqSpec)) fnExactReadSeqCard

/-- THE SECOND FORM's CARD OF 'laws.FnSubforms'. -/
def fnSubformsUptoCard : Claim7 := { stood := { row := fnSubformsUptoRow, standIns := [], harness := (true, "ae3ebbc258f7b182bd3546ecb40dc03ae1011a3617afb78d22a8ace1c72670f5"), looks := true }, kinds := [], alts := [], laidByText := true, laidKinds := [.data], laidTests := true, laidLooks := .later }
def FnSubformsUptoCardSaid : Prop := Claim7.holds Tryd.pinned (.plain (OpenSpec.upto fnSubformsSpec)) fnSubformsUptoCard

/-- THE SECOND FORM's CARD OF 'laws.FnSwapSeq'. -/
def fnSwapSeqUptoCard : Claim7 := { stood := { row := fnSwapSeqUptoRow, standIns := [], harness := (true, "ae3ebbc258f7b182bd3546ecb40dc03ae1011a3617afb78d22a8ace1c72670f5"), looks := true }, kinds := [], alts := [], laidByText := true, laidKinds := [.data, .data], laidTests := true, laidLooks := .later }
def FnSwapSeqUptoCardSaid : Prop := Claim7.holds Tryd.pinned (.plain (OpenSpec.upto fnSwapSeqSpec)) fnSwapSeqUptoCard

/-- THE SECOND FORM's CARD OF 'laws.FnExactSortedSeq'. -/
def fnExactSortedSeqUptoCard : Claim7 := { stood := { row := fnExactSortedSeqUptoRow, standIns := [], harness := (true, "ae3ebbc258f7b182bd3546ecb40dc03ae1011a3617afb78d22a8ace1c72670f5"), looks := true }, kinds := [], alts := [], laidByText := true, laidKinds := [.data], laidTests := true, laidLooks := .later }
def FnExactSortedSeqUptoCardSaid : Prop := Claim7.holds Tryd.pinned (.plain (OpenSpec.upto fnExactSortedSeqSpec)) fnExactSortedSeqUptoCard

/-- THE SECOND FORM's CARD OF 'laws.FnExactSameMultiset'. -/
def fnExactSameMultisetUptoCard : Claim7 := { stood := { row := fnExactSameMultisetUptoRow, standIns := [], harness := (true, "ae3ebbc258f7b182bd3546ecb40dc03ae1011a3617afb78d22a8ace1c72670f5"), looks := true }, kinds := [], alts := [], laidByText := true, laidKinds := [.data], laidTests := true, laidLooks := .later }
def FnExactSameMultisetUptoCardSaid : Prop := Claim7.holds Tryd.pinned (.plain (OpenSpec.upto fnExactSameMultisetSpec)) fnExactSameMultisetUptoCard

/-- THE SECOND FORM's CARD OF 'laws.FnExactReadSeq'. -/
def fnExactReadSeqUptoCard : Claim7 := { stood := { row := fnExactReadSeqUptoRow, standIns := [], harness := (true, "ae3ebbc258f7b182bd3546ecb40dc03ae1011a3617afb78d22a8ace1c72670f5"), looks := true }, kinds := [], alts := [], laidByText := true, laidKinds := [.data, .data, .data, .pinned], laidTests := true, laidLooks := .later }
def FnExactReadSeqUptoCardSaid : Prop := Claim7.holds Tryd.pinned (.plain (OpenSpec.upto fnExactReadSeqSpec)) fnExactReadSeqUptoCard
end Rows
end Go.Proofs.YtdgejhlpncnenaaDoor
