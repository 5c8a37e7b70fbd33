/-
  DERIVED. GIVEN WITH THE SEED: THE CARDS: each row of YtjekibknembcgaaDoorRows.lean that lists a variable, with what it lists TIED to the program's text (the seventh form; the later family's looks); each row that meets fmt, with fmt's text TOLD by the authors' own Lean function (tested against real Go, not proved from fmt's source: count such statements apart). THE CARD IS WHAT COUNTS. Prove the row's statement (the work); the ties are given (YtjekibknembcgaaDoorTie.lean); close each card by the builder's one call (the guide's Derived/Test/ToyasCard.lean, 'card_holds'). Laid BY PROGRAM, IN A SANDBOX (cutbox-door.mjs). By AI agents, Wed Nov 11 2026. No macro, syntax, notation, axiom, sorry.
-/
import Derived.Test.YtjekibknembcgaaDoorRows
import GoSem.ClaimSeven
namespace Go.Proofs.YtjekibknembcgaaDoor
namespace Rows

/-- THE TIED CARD OF 'laws.FnFormText'. -/
def fnFormTextCard : Claim7 := { stood := { row := fnFormTextRow, standIns := [], harness := (true, "34ef89ce81cb87bb41a3b7152552b87a6c51a4f449aeaf27afe9778ffdfdaee9"), looks := true }, kinds := [], alts := [], laidByText := true, laidKinds := [.data, .data], laidTests := true, laidLooks := .later }
def FnFormTextCardSaid : Prop := Claim7.holds Tryd.pinned (.plain (OpenSpec.ofChange fnFormTextSpec)) fnFormTextCard

/-- THE TIED CARD OF 'laws.FnLiberal'. -/
def fnLiberalCard : Claim7 := { stood := { row := fnLiberalRow, standIns := [], harness := (true, "34ef89ce81cb87bb41a3b7152552b87a6c51a4f449aeaf27afe9778ffdfdaee9"), looks := true }, kinds := [], alts := [], laidByText := true, laidKinds := [.data, .data], laidTests := true, laidLooks := .later }
def FnLiberalCardSaid : Prop := Claim7.holds Tryd.pinned (.plain (OpenSpec.ofChange fnLiberalSpec)) fnLiberalCard

/-- THE TIED CARD OF 'laws.FnArrow'. -/
def fnArrowCard : Claim7 := { stood := { row := fnArrowRow, standIns := [], harness := (true, "34ef89ce81cb87bb41a3b7152552b87a6c51a4f449aeaf27afe9778ffdfdaee9"), looks := true }, kinds := [], alts := [], laidByText := true, laidKinds := [.data, .data], laidTests := true, laidLooks := .later }
def FnArrowCardSaid : Prop := Claim7.holds Tryd.pinned (.plain (OpenSpec.ofChange fnArrowSpec)) fnArrowCard

/-- THE TIED CARD OF 'laws.FnSubforms'. -/
def fnSubformsCard : Claim7 := { stood := { row := fnSubformsRow, standIns := [], harness := (true, "34ef89ce81cb87bb41a3b7152552b87a6c51a4f449aeaf27afe9778ffdfdaee9"), looks := true }, kinds := [], alts := [], laidByText := true, laidKinds := [.data], laidTests := true, laidLooks := .later }
def FnSubformsCardSaid : Prop := Claim7.holds Tryd.pinned (.plain (OpenSpec.ofChange fnSubformsSpec)) fnSubformsCard

/-- THE TIED CARD OF 'laws.FnExactFormText'. -/
def fnExactFormTextCard : Claim7 := { stood := { row := fnExactFormTextRow, standIns := [], harness := (true, "34ef89ce81cb87bb41a3b7152552b87a6c51a4f449aeaf27afe9778ffdfdaee9"), looks := true }, kinds := [], alts := [], laidByText := true, laidKinds := [.data], laidTests := true, laidLooks := .later }
def FnExactFormTextCardSaid : Prop := Claim7.holds Tryd.pinned (.plain (OpenSpec.ofChange fnExactFormTextSpec)) fnExactFormTextCard

/-- THE TIED CARD OF 'laws.FnExactReadForm'. -/
def fnExactReadFormCard : Claim7 := { stood := { row := fnExactReadFormRow, standIns := [], harness := (true, "34ef89ce81cb87bb41a3b7152552b87a6c51a4f449aeaf27afe9778ffdfdaee9"), looks := true }, kinds := [], alts := [], laidByText := true, laidKinds := [.data, .data], laidTests := true, laidLooks := .later }
def FnExactReadFormCardSaid : Prop := Claim7.holds Tryd.pinned (.plain (OpenSpec.ofChange fnExactReadFormSpec)) fnExactReadFormCard

/-- THE TIED CARD OF 'laws.FnExactParseForm'. -/
def fnExactParseFormCard : Claim7 := { stood := { row := fnExactParseFormRow, standIns := [], harness := (true, "34ef89ce81cb87bb41a3b7152552b87a6c51a4f449aeaf27afe9778ffdfdaee9"), looks := true }, kinds := [], alts := [], laidByText := true, laidKinds := [.data, .data], laidTests := true, laidLooks := .later }
def FnExactParseFormCardSaid : Prop := Claim7.holds Tryd.pinned (.plain (OpenSpec.ofChange fnExactParseFormSpec)) fnExactParseFormCard

/-- THE TIED CARD OF 'laws.FnExactFormBefore'. -/
def fnExactFormBeforeCard : Claim7 := { stood := { row := fnExactFormBeforeRow, standIns := [], harness := (true, "34ef89ce81cb87bb41a3b7152552b87a6c51a4f449aeaf27afe9778ffdfdaee9"), looks := true }, kinds := [], alts := [], laidByText := true, laidKinds := [.data], laidTests := true, laidLooks := .later }
def FnExactFormBeforeCardSaid : Prop := Claim7.holds Tryd.pinned (.plain (OpenSpec.ofChange fnExactFormBeforeSpec)) fnExactFormBeforeCard

/-- THE TIED CARD OF 'laws.FnExactSubformsOf'. -/
def fnExactSubformsOfCard : Claim7 := { stood := { row := fnExactSubformsOfRow, standIns := [], harness := (true, "34ef89ce81cb87bb41a3b7152552b87a6c51a4f449aeaf27afe9778ffdfdaee9"), looks := true }, kinds := [], alts := [], laidByText := true, laidKinds := [.data], laidTests := true, laidLooks := .later }
def FnExactSubformsOfCardSaid : Prop := Claim7.holds Tryd.pinned (.plain (OpenSpec.ofChange fnExactSubformsOfSpec)) fnExactSubformsOfCard

/-- THE TIED CARD OF 'laws.FnExactArrowOf'. -/
def fnExactArrowOfCard : Claim7 := { stood := { row := fnExactArrowOfRow, standIns := [], harness := (true, "34ef89ce81cb87bb41a3b7152552b87a6c51a4f449aeaf27afe9778ffdfdaee9"), looks := true }, kinds := [], alts := [], laidByText := true, laidKinds := [.data, .data], laidTests := true, laidLooks := .later }
def FnExactArrowOfCardSaid : Prop := Claim7.holds Tryd.pinned (.plain (OpenSpec.ofChange fnExactArrowOfSpec)) fnExactArrowOfCard

/-- THE TIED CARD OF 'laws.FnExactSymbolCount'. -/
def fnExactSymbolCountCard : Claim7 := { stood := { row := fnExactSymbolCountRow, standIns := [], harness := (true, "34ef89ce81cb87bb41a3b7152552b87a6c51a4f449aeaf27afe9778ffdfdaee9"), looks := true }, kinds := [], alts := [], laidByText := true, laidKinds := [.data], laidTests := true, laidLooks := .later }
def FnExactSymbolCountCardSaid : Prop := Claim7.holds Tryd.pinned (.plain (OpenSpec.ofChange fnExactSymbolCountSpec)) fnExactSymbolCountCard

/-- THE TIED CARD OF 'laws.FnDual'. -/
def fnDualCard : Claim7 := { stood := { row := fnDualRow, standIns := [], harness := (true, "34ef89ce81cb87bb41a3b7152552b87a6c51a4f449aeaf27afe9778ffdfdaee9"), looks := true }, kinds := [], alts := [], laidByText := true, laidKinds := [.data, .data], laidTests := true, laidLooks := .later }
def FnDualCardSaid : Prop := Claim7.holds Tryd.pinned (.plain (OpenSpec.ofChange fnDualSpec)) fnDualCard

/-- THE TIED CARD OF 'laws.FnExactDualOf'. -/
def fnExactDualOfCard : Claim7 := { stood := { row := fnExactDualOfRow, standIns := [], harness := (true, "34ef89ce81cb87bb41a3b7152552b87a6c51a4f449aeaf27afe9778ffdfdaee9"), looks := true }, kinds := [], alts := [], laidByText := true, laidKinds := [.data, .data], laidTests := true, laidLooks := .later }
def FnExactDualOfCardSaid : Prop := Claim7.holds Tryd.pinned (.plain (OpenSpec.ofChange fnExactDualOfSpec)) fnExactDualOfCard

/-- THE SECOND FORM's CARD OF 'laws.FnFormText'. -/
def fnFormTextUptoCard : Claim7 := { stood := { row := fnFormTextUptoRow, standIns := [], harness := (true, "34ef89ce81cb87bb41a3b7152552b87a6c51a4f449aeaf27afe9778ffdfdaee9"), looks := true }, kinds := [], alts := [], laidByText := true, laidKinds := [.data, .data], laidTests := true, laidLooks := .later }
def FnFormTextUptoCardSaid : Prop := Claim7.holds Tryd.pinned (.plain (OpenSpec.upto fnFormTextSpec)) fnFormTextUptoCard

/-- THE SECOND FORM's CARD OF 'laws.FnLiberal'. -/
def fnLiberalUptoCard : Claim7 := { stood := { row := fnLiberalUptoRow, standIns := [], harness := (true, "34ef89ce81cb87bb41a3b7152552b87a6c51a4f449aeaf27afe9778ffdfdaee9"), looks := true }, kinds := [], alts := [], laidByText := true, laidKinds := [.data, .data], laidTests := true, laidLooks := .later }
def FnLiberalUptoCardSaid : Prop := Claim7.holds Tryd.pinned (.plain (OpenSpec.upto fnLiberalSpec)) fnLiberalUptoCard

/-- THE SECOND FORM's CARD OF 'laws.FnArrow'. -/
def fnArrowUptoCard : Claim7 := { stood := { row := fnArrowUptoRow, standIns := [], harness := (true, "34ef89ce81cb87bb41a3b7152552b87a6c51a4f449aeaf27afe9778ffdfdaee9"), looks := true }, kinds := [], alts := [], laidByText := true, laidKinds := [.data, .data], laidTests := true, laidLooks := .later }
def FnArrowUptoCardSaid : Prop := Claim7.holds Tryd.pinned (.plain (OpenSpec.upto fnArrowSpec)) fnArrowUptoCard

/-- THE SECOND FORM's CARD OF 'laws.FnSubforms'. -/
def fnSubformsUptoCard : Claim7 := { stood := { row := fnSubformsUptoRow, standIns := [], harness := (true, "34ef89ce81cb87bb41a3b7152552b87a6c51a4f449aeaf27afe9778ffdfdaee9"), looks := true }, kinds := [], alts := [], laidByText := true, laidKinds := [.data], laidTests := true, laidLooks := .later }
def FnSubformsUptoCardSaid : Prop := Claim7.holds Tryd.pinned (.plain (OpenSpec.upto fnSubformsSpec)) fnSubformsUptoCard

/-- THE SECOND FORM's CARD OF 'laws.FnExactFormText'. -/
def fnExactFormTextUptoCard : Claim7 := { stood := { row := fnExactFormTextUptoRow, standIns := [], harness := (true, "34ef89ce81cb87bb41a3b7152552b87a6c51a4f449aeaf27afe9778ffdfdaee9"), looks := true }, kinds := [], alts := [], laidByText := true, laidKinds := [.data], laidTests := true, laidLooks := .later }
def FnExactFormTextUptoCardSaid : Prop := Claim7.holds Tryd.pinned (.plain (OpenSpec.upto fnExactFormTextSpec)) fnExactFormTextUptoCard

/-- THE SECOND FORM's CARD OF 'laws.FnExactReadForm'. -/
def fnExactReadFormUptoCard : Claim7 := { stood := { row := fnExactReadFormUptoRow, standIns := [], harness := (true, "34ef89ce81cb87bb41a3b7152552b87a6c51a4f449aeaf27afe9778ffdfdaee9"), looks := true }, kinds := [], alts := [], laidByText := true, laidKinds := [.data, .data], laidTests := true, laidLooks := .later }
def FnExactReadFormUptoCardSaid : Prop := Claim7.holds Tryd.pinned (.plain (OpenSpec.upto fnExactReadFormSpec)) fnExactReadFormUptoCard

/-- THE SECOND FORM's CARD OF 'laws.FnExactParseForm'. -/
def fnExactParseFormUptoCard : Claim7 := { stood := { row := fnExactParseFormUptoRow, standIns := [], harness := (true, "34ef89ce81cb87bb41a3b7152552b87a6c51a4f449aeaf27afe9778ffdfdaee9"), looks := true }, kinds := [], alts := [], laidByText := true, laidKinds := [.data, .data], laidTests := true, laidLooks := .later }
def FnExactParseFormUptoCardSaid : Prop := Claim7.holds Tryd.pinned (.plain (OpenSpec.upto fnExactParseFormSpec)) fnExactParseFormUptoCard

/-- THE SECOND FORM's CARD OF 'laws.FnExactFormBefore'. -/
def fnExactFormBeforeUptoCard : Claim7 := { stood := { row := fnExactFormBeforeUptoRow, standIns := [], harness := (true, "34ef89ce81cb87bb41a3b7152552b87a6c51a4f449aeaf27afe9778ffdfdaee9"), looks := true }, kinds := [], alts := [], laidByText := true, laidKinds := [.data], laidTests := true, laidLooks := .later }
def FnExactFormBeforeUptoCardSaid : Prop := Claim7.holds Tryd.pinned (.plain (OpenSpec.upto fnExactFormBeforeSpec)) fnExactFormBeforeUptoCard

/-- THE SECOND FORM's CARD OF 'laws.FnExactSubformsOf'. -/
def fnExactSubformsOfUptoCard : Claim7 := { stood := { row := fnExactSubformsOfUptoRow, standIns := [], harness := (true, "34ef89ce81cb87bb41a3b7152552b87a6c51a4f449aeaf27afe9778ffdfdaee9"), looks := true }, kinds := [], alts := [], laidByText := true, laidKinds := [.data], laidTests := true, laidLooks := .later }
def FnExactSubformsOfUptoCardSaid : Prop := Claim7.holds Tryd.pinned (.plain (OpenSpec.upto fnExactSubformsOfSpec)) fnExactSubformsOfUptoCard

/-- THE SECOND FORM's CARD OF 'laws.FnExactArrowOf'. -/
def fnExactArrowOfUptoCard : Claim7 := { stood := { row := fnExactArrowOfUptoRow, standIns := [], harness := (true, "34ef89ce81cb87bb41a3b7152552b87a6c51a4f449aeaf27afe9778ffdfdaee9"), looks := true }, kinds := [], alts := [], laidByText := true, laidKinds := [.data, .data], laidTests := true, laidLooks := .later }
def FnExactArrowOfUptoCardSaid : Prop := Claim7.holds Tryd.pinned (.plain (OpenSpec.upto fnExactArrowOfSpec)) fnExactArrowOfUptoCard

/-- THE SECOND FORM's CARD OF 'laws.FnExactSymbolCount'. -/
def fnExactSymbolCountUptoCard : Claim7 := { stood := { row := fnExactSymbolCountUptoRow, standIns := [], harness := (true, "34ef89ce81cb87bb41a3b7152552b87a6c51a4f449aeaf27afe9778ffdfdaee9"), looks := true }, kinds := [], alts := [], laidByText := true, laidKinds := [.data], laidTests := true, laidLooks := .later }
def FnExactSymbolCountUptoCardSaid : Prop := Claim7.holds Tryd.pinned (.plain (OpenSpec.upto fnExactSymbolCountSpec)) fnExactSymbolCountUptoCard

/-- THE SECOND FORM's CARD OF 'laws.FnDual'. -/
def fnDualUptoCard : Claim7 := { stood := { row := fnDualUptoRow, standIns := [], harness := (true, "34ef89ce81cb87bb41a3b7152552b87a6c51a4f449aeaf27afe9778ffdfdaee9"), looks := true }, kinds := [], alts := [], laidByText := true, laidKinds := [.data, .data], laidTests := true, laidLooks := .later }
def FnDualUptoCardSaid : Prop := Claim7.holds Tryd.pinned (.plain (OpenSpec.upto fnDualSpec)) fnDualUptoCard

/-- THE SECOND FORM's CARD OF 'laws.FnExactDualOf'. -/
def fnExactDualOfUptoCard : Claim7 := { stood := { row := fnExactDualOfUptoRow, standIns := [], harness := (true, "34ef89ce81cb87bb41a3b7152552b87a6c51a4f449aeaf27afe9778ffdfdaee9"), looks := true }, kinds := [], alts := [], laidByText := true, laidKinds := [.data, .data], laidTests := true, laidLooks := .later }
def FnExactDualOfUptoCardSaid : Prop := Claim7.holds Tryd.pinned (.plain (OpenSpec.upto fnExactDualOfSpec)) fnExactDualOfUptoCard
end Rows
end Go.Proofs.YtjekibknembcgaaDoor
