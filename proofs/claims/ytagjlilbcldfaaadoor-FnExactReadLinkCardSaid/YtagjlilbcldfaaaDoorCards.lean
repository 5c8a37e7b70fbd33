/-
  DERIVED. GIVEN WITH THE SEED: THE CARDS: each row of YtagjlilbcldfaaaDoorRows.lean that lists a variable, with what it lists TIED to the program's text (the seventh form; the later family's looks); each row that meets fmt, with fmt's text TOLD by the authors' own Lean function (tested against real Go, not proved from fmt's source: count such statements apart). THE CARD IS WHAT COUNTS. Prove the row's statement (the work); the ties are given (YtagjlilbcldfaaaDoorTie.lean); close each card by the builder's one call (the guide's Derived/Test/ToyasCard.lean, 'card_holds'). Laid BY PROGRAM, IN A SANDBOX (cutbox-door.mjs). By AI agents, Wed Nov 11 2026. No macro, syntax, notation, axiom, sorry.
-/
import Derived.Test.YtagjlilbcldfaaaDoorRows
import GoSem.ClaimSeven
namespace Go.Proofs.YtagjlilbcldfaaaDoor
namespace Rows

/-- THE TIED CARD OF 'laws.FnExactLinkText'. -/
def fnExactLinkTextCard : Claim7 := { stood := { row := fnExactLinkTextRow, standIns := [], harness := (true, "105c8f1f67d96e752893d8897f4156a0f8199ef5d6cc9db618d6bbbf3cb2ca67"), looks := true }, kinds := [], alts := [], laidByText := true, laidKinds := [.data, .data, .data, .data], laidTests := true, laidLooks := .later }
def FnExactLinkTextCardSaid : Prop := Claim7.holds Tryd.pinned (.plain (OpenSpec.ofChange fnExactLinkTextSpec)) fnExactLinkTextCard

/-- THE TIED CARD OF 'laws.FnExactReadLink'. -/
def fnExactReadLinkCard : Claim7 := { stood := { row := fnExactReadLinkRow, standIns := [], harness := (true, "105c8f1f67d96e752893d8897f4156a0f8199ef5d6cc9db618d6bbbf3cb2ca67"), looks := true }, kinds := [], alts := [], laidByText := true, laidKinds := [.data, .data, .data, .sentinel, .sentinel, .data], laidTests := true, laidLooks := .later }
def FnExactReadLinkCardSaid : Prop := Claim7.holds Tryd.pinned (.plain (OpenSpec.ofChange fnExactReadLinkSpec)) fnExactReadLinkCard

/-- THE TIED CARD OF 'laws.FnExactNetText'. -/
def fnExactNetTextCard : Claim7 := { stood := { row := fnExactNetTextRow, standIns := [], harness := (true, "105c8f1f67d96e752893d8897f4156a0f8199ef5d6cc9db618d6bbbf3cb2ca67"), looks := true }, kinds := [], alts := [], laidByText := true, laidKinds := [.data, .data, .data, .data, .data, .data], laidTests := true, laidLooks := .later }
def FnExactNetTextCardSaid : Prop := Claim7.holds Tryd.pinned (.plain (OpenSpec.ofChange fnExactNetTextSpec)) fnExactNetTextCard

/-- THE TIED CARD OF 'laws.FnExactTreeText'. -/
def fnExactTreeTextCard : Claim7 := { stood := { row := fnExactTreeTextRow, standIns := [], harness := (true, "105c8f1f67d96e752893d8897f4156a0f8199ef5d6cc9db618d6bbbf3cb2ca67"), looks := true }, kinds := [], alts := [], laidByText := true, laidKinds := [.data, .data, .data, .data, .data], laidTests := true, laidLooks := .later }
def FnExactTreeTextCardSaid : Prop := Claim7.holds Tryd.pinned (.plain (OpenSpec.ofChange fnExactTreeTextSpec)) fnExactTreeTextCard

/-- THE TIED CARD OF 'laws.FnExactNetOutline'. -/
def fnExactNetOutlineCard : Claim7 := { stood := { row := fnExactNetOutlineRow, standIns := [], harness := (true, "105c8f1f67d96e752893d8897f4156a0f8199ef5d6cc9db618d6bbbf3cb2ca67"), looks := true }, kinds := [], alts := [], laidByText := true, laidKinds := [.data, .data, .data, .data, .data, .data], laidTests := true, laidLooks := .later }
def FnExactNetOutlineCardSaid : Prop := Claim7.holds Tryd.pinned (.plain (OpenSpec.ofChange fnExactNetOutlineSpec)) fnExactNetOutlineCard

/-- THE SECOND FORM's CARD OF 'laws.FnExactLinkText'. -/
def fnExactLinkTextUptoCard : Claim7 := { stood := { row := fnExactLinkTextUptoRow, standIns := [], harness := (true, "105c8f1f67d96e752893d8897f4156a0f8199ef5d6cc9db618d6bbbf3cb2ca67"), looks := true }, kinds := [], alts := [], laidByText := true, laidKinds := [.data, .data, .data, .data], laidTests := true, laidLooks := .later }
def FnExactLinkTextUptoCardSaid : Prop := Claim7.holds Tryd.pinned (.plain (OpenSpec.upto fnExactLinkTextSpec)) fnExactLinkTextUptoCard

/-- THE SECOND FORM's CARD OF 'laws.FnExactReadLink'. -/
def fnExactReadLinkUptoCard : Claim7 := { stood := { row := fnExactReadLinkUptoRow, standIns := [], harness := (true, "105c8f1f67d96e752893d8897f4156a0f8199ef5d6cc9db618d6bbbf3cb2ca67"), looks := true }, kinds := [], alts := [], laidByText := true, laidKinds := [.data, .data, .data, .sentinel, .sentinel, .data], laidTests := true, laidLooks := .later }
def FnExactReadLinkUptoCardSaid : Prop := Claim7.holds Tryd.pinned (.plain (OpenSpec.upto fnExactReadLinkSpec)) fnExactReadLinkUptoCard

/-- THE SECOND FORM's CARD OF 'laws.FnExactNetText'. -/
def fnExactNetTextUptoCard : Claim7 := { stood := { row := fnExactNetTextUptoRow, standIns := [], harness := (true, "105c8f1f67d96e752893d8897f4156a0f8199ef5d6cc9db618d6bbbf3cb2ca67"), looks := true }, kinds := [], alts := [], laidByText := true, laidKinds := [.data, .data, .data, .data, .data, .data], laidTests := true, laidLooks := .later }
def FnExactNetTextUptoCardSaid : Prop := Claim7.holds Tryd.pinned (.plain (OpenSpec.upto fnExactNetTextSpec)) fnExactNetTextUptoCard

/-- THE SECOND FORM's CARD OF 'laws.FnExactTreeText'. -/
def fnExactTreeTextUptoCard : Claim7 := { stood := { row := fnExactTreeTextUptoRow, standIns := [], harness := (true, "105c8f1f67d96e752893d8897f4156a0f8199ef5d6cc9db618d6bbbf3cb2ca67"), looks := true }, kinds := [], alts := [], laidByText := true, laidKinds := [.data, .data, .data, .data, .data], laidTests := true, laidLooks := .later }
def FnExactTreeTextUptoCardSaid : Prop := Claim7.holds Tryd.pinned (.plain (OpenSpec.upto fnExactTreeTextSpec)) fnExactTreeTextUptoCard

/-- THE SECOND FORM's CARD OF 'laws.FnExactNetOutline'. -/
def fnExactNetOutlineUptoCard : Claim7 := { stood := { row := fnExactNetOutlineUptoRow, standIns := [], harness := (true, "105c8f1f67d96e752893d8897f4156a0f8199ef5d6cc9db618d6bbbf3cb2ca67"), looks := true }, kinds := [], alts := [], laidByText := true, laidKinds := [.data, .data, .data, .data, .data, .data], laidTests := true, laidLooks := .later }
def FnExactNetOutlineUptoCardSaid : Prop := Claim7.holds Tryd.pinned (.plain (OpenSpec.upto fnExactNetOutlineSpec)) fnExactNetOutlineUptoCard
end Rows
end Go.Proofs.YtagjlilbcldfaaaDoor
