/-
  DERIVED. GIVEN WITH THE SEED: THE CARDS: each row of YtfanapddopafiaaDoorRows.lean that lists a variable, with what it lists TIED to the program's text (the seventh form; the later family's looks); each row that meets fmt, with fmt's text TOLD by the authors' own Lean function (tested against real Go, not proved from fmt's source: count such statements apart). THE CARD IS WHAT COUNTS. Prove the row's statement (the work); the ties are given (YtfanapddopafiaaDoorTie.lean); close each card by the builder's one call (the guide's Derived/Test/ToyasCard.lean, 'card_holds'). Laid BY PROGRAM, IN A SANDBOX (cutbox-door.mjs). By AI agents, Wed Nov 11 2026. No macro, syntax, notation, axiom, sorry.
-/
import Derived.Test.YtfanapddopafiaaDoorRows
import GoSem.ClaimSeven
namespace Go.Proofs.YtfanapddopafiaaDoor
namespace Rows

/-- THE TIED CARD OF 'laws.FnExactLeafWires'. -/
def fnExactLeafWiresCard : Claim7 := { stood := { row := fnExactLeafWiresRow, standIns := [], harness := (true, "683d0d4f965be019de97149070869fce20f6a554ebbe92d7b4facc2162896901"), looks := false }, kinds := [], alts := [], laidByText := true, laidKinds := [.data, .data], laidTests := true, laidLooks := .later }
def FnExactLeafWiresCardSaid : Prop := Claim7.holds Tryd.pinned (.plain (OpenSpec.ofChange fnExactLeafWiresSpec)) fnExactLeafWiresCard

/-- THE TIED CARD OF 'laws.FnExactTreeText'. -/
def fnExactTreeTextCard : Claim7 := { stood := { row := fnExactTreeTextRow, standIns := [], harness := (true, "683d0d4f965be019de97149070869fce20f6a554ebbe92d7b4facc2162896901"), looks := false }, kinds := [], alts := [], laidByText := true, laidKinds := [.data, .data, .data, .data, .data], laidTests := true, laidLooks := .later }
def FnExactTreeTextCardSaid : Prop := Claim7.holds Tryd.pinned (.plain (OpenSpec.ofChange fnExactTreeTextSpec)) fnExactTreeTextCard

/-- THE TIED CARD OF 'laws.FnExactMatesOf'. -/
def fnExactMatesOfCard : Claim7 := { stood := { row := fnExactMatesOfRow, standIns := [], harness := (true, "683d0d4f965be019de97149070869fce20f6a554ebbe92d7b4facc2162896901"), looks := false }, kinds := [], alts := [], laidByText := true, laidKinds := [.data, .data], laidTests := true, laidLooks := .later }
def FnExactMatesOfCardSaid : Prop := Claim7.holds Tryd.pinned (.plain (OpenSpec.ofChange fnExactMatesOfSpec)) fnExactMatesOfCard

/-- THE TIED CARD OF 'laws.FnExactLinkedNet'. -/
def fnExactLinkedNetCard : Claim7 := { stood := { row := fnExactLinkedNetRow, standIns := [], harness := (true, "683d0d4f965be019de97149070869fce20f6a554ebbe92d7b4facc2162896901"), looks := false }, kinds := [], alts := [], laidByText := true, laidKinds := [.data, .data], laidTests := true, laidLooks := .later }
def FnExactLinkedNetCardSaid : Prop := Claim7.holds Tryd.pinned (.plain (OpenSpec.ofChange fnExactLinkedNetSpec)) fnExactLinkedNetCard

/-- THE TIED CARD OF 'laws.FnExactNetOutline'. -/
def fnExactNetOutlineCard : Claim7 := { stood := { row := fnExactNetOutlineRow, standIns := [], harness := (true, "683d0d4f965be019de97149070869fce20f6a554ebbe92d7b4facc2162896901"), looks := false }, kinds := [], alts := [], laidByText := true, laidKinds := [.data, .data, .data, .data, .data, .data], laidTests := true, laidLooks := .later }
def FnExactNetOutlineCardSaid : Prop := Claim7.holds Tryd.pinned (.plain (OpenSpec.ofChange fnExactNetOutlineSpec)) fnExactNetOutlineCard

/-- THE SECOND FORM's CARD OF 'laws.FnExactLeafWires'. -/
def fnExactLeafWiresUptoCard : Claim7 := { stood := { row := fnExactLeafWiresUptoRow, standIns := [], harness := (true, "683d0d4f965be019de97149070869fce20f6a554ebbe92d7b4facc2162896901"), looks := false }, kinds := [], alts := [], laidByText := true, laidKinds := [.data, .data], laidTests := true, laidLooks := .later }
def FnExactLeafWiresUptoCardSaid : Prop := Claim7.holds Tryd.pinned (.plain (OpenSpec.upto fnExactLeafWiresSpec)) fnExactLeafWiresUptoCard

/-- THE SECOND FORM's CARD OF 'laws.FnExactTreeText'. -/
def fnExactTreeTextUptoCard : Claim7 := { stood := { row := fnExactTreeTextUptoRow, standIns := [], harness := (true, "683d0d4f965be019de97149070869fce20f6a554ebbe92d7b4facc2162896901"), looks := false }, kinds := [], alts := [], laidByText := true, laidKinds := [.data, .data, .data, .data, .data], laidTests := true, laidLooks := .later }
def FnExactTreeTextUptoCardSaid : Prop := Claim7.holds Tryd.pinned (.plain (OpenSpec.upto fnExactTreeTextSpec)) fnExactTreeTextUptoCard

/-- THE SECOND FORM's CARD OF 'laws.FnExactMatesOf'. -/
def fnExactMatesOfUptoCard : Claim7 := { stood := { row := fnExactMatesOfUptoRow, standIns := [], harness := (true, "683d0d4f965be019de97149070869fce20f6a554ebbe92d7b4facc2162896901"), looks := false }, kinds := [], alts := [], laidByText := true, laidKinds := [.data, .data], laidTests := true, laidLooks := .later }
def FnExactMatesOfUptoCardSaid : Prop := Claim7.holds Tryd.pinned (.plain (OpenSpec.upto fnExactMatesOfSpec)) fnExactMatesOfUptoCard

/-- THE SECOND FORM's CARD OF 'laws.FnExactLinkedNet'. -/
def fnExactLinkedNetUptoCard : Claim7 := { stood := { row := fnExactLinkedNetUptoRow, standIns := [], harness := (true, "683d0d4f965be019de97149070869fce20f6a554ebbe92d7b4facc2162896901"), looks := false }, kinds := [], alts := [], laidByText := true, laidKinds := [.data, .data], laidTests := true, laidLooks := .later }
def FnExactLinkedNetUptoCardSaid : Prop := Claim7.holds Tryd.pinned (.plain (OpenSpec.upto fnExactLinkedNetSpec)) fnExactLinkedNetUptoCard

/-- THE SECOND FORM's CARD OF 'laws.FnExactNetOutline'. -/
def fnExactNetOutlineUptoCard : Claim7 := { stood := { row := fnExactNetOutlineUptoRow, standIns := [], harness := (true, "683d0d4f965be019de97149070869fce20f6a554ebbe92d7b4facc2162896901"), looks := false }, kinds := [], alts := [], laidByText := true, laidKinds := [.data, .data, .data, .data, .data, .data], laidTests := true, laidLooks := .later }
def FnExactNetOutlineUptoCardSaid : Prop := Claim7.holds Tryd.pinned (.plain (OpenSpec.upto fnExactNetOutlineSpec)) fnExactNetOutlineUptoCard
end Rows
end Go.Proofs.YtfanapddopafiaaDoor
