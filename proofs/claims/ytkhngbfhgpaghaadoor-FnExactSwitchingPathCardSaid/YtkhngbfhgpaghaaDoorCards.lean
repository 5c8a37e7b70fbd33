/-
  DERIVED. GIVEN WITH THE SEED: THE CARDS: each row of YtkhngbfhgpaghaaDoorRows.lean that lists a variable, with what it lists TIED to the program's text (the seventh form; the later family's looks); each row that meets fmt, with fmt's text TOLD by the authors' own Lean function (tested against real Go, not proved from fmt's source: count such statements apart). THE CARD IS WHAT COUNTS. Prove the row's statement (the work); the ties are given (YtkhngbfhgpaghaaDoorTie.lean); close each card by the builder's one call (the guide's Derived/Test/ToyasCard.lean, 'card_holds'). Laid BY PROGRAM, IN A SANDBOX (cutbox-door.mjs). By AI agents, Wed Nov 11 2026. No macro, syntax, notation, axiom, sorry.
-/
import Derived.Test.YtkhngbfhgpaghaaDoorRows
import GoSem.ClaimSeven
namespace Go.Proofs.YtkhngbfhgpaghaaDoor
namespace Rows

/-- THE TIED CARD OF 'laws.FnExactParLinks'. -/
def fnExactParLinksCard : Claim7 := { stood := { row := fnExactParLinksRow, standIns := [], harness := (true, "d96e77ab3eadc8f63c5c97bd022df3d898c4750386340c87911c8009b809aeec"), looks := false }, kinds := [], alts := [], laidByText := true, laidKinds := [.data, .data], laidTests := true, laidLooks := .later }
def FnExactParLinksCardSaid : Prop := Claim7.holds Tryd.pinned (.plain (OpenSpec.ofChange fnExactParLinksSpec)) fnExactParLinksCard

/-- THE TIED CARD OF 'laws.FnExactSwitchingCount'. -/
def fnExactSwitchingCountCard : Claim7 := { stood := { row := fnExactSwitchingCountRow, standIns := [], harness := (true, "d96e77ab3eadc8f63c5c97bd022df3d898c4750386340c87911c8009b809aeec"), looks := false }, kinds := [], alts := [], laidByText := true, laidKinds := [.data, .data], laidTests := true, laidLooks := .later }
def FnExactSwitchingCountCardSaid : Prop := Claim7.holds Tryd.pinned (.plain (OpenSpec.ofChange fnExactSwitchingCountSpec)) fnExactSwitchingCountCard

/-- THE TIED CARD OF 'laws.FnExactSwitchingOf'. -/
def fnExactSwitchingOfCard : Claim7 := { stood := { row := fnExactSwitchingOfRow, standIns := [], harness := (true, "d96e77ab3eadc8f63c5c97bd022df3d898c4750386340c87911c8009b809aeec"), looks := false }, kinds := [], alts := [], laidByText := true, laidKinds := [.data, .data], laidTests := true, laidLooks := .later }
def FnExactSwitchingOfCardSaid : Prop := Claim7.holds Tryd.pinned (.plain (OpenSpec.ofChange fnExactSwitchingOfSpec)) fnExactSwitchingOfCard

/-- THE TIED CARD OF 'laws.FnExactSwitchGraph'. -/
def fnExactSwitchGraphCard : Claim7 := { stood := { row := fnExactSwitchGraphRow, standIns := [], harness := (true, "d96e77ab3eadc8f63c5c97bd022df3d898c4750386340c87911c8009b809aeec"), looks := false }, kinds := [], alts := [], laidByText := true, laidKinds := [.data, .data], laidTests := true, laidLooks := .later }
def FnExactSwitchGraphCardSaid : Prop := Claim7.holds Tryd.pinned (.plain (OpenSpec.ofChange fnExactSwitchGraphSpec)) fnExactSwitchGraphCard

/-- THE TIED CARD OF 'laws.FnExactSwitchingIsTree'. -/
def fnExactSwitchingIsTreeCard : Claim7 := { stood := { row := fnExactSwitchingIsTreeRow, standIns := [], harness := (true, "d96e77ab3eadc8f63c5c97bd022df3d898c4750386340c87911c8009b809aeec"), looks := false }, kinds := [], alts := [], laidByText := true, laidKinds := [.data, .data], laidTests := true, laidLooks := .later }
def FnExactSwitchingIsTreeCardSaid : Prop := Claim7.holds Tryd.pinned (.plain (OpenSpec.ofChange fnExactSwitchingIsTreeSpec)) fnExactSwitchingIsTreeCard

/-- THE TIED CARD OF 'laws.FnExactFailingSwitching'. -/
def fnExactFailingSwitchingCard : Claim7 := { stood := { row := fnExactFailingSwitchingRow, standIns := [], harness := (true, "d96e77ab3eadc8f63c5c97bd022df3d898c4750386340c87911c8009b809aeec"), looks := false }, kinds := [], alts := [], laidByText := true, laidKinds := [.data, .data], laidTests := true, laidLooks := .later }
def FnExactFailingSwitchingCardSaid : Prop := Claim7.holds Tryd.pinned (.plain (OpenSpec.ofChange fnExactFailingSwitchingSpec)) fnExactFailingSwitchingCard

/-- THE TIED CARD OF 'laws.FnExactCorrectBySwitchings'. -/
def fnExactCorrectBySwitchingsCard : Claim7 := { stood := { row := fnExactCorrectBySwitchingsRow, standIns := [], harness := (true, "d96e77ab3eadc8f63c5c97bd022df3d898c4750386340c87911c8009b809aeec"), looks := false }, kinds := [], alts := [], laidByText := true, laidKinds := [.data, .data], laidTests := true, laidLooks := .later }
def FnExactCorrectBySwitchingsCardSaid : Prop := Claim7.holds Tryd.pinned (.plain (OpenSpec.ofChange fnExactCorrectBySwitchingsSpec)) fnExactCorrectBySwitchingsCard

/-- THE TIED CARD OF 'laws.FnExactSwitchingPath'. -/
def fnExactSwitchingPathCard : Claim7 := { stood := { row := fnExactSwitchingPathRow, standIns := [], harness := (true, "d96e77ab3eadc8f63c5c97bd022df3d898c4750386340c87911c8009b809aeec"), looks := false }, kinds := [], alts := [], laidByText := true, laidKinds := [.data, .data], laidTests := true, laidLooks := .later }
def FnExactSwitchingPathCardSaid : Prop := Claim7.holds Tryd.pinned (.plain (OpenSpec.ofChange fnExactSwitchingPathSpec)) fnExactSwitchingPathCard

/-- THE TIED CARD OF 'laws.FnExactSourceOf'. -/
def fnExactSourceOfCard : Claim7 := { stood := { row := fnExactSourceOfRow, standIns := [], harness := (true, "d96e77ab3eadc8f63c5c97bd022df3d898c4750386340c87911c8009b809aeec"), looks := false }, kinds := [], alts := [], laidByText := true, laidKinds := [.data, .data], laidTests := true, laidLooks := .later }
def FnExactSourceOfCardSaid : Prop := Claim7.holds Tryd.pinned (.plain (OpenSpec.ofChange fnExactSourceOfSpec)) fnExactSourceOfCard

/-- THE TIED CARD OF 'laws.FnExactTargetOf'. -/
def fnExactTargetOfCard : Claim7 := { stood := { row := fnExactTargetOfRow, standIns := [], harness := (true, "d96e77ab3eadc8f63c5c97bd022df3d898c4750386340c87911c8009b809aeec"), looks := false }, kinds := [], alts := [], laidByText := true, laidKinds := [.data, .data], laidTests := true, laidLooks := .later }
def FnExactTargetOfCardSaid : Prop := Claim7.holds Tryd.pinned (.plain (OpenSpec.ofChange fnExactTargetOfSpec)) fnExactTargetOfCard

/-- THE SECOND FORM's CARD OF 'laws.FnExactParLinks'. -/
def fnExactParLinksUptoCard : Claim7 := { stood := { row := fnExactParLinksUptoRow, standIns := [], harness := (true, "d96e77ab3eadc8f63c5c97bd022df3d898c4750386340c87911c8009b809aeec"), looks := false }, kinds := [], alts := [], laidByText := true, laidKinds := [.data, .data], laidTests := true, laidLooks := .later }
def FnExactParLinksUptoCardSaid : Prop := Claim7.holds Tryd.pinned (.plain (OpenSpec.upto fnExactParLinksSpec)) fnExactParLinksUptoCard

/-- THE SECOND FORM's CARD OF 'laws.FnExactSwitchingCount'. -/
def fnExactSwitchingCountUptoCard : Claim7 := { stood := { row := fnExactSwitchingCountUptoRow, standIns := [], harness := (true, "d96e77ab3eadc8f63c5c97bd022df3d898c4750386340c87911c8009b809aeec"), looks := false }, kinds := [], alts := [], laidByText := true, laidKinds := [.data, .data], laidTests := true, laidLooks := .later }
def FnExactSwitchingCountUptoCardSaid : Prop := Claim7.holds Tryd.pinned (.plain (OpenSpec.upto fnExactSwitchingCountSpec)) fnExactSwitchingCountUptoCard

/-- THE SECOND FORM's CARD OF 'laws.FnExactSwitchingOf'. -/
def fnExactSwitchingOfUptoCard : Claim7 := { stood := { row := fnExactSwitchingOfUptoRow, standIns := [], harness := (true, "d96e77ab3eadc8f63c5c97bd022df3d898c4750386340c87911c8009b809aeec"), looks := false }, kinds := [], alts := [], laidByText := true, laidKinds := [.data, .data], laidTests := true, laidLooks := .later }
def FnExactSwitchingOfUptoCardSaid : Prop := Claim7.holds Tryd.pinned (.plain (OpenSpec.upto fnExactSwitchingOfSpec)) fnExactSwitchingOfUptoCard

/-- THE SECOND FORM's CARD OF 'laws.FnExactSwitchGraph'. -/
def fnExactSwitchGraphUptoCard : Claim7 := { stood := { row := fnExactSwitchGraphUptoRow, standIns := [], harness := (true, "d96e77ab3eadc8f63c5c97bd022df3d898c4750386340c87911c8009b809aeec"), looks := false }, kinds := [], alts := [], laidByText := true, laidKinds := [.data, .data], laidTests := true, laidLooks := .later }
def FnExactSwitchGraphUptoCardSaid : Prop := Claim7.holds Tryd.pinned (.plain (OpenSpec.upto fnExactSwitchGraphSpec)) fnExactSwitchGraphUptoCard

/-- THE SECOND FORM's CARD OF 'laws.FnExactSwitchingIsTree'. -/
def fnExactSwitchingIsTreeUptoCard : Claim7 := { stood := { row := fnExactSwitchingIsTreeUptoRow, standIns := [], harness := (true, "d96e77ab3eadc8f63c5c97bd022df3d898c4750386340c87911c8009b809aeec"), looks := false }, kinds := [], alts := [], laidByText := true, laidKinds := [.data, .data], laidTests := true, laidLooks := .later }
def FnExactSwitchingIsTreeUptoCardSaid : Prop := Claim7.holds Tryd.pinned (.plain (OpenSpec.upto fnExactSwitchingIsTreeSpec)) fnExactSwitchingIsTreeUptoCard

/-- THE SECOND FORM's CARD OF 'laws.FnExactFailingSwitching'. -/
def fnExactFailingSwitchingUptoCard : Claim7 := { stood := { row := fnExactFailingSwitchingUptoRow, standIns := [], harness := (true, "d96e77ab3eadc8f63c5c97bd022df3d898c4750386340c87911c8009b809aeec"), looks := false }, kinds := [], alts := [], laidByText := true, laidKinds := [.data, .data], laidTests := true, laidLooks := .later }
def FnExactFailingSwitchingUptoCardSaid : Prop := Claim7.holds Tryd.pinned (.plain (OpenSpec.upto fnExactFailingSwitchingSpec)) fnExactFailingSwitchingUptoCard

/-- THE SECOND FORM's CARD OF 'laws.FnExactCorrectBySwitchings'. -/
def fnExactCorrectBySwitchingsUptoCard : Claim7 := { stood := { row := fnExactCorrectBySwitchingsUptoRow, standIns := [], harness := (true, "d96e77ab3eadc8f63c5c97bd022df3d898c4750386340c87911c8009b809aeec"), looks := false }, kinds := [], alts := [], laidByText := true, laidKinds := [.data, .data], laidTests := true, laidLooks := .later }
def FnExactCorrectBySwitchingsUptoCardSaid : Prop := Claim7.holds Tryd.pinned (.plain (OpenSpec.upto fnExactCorrectBySwitchingsSpec)) fnExactCorrectBySwitchingsUptoCard

/-- THE SECOND FORM's CARD OF 'laws.FnExactSwitchingPath'. -/
def fnExactSwitchingPathUptoCard : Claim7 := { stood := { row := fnExactSwitchingPathUptoRow, standIns := [], harness := (true, "d96e77ab3eadc8f63c5c97bd022df3d898c4750386340c87911c8009b809aeec"), looks := false }, kinds := [], alts := [], laidByText := true, laidKinds := [.data, .data], laidTests := true, laidLooks := .later }
def FnExactSwitchingPathUptoCardSaid : Prop := Claim7.holds Tryd.pinned (.plain (OpenSpec.upto fnExactSwitchingPathSpec)) fnExactSwitchingPathUptoCard

/-- THE SECOND FORM's CARD OF 'laws.FnExactSourceOf'. -/
def fnExactSourceOfUptoCard : Claim7 := { stood := { row := fnExactSourceOfUptoRow, standIns := [], harness := (true, "d96e77ab3eadc8f63c5c97bd022df3d898c4750386340c87911c8009b809aeec"), looks := false }, kinds := [], alts := [], laidByText := true, laidKinds := [.data, .data], laidTests := true, laidLooks := .later }
def FnExactSourceOfUptoCardSaid : Prop := Claim7.holds Tryd.pinned (.plain (OpenSpec.upto fnExactSourceOfSpec)) fnExactSourceOfUptoCard

/-- THE SECOND FORM's CARD OF 'laws.FnExactTargetOf'. -/
def fnExactTargetOfUptoCard : Claim7 := { stood := { row := fnExactTargetOfUptoRow, standIns := [], harness := (true, "d96e77ab3eadc8f63c5c97bd022df3d898c4750386340c87911c8009b809aeec"), looks := false }, kinds := [], alts := [], laidByText := true, laidKinds := [.data, .data], laidTests := true, laidLooks := .later }
def FnExactTargetOfUptoCardSaid : Prop := Claim7.holds Tryd.pinned (.plain (OpenSpec.upto fnExactTargetOfSpec)) fnExactTargetOfUptoCard
end Rows
end Go.Proofs.YtkhngbfhgpaghaaDoor
