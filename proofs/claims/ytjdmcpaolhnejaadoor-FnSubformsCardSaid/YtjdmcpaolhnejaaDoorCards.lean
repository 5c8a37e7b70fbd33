/-
  DERIVED. GIVEN WITH THE SEED: THE CARDS: each row of YtjdmcpaolhnejaaDoorRows.lean that lists a variable, with what it lists TIED to the program's text (the seventh form; the later family's looks); each row that meets fmt, with fmt's text TOLD by the authors' own Lean function (tested against real Go, not proved from fmt's source: count such statements apart). THE CARD IS WHAT COUNTS. Prove the row's statement (the work); the ties are given (YtjdmcpaolhnejaaDoorTie.lean); close each card by the builder's one call (the guide's Derived/Test/ToyasCard.lean, 'card_holds'). Laid BY PROGRAM, IN A SANDBOX (cutbox-door.mjs). By AI agents, Wed Nov 11 2026. No macro, syntax, notation, axiom, sorry.
-/
import Derived.Test.YtjdmcpaolhnejaaDoorRows
import GoSem.ClaimSeven
namespace Go.Proofs.YtjdmcpaolhnejaaDoor
namespace Rows

/-- THE TIED CARD OF 'laws.FnExactSubformsOf'. -/
def fnExactSubformsOfCard : Claim7 := { stood := { row := fnExactSubformsOfRow, standIns := [], harness := (true, "96b827c5d01ed30556ad75648c9b294a034ca255729c955973051431470984f7"), looks := false }, kinds := [], alts := [], laidByText := true, laidKinds := [.data], laidTests := true, laidLooks := .later }
def FnExactSubformsOfCardSaid : Prop := Claim7.holds Tryd.pinned (.plain (OpenSpec.ofChange fnExactSubformsOfSpec)) fnExactSubformsOfCard

/-- THE TIED CARD OF 'laws.FnSubforms'. -/
def fnSubformsCard : Claim7 := { stood := { row := fnSubformsRow, standIns := [], harness := (true, "96b827c5d01ed30556ad75648c9b294a034ca255729c955973051431470984f7"), looks := false }, kinds := [], alts := [], laidByText := true, laidKinds := [.data], laidTests := true, laidLooks := .later }
def FnSubformsCardSaid : Prop := Claim7.holds Tryd.pinned (.plain (OpenSpec.ofChange fnSubformsSpec)) fnSubformsCard

/-- THE TIED CARD OF 'laws.FnEnds'. -/
def fnEndsCard : Claim7 := { stood := { row := fnEndsRow, standIns := [], harness := (true, "96b827c5d01ed30556ad75648c9b294a034ca255729c955973051431470984f7"), looks := false }, kinds := [], alts := [], laidByText := true, laidKinds := [.data, .data], laidTests := true, laidLooks := .later }
def FnEndsCardSaid : Prop := Claim7.holds Tryd.pinned (.plain (OpenSpec.ofChange fnEndsSpec)) fnEndsCard

/-- THE SECOND FORM's CARD OF 'laws.FnExactSubformsOf'. -/
def fnExactSubformsOfUptoCard : Claim7 := { stood := { row := fnExactSubformsOfUptoRow, standIns := [], harness := (true, "96b827c5d01ed30556ad75648c9b294a034ca255729c955973051431470984f7"), looks := false }, kinds := [], alts := [], laidByText := true, laidKinds := [.data], laidTests := true, laidLooks := .later }
def FnExactSubformsOfUptoCardSaid : Prop := Claim7.holds Tryd.pinned (.plain (OpenSpec.upto fnExactSubformsOfSpec)) fnExactSubformsOfUptoCard

/-- THE SECOND FORM's CARD OF 'laws.FnSubforms'. -/
def fnSubformsUptoCard : Claim7 := { stood := { row := fnSubformsUptoRow, standIns := [], harness := (true, "96b827c5d01ed30556ad75648c9b294a034ca255729c955973051431470984f7"), looks := false }, kinds := [], alts := [], laidByText := true, laidKinds := [.data], laidTests := true, laidLooks := .later }
def FnSubformsUptoCardSaid : Prop := Claim7.holds Tryd.pinned (.plain (OpenSpec.upto fnSubformsSpec)) fnSubformsUptoCard

/-- THE SECOND FORM's CARD OF 'laws.FnEnds'. -/
def fnEndsUptoCard : Claim7 := { stood := { row := fnEndsUptoRow, standIns := [], harness := (true, "96b827c5d01ed30556ad75648c9b294a034ca255729c955973051431470984f7"), looks := false }, kinds := [], alts := [], laidByText := true, laidKinds := [.data, .data], laidTests := true, laidLooks := .later }
def FnEndsUptoCardSaid : Prop := Claim7.holds Tryd.pinned (.plain (OpenSpec.upto fnEndsSpec)) fnEndsUptoCard
end Rows
end Go.Proofs.YtjdmcpaolhnejaaDoor
