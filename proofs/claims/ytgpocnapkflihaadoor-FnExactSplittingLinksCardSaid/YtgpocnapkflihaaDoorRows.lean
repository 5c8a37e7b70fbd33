/-
  NARROWER THAN 'FOR EVERY INPUT', by the rows' own cells (each row's printed sentence says how): FnExactCorrectByParsing: laid · FnExactTerminalLinks: laid · FnExactSplittingLinks: laid · FnExactLastLink: laid.
  DERIVED. THE GIVEN ROWS OF THIS SEAT. 4 by the template 'for every input the law returns true; each argument reads behind the call as it read before'; 0 by the template 'total and deterministic' (their statements: YtgpocnapkflihaaDoorTotals.lean).
  GIVEN WITH THE SEED: the statements are not yours to turn. If you find one false, say at which input.
  Laid BY PROGRAM, IN A SANDBOX (cutbox-rows.mjs): the forced cells as the released guide's own fill.sh prints them over the translation e18c5ba9dc7fb2c6… (all of the seat's roots in one cut). By AI agents, Wed Nov 11 2026. No macro, syntax, notation, axiom, sorry.
-/
import Derived.Test.YtgpocnapkflihaaDoorChecked
import GoSem.Claim
import GoSem.ClaimJoined
import GoSem.ClaimMapViews
import Derived.JoinedTies
import Derived.KernelRfl
namespace Go.Proofs.YtgpocnapkflihaaDoor
/- THE CELL 'sum', in the pinned program and in every row, IS THE sha256 OF THE DUMP (.gsa) THAT YtgpocnapkflihaaDoorProg.lean LOADS. Nothing in Lean hashes anything: it is a label: what it is worth is what the hold of that sum in a sandbox is worth. -/
noncomputable def Tryd.pinned : Pinned := { name := "ytgpocnapkflihaadoor", sum := "e18c5ba9dc7fb2c6c607d1250ca70417146f0bf4a8fc1e30c41b5972ad57fc2a", checked := Tryd.checked }
namespace Rows
def none {H : Type} : Left H := { results := [], args := [] }

/- WHAT THE LISTED PACKAGE-LEVEL VARIABLES READ AS WHEN THE CALL BEGINS. Each datum BY PROGRAM (the guide's laid-datum.mjs) off the statement by which the dump's own 'gosem.cut.vars' lays the variable. In a bare row this is a premise. The card (YtgpocnapkflihaaDoorCards.lean) ties it to the program's text. -/
def laid_loop_example_g00872_impl_arities {H : Type} : DataW H := .agg [.lit (.int .i64 0), .lit (.int .i64 0), .lit (.int .i64 0), .lit (.int .i64 0), .lit (.int .i64 0), .lit (.int .i64 0), .lit (.int .i64 0), .lit (.int .i64 0), .lit (.int .i64 0), .lit (.int .i64 0), .lit (.int .i64 0), .lit (.int .i64 2), .lit (.int .i64 2), .lit (.int .i64 0), .lit (.int .i64 0), .lit (.int .i64 2), .lit (.int .i64 2), .lit (.int .i64 1), .lit (.int .i64 1)]
def laid_loop_example_g00872_impl_dualOperators {H : Type} : DataW H := .agg [.lit (.int .i64 0), .lit (.int .i64 0), .lit (.int .i64 0), .lit (.int .i64 0), .lit (.int .i64 0), .lit (.int .i64 0), .lit (.int .i64 0), .lit (.int .i64 0), .lit (.int .i64 0), .lit (.int .i64 0), .lit (.int .i64 0), .lit (.int .i64 12), .lit (.int .i64 11), .lit (.int .i64 14), .lit (.int .i64 13), .lit (.int .i64 16), .lit (.int .i64 15), .lit (.int .i64 18), .lit (.int .i64 17)]

/-- 'laws.FnExactCorrectByParsing': WHATEVER THE INPUT: true; the input reads as it did. -/
def fnExactCorrectByParsingSpec : ChangeSpec := { name := "fnExactCorrectByParsing", vars := ["loop.example/g00872/impl.arities", "loop.example/g00872/impl.dualOperators"], fn := fun _ => fun
  | [d, g1, g2] => { results := [.lit (.bool true)], args := [d], vars := [g1, g2] }
  | _ => none }
def fnExactCorrectByParsingRow : OpenClaim := { program := "ytgpocnapkflihaadoor", sum := "e18c5ba9dc7fb2c6c607d1250ca70417146f0bf4a8fc1e30c41b5972ad57fc2a", func := "loop.example/g00872/laws.FnExactCorrectByParsing", spec := "fnExactCorrectByParsing", unfollowed := true, recurses := true, named := ["loop.example/g00872/impl.arities", "loop.example/g00872/impl.dualOperators"], apart := false, laid := [("loop.example/g00872/impl.arities", laid_loop_example_g00872_impl_arities), ("loop.example/g00872/impl.dualOperators", laid_loop_example_g00872_impl_dualOperators)] }
def FnExactCorrectByParsingSaid : Prop := fnExactCorrectByParsingRow.holds Tryd.pinned (OpenSpec.ofChange fnExactCorrectByParsingSpec)

/-- ITS FALSE NEIGHBOUR: 'it returns false'. Refute it at one input. -/
def fnExactCorrectByParsingWrong : ChangeSpec := { name := "fnExactCorrectByParsing", vars := ["loop.example/g00872/impl.arities", "loop.example/g00872/impl.dualOperators"], fn := fun _ => fun
  | [d, g1, g2] => { results := [.lit (.bool false)], args := [d], vars := [g1, g2] }
  | _ => none }
def FnExactCorrectByParsingWrongFalsely : Prop := fnExactCorrectByParsingRow.holds Tryd.pinned (OpenSpec.ofChange fnExactCorrectByParsingWrong)

/-- 'laws.FnExactTerminalLinks': WHATEVER THE INPUT: true; the input reads as it did. -/
def fnExactTerminalLinksSpec : ChangeSpec := { name := "fnExactTerminalLinks", vars := ["loop.example/g00872/impl.arities", "loop.example/g00872/impl.dualOperators"], fn := fun _ => fun
  | [d, g1, g2] => { results := [.lit (.bool true)], args := [d], vars := [g1, g2] }
  | _ => none }
def fnExactTerminalLinksRow : OpenClaim := { program := "ytgpocnapkflihaadoor", sum := "e18c5ba9dc7fb2c6c607d1250ca70417146f0bf4a8fc1e30c41b5972ad57fc2a", func := "loop.example/g00872/laws.FnExactTerminalLinks", spec := "fnExactTerminalLinks", unfollowed := true, recurses := true, named := ["loop.example/g00872/impl.arities", "loop.example/g00872/impl.dualOperators"], apart := false, laid := [("loop.example/g00872/impl.arities", laid_loop_example_g00872_impl_arities), ("loop.example/g00872/impl.dualOperators", laid_loop_example_g00872_impl_dualOperators)] }
def FnExactTerminalLinksSaid : Prop := fnExactTerminalLinksRow.holds Tryd.pinned (OpenSpec.ofChange fnExactTerminalLinksSpec)

/-- ITS FALSE NEIGHBOUR: 'it returns false'. Refute it at one input. -/
def fnExactTerminalLinksWrong : ChangeSpec := { name := "fnExactTerminalLinks", vars := ["loop.example/g00872/impl.arities", "loop.example/g00872/impl.dualOperators"], fn := fun _ => fun
  | [d, g1, g2] => { results := [.lit (.bool false)], args := [d], vars := [g1, g2] }
  | _ => none }
def FnExactTerminalLinksWrongFalsely : Prop := fnExactTerminalLinksRow.holds Tryd.pinned (OpenSpec.ofChange fnExactTerminalLinksWrong)

/-- 'laws.FnExactSplittingLinks': WHATEVER THE INPUT: true; the input reads as it did. -/
def fnExactSplittingLinksSpec : ChangeSpec := { name := "fnExactSplittingLinks", vars := ["loop.example/g00872/impl.arities", "loop.example/g00872/impl.dualOperators"], fn := fun _ => fun
  | [d, g1, g2] => { results := [.lit (.bool true)], args := [d], vars := [g1, g2] }
  | _ => none }
def fnExactSplittingLinksRow : OpenClaim := { program := "ytgpocnapkflihaadoor", sum := "e18c5ba9dc7fb2c6c607d1250ca70417146f0bf4a8fc1e30c41b5972ad57fc2a", func := "loop.example/g00872/laws.FnExactSplittingLinks", spec := "fnExactSplittingLinks", unfollowed := true, recurses := true, named := ["loop.example/g00872/impl.arities", "loop.example/g00872/impl.dualOperators"], apart := false, laid := [("loop.example/g00872/impl.arities", laid_loop_example_g00872_impl_arities), ("loop.example/g00872/impl.dualOperators", laid_loop_example_g00872_impl_dualOperators)] }
def FnExactSplittingLinksSaid : Prop := fnExactSplittingLinksRow.holds Tryd.pinned (OpenSpec.ofChange fnExactSplittingLinksSpec)

/-- ITS FALSE NEIGHBOUR: 'it returns false'. Refute it at one input. -/
def fnExactSplittingLinksWrong : ChangeSpec := { name := "fnExactSplittingLinks", vars := ["loop.example/g00872/impl.arities", "loop.example/g00872/impl.dualOperators"], fn := fun _ => fun
  | [d, g1, g2] => { results := [.lit (.bool false)], args := [d], vars := [g1, g2] }
  | _ => none }
def FnExactSplittingLinksWrongFalsely : Prop := fnExactSplittingLinksRow.holds Tryd.pinned (OpenSpec.ofChange fnExactSplittingLinksWrong)

/-- 'laws.FnExactLastLink': WHATEVER THE INPUT: true; the input reads as it did. -/
def fnExactLastLinkSpec : ChangeSpec := { name := "fnExactLastLink", vars := ["loop.example/g00872/impl.arities", "loop.example/g00872/impl.dualOperators"], fn := fun _ => fun
  | [d, g1, g2] => { results := [.lit (.bool true)], args := [d], vars := [g1, g2] }
  | _ => none }
def fnExactLastLinkRow : OpenClaim := { program := "ytgpocnapkflihaadoor", sum := "e18c5ba9dc7fb2c6c607d1250ca70417146f0bf4a8fc1e30c41b5972ad57fc2a", func := "loop.example/g00872/laws.FnExactLastLink", spec := "fnExactLastLink", unfollowed := true, recurses := true, named := ["loop.example/g00872/impl.arities", "loop.example/g00872/impl.dualOperators"], apart := false, laid := [("loop.example/g00872/impl.arities", laid_loop_example_g00872_impl_arities), ("loop.example/g00872/impl.dualOperators", laid_loop_example_g00872_impl_dualOperators)] }
def FnExactLastLinkSaid : Prop := fnExactLastLinkRow.holds Tryd.pinned (OpenSpec.ofChange fnExactLastLinkSpec)

/-- ITS FALSE NEIGHBOUR: 'it returns false'. Refute it at one input. -/
def fnExactLastLinkWrong : ChangeSpec := { name := "fnExactLastLink", vars := ["loop.example/g00872/impl.arities", "loop.example/g00872/impl.dualOperators"], fn := fun _ => fun
  | [d, g1, g2] => { results := [.lit (.bool false)], args := [d], vars := [g1, g2] }
  | _ => none }
def FnExactLastLinkWrongFalsely : Prop := fnExactLastLinkRow.holds Tryd.pinned (OpenSpec.ofChange fnExactLastLinkWrong)

/- THE SECOND FORM. 'bulk': how many values and letters a reading holds, each counted each time it is reached (what is shared counts as often as it is met; a slice's spare places count too). A statement '..UptoSaid' is the law's where the arguments, and the package variables that the reading takes, are together of bulk at most 1048576: NARROWER than '..Said'. Prove '..Said' where nothing that the law and all that it calls make is longer than what came in: it says more and counts as full. Else prove '..UptoSaid'. A law counts once. -/
mutual
def uptoBulk {H : Type} : DataW H → Nat
  | .lit (.string bytes) => bytes.length + 1
  | .lit _ => 1
  | .nil => 1
  | .ptr d => uptoBulk d + 1
  | .slice elems spare => uptoBulkAll elems + uptoBulkAll spare + 1
  | .agg parts => uptoBulkAll parts + 1
  | .iface _ d => uptoBulk d + 1
  | .map entries => uptoBulkEntries entries + 1
  | .held _ => 1
def uptoBulkAll {H : Type} : List (DataW H) → Nat
  | [] => 0
  | d :: r => uptoBulk d + uptoBulkAll r
def uptoBulkEntries {H : Type} : List (Lit × DataW H) → Nat
  | [] => 0
  | x :: r => uptoBulkEntry x + uptoBulkEntries r
def uptoBulkEntry {H : Type} : Lit × DataW H → Nat
  | (.string bytes, d) => bytes.length + uptoBulk d + 1
  | (_, d) => uptoBulk d + 1
 end
def uptoSmall : (H : Type) → List (DataW H) → Bool := fun _ ds => decide (uptoBulkAll ds ≤ 1048576)
def OpenSpec.upto (s : _root_.Go.ChangeSpec) : _root_.Go.OpenSpec := { _root_.Go.OpenSpec.ofChange s with cond := some uptoSmall }

/-- 'laws.FnExactCorrectByParsing', WHERE WHAT IT READS IS OF BULK AT MOST 1048576: true; the input reads as it did. -/
def fnExactCorrectByParsingUptoRow : OpenClaim := { program := "ytgpocnapkflihaadoor", sum := "e18c5ba9dc7fb2c6c607d1250ca70417146f0bf4a8fc1e30c41b5972ad57fc2a", func := "loop.example/g00872/laws.FnExactCorrectByParsing", spec := "fnExactCorrectByParsing", unfollowed := true, recurses := true, named := ["loop.example/g00872/impl.arities", "loop.example/g00872/impl.dualOperators"], apart := false, laid := [("loop.example/g00872/impl.arities", laid_loop_example_g00872_impl_arities), ("loop.example/g00872/impl.dualOperators", laid_loop_example_g00872_impl_dualOperators)], narrowed := true }
def FnExactCorrectByParsingUptoSaid : Prop := fnExactCorrectByParsingUptoRow.holds Tryd.pinned (OpenSpec.upto fnExactCorrectByParsingSpec)

/-- 'laws.FnExactTerminalLinks', WHERE WHAT IT READS IS OF BULK AT MOST 1048576: true; the input reads as it did. -/
def fnExactTerminalLinksUptoRow : OpenClaim := { program := "ytgpocnapkflihaadoor", sum := "e18c5ba9dc7fb2c6c607d1250ca70417146f0bf4a8fc1e30c41b5972ad57fc2a", func := "loop.example/g00872/laws.FnExactTerminalLinks", spec := "fnExactTerminalLinks", unfollowed := true, recurses := true, named := ["loop.example/g00872/impl.arities", "loop.example/g00872/impl.dualOperators"], apart := false, laid := [("loop.example/g00872/impl.arities", laid_loop_example_g00872_impl_arities), ("loop.example/g00872/impl.dualOperators", laid_loop_example_g00872_impl_dualOperators)], narrowed := true }
def FnExactTerminalLinksUptoSaid : Prop := fnExactTerminalLinksUptoRow.holds Tryd.pinned (OpenSpec.upto fnExactTerminalLinksSpec)

/-- 'laws.FnExactSplittingLinks', WHERE WHAT IT READS IS OF BULK AT MOST 1048576: true; the input reads as it did. -/
def fnExactSplittingLinksUptoRow : OpenClaim := { program := "ytgpocnapkflihaadoor", sum := "e18c5ba9dc7fb2c6c607d1250ca70417146f0bf4a8fc1e30c41b5972ad57fc2a", func := "loop.example/g00872/laws.FnExactSplittingLinks", spec := "fnExactSplittingLinks", unfollowed := true, recurses := true, named := ["loop.example/g00872/impl.arities", "loop.example/g00872/impl.dualOperators"], apart := false, laid := [("loop.example/g00872/impl.arities", laid_loop_example_g00872_impl_arities), ("loop.example/g00872/impl.dualOperators", laid_loop_example_g00872_impl_dualOperators)], narrowed := true }
def FnExactSplittingLinksUptoSaid : Prop := fnExactSplittingLinksUptoRow.holds Tryd.pinned (OpenSpec.upto fnExactSplittingLinksSpec)

/-- 'laws.FnExactLastLink', WHERE WHAT IT READS IS OF BULK AT MOST 1048576: true; the input reads as it did. -/
def fnExactLastLinkUptoRow : OpenClaim := { program := "ytgpocnapkflihaadoor", sum := "e18c5ba9dc7fb2c6c607d1250ca70417146f0bf4a8fc1e30c41b5972ad57fc2a", func := "loop.example/g00872/laws.FnExactLastLink", spec := "fnExactLastLink", unfollowed := true, recurses := true, named := ["loop.example/g00872/impl.arities", "loop.example/g00872/impl.dualOperators"], apart := false, laid := [("loop.example/g00872/impl.arities", laid_loop_example_g00872_impl_arities), ("loop.example/g00872/impl.dualOperators", laid_loop_example_g00872_impl_dualOperators)], narrowed := true }
def FnExactLastLinkUptoSaid : Prop := fnExactLastLinkUptoRow.holds Tryd.pinned (OpenSpec.upto fnExactLastLinkSpec)

end Rows
end Go.Proofs.YtgpocnapkflihaaDoor
