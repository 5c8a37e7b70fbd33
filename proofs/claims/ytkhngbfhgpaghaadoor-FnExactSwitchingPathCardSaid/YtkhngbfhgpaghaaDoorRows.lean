/-
  NARROWER THAN 'FOR EVERY INPUT', by the rows' own cells (each row's printed sentence says how): FnExactParLinks: laid · FnExactSwitchingCount: laid · FnExactSwitchingOf: laid · FnExactSwitchGraph: laid · FnExactSwitchingIsTree: laid · FnExactFailingSwitching: laid · FnExactCorrectBySwitchings: laid · FnExactSwitchingPath: laid · FnExactSourceOf: laid · FnExactTargetOf: laid.
  DERIVED. THE GIVEN ROWS OF THIS SEAT. 10 by the template 'for every input the law returns true; each argument reads behind the call as it read before'; 0 by the template 'total and deterministic' (their statements: YtkhngbfhgpaghaaDoorTotals.lean).
  GIVEN WITH THE SEED: the statements are not yours to turn. If you find one false, say at which input.
  Laid BY PROGRAM, IN A SANDBOX (cutbox-rows.mjs): the forced cells as the released guide's own fill.sh prints them over the translation a650164872c083b2… (all of the seat's roots in one cut). By AI agents, Wed Nov 11 2026. No macro, syntax, notation, axiom, sorry.
-/
import Derived.Test.YtkhngbfhgpaghaaDoorChecked
import GoSem.Claim
import GoSem.ClaimJoined
import GoSem.ClaimMapViews
import Derived.JoinedTies
import Derived.KernelRfl
namespace Go.Proofs.YtkhngbfhgpaghaaDoor
/- THE CELL 'sum', in the pinned program and in every row, IS THE sha256 OF THE DUMP (.gsa) THAT YtkhngbfhgpaghaaDoorProg.lean LOADS. Nothing in Lean hashes anything: it is a label: what it is worth is what the hold of that sum in a sandbox is worth. -/
noncomputable def Tryd.pinned : Pinned := { name := "ytkhngbfhgpaghaadoor", sum := "a650164872c083b2abc5c38f2c2b46f9c7790fa5d183a21e596762cd2540add8", checked := Tryd.checked }
namespace Rows
def none {H : Type} : Left H := { results := [], args := [] }

/- WHAT THE LISTED PACKAGE-LEVEL VARIABLES READ AS WHEN THE CALL BEGINS. Each datum BY PROGRAM (the guide's laid-datum.mjs) off the statement by which the dump's own 'gosem.cut.vars' lays the variable. In a bare row this is a premise. The card (YtkhngbfhgpaghaaDoorCards.lean) ties it to the program's text. -/
def laid_loop_example_g00872_impl_arities {H : Type} : DataW H := .agg [.lit (.int .i64 0), .lit (.int .i64 0), .lit (.int .i64 0), .lit (.int .i64 0), .lit (.int .i64 0), .lit (.int .i64 0), .lit (.int .i64 0), .lit (.int .i64 0), .lit (.int .i64 0), .lit (.int .i64 0), .lit (.int .i64 0), .lit (.int .i64 2), .lit (.int .i64 2), .lit (.int .i64 0), .lit (.int .i64 0), .lit (.int .i64 2), .lit (.int .i64 2), .lit (.int .i64 1), .lit (.int .i64 1)]
def laid_loop_example_g00872_impl_dualOperators {H : Type} : DataW H := .agg [.lit (.int .i64 0), .lit (.int .i64 0), .lit (.int .i64 0), .lit (.int .i64 0), .lit (.int .i64 0), .lit (.int .i64 0), .lit (.int .i64 0), .lit (.int .i64 0), .lit (.int .i64 0), .lit (.int .i64 0), .lit (.int .i64 0), .lit (.int .i64 12), .lit (.int .i64 11), .lit (.int .i64 14), .lit (.int .i64 13), .lit (.int .i64 16), .lit (.int .i64 15), .lit (.int .i64 18), .lit (.int .i64 17)]

/-- 'laws.FnExactParLinks': WHATEVER THE INPUT: true; the input reads as it did. -/
def fnExactParLinksSpec : ChangeSpec := { name := "fnExactParLinks", vars := ["loop.example/g00872/impl.arities", "loop.example/g00872/impl.dualOperators"], fn := fun _ => fun
  | [d, g1, g2] => { results := [.lit (.bool true)], args := [d], vars := [g1, g2] }
  | _ => none }
def fnExactParLinksRow : OpenClaim := { program := "ytkhngbfhgpaghaadoor", sum := "a650164872c083b2abc5c38f2c2b46f9c7790fa5d183a21e596762cd2540add8", func := "loop.example/g00872/laws.FnExactParLinks", spec := "fnExactParLinks", named := ["loop.example/g00872/impl.arities", "loop.example/g00872/impl.dualOperators"], apart := false, laid := [("loop.example/g00872/impl.arities", laid_loop_example_g00872_impl_arities), ("loop.example/g00872/impl.dualOperators", laid_loop_example_g00872_impl_dualOperators)] }
def FnExactParLinksSaid : Prop := fnExactParLinksRow.holds Tryd.pinned (OpenSpec.ofChange fnExactParLinksSpec)

/-- ITS FALSE NEIGHBOUR: 'it returns false'. Refute it at one input. -/
def fnExactParLinksWrong : ChangeSpec := { name := "fnExactParLinks", vars := ["loop.example/g00872/impl.arities", "loop.example/g00872/impl.dualOperators"], fn := fun _ => fun
  | [d, g1, g2] => { results := [.lit (.bool false)], args := [d], vars := [g1, g2] }
  | _ => none }
def FnExactParLinksWrongFalsely : Prop := fnExactParLinksRow.holds Tryd.pinned (OpenSpec.ofChange fnExactParLinksWrong)

/-- 'laws.FnExactSwitchingCount': WHATEVER THE INPUT: true; the input reads as it did. -/
def fnExactSwitchingCountSpec : ChangeSpec := { name := "fnExactSwitchingCount", vars := ["loop.example/g00872/impl.arities", "loop.example/g00872/impl.dualOperators"], fn := fun _ => fun
  | [d, g1, g2] => { results := [.lit (.bool true)], args := [d], vars := [g1, g2] }
  | _ => none }
def fnExactSwitchingCountRow : OpenClaim := { program := "ytkhngbfhgpaghaadoor", sum := "a650164872c083b2abc5c38f2c2b46f9c7790fa5d183a21e596762cd2540add8", func := "loop.example/g00872/laws.FnExactSwitchingCount", spec := "fnExactSwitchingCount", named := ["loop.example/g00872/impl.arities", "loop.example/g00872/impl.dualOperators"], apart := false, laid := [("loop.example/g00872/impl.arities", laid_loop_example_g00872_impl_arities), ("loop.example/g00872/impl.dualOperators", laid_loop_example_g00872_impl_dualOperators)] }
def FnExactSwitchingCountSaid : Prop := fnExactSwitchingCountRow.holds Tryd.pinned (OpenSpec.ofChange fnExactSwitchingCountSpec)

/-- ITS FALSE NEIGHBOUR: 'it returns false'. Refute it at one input. -/
def fnExactSwitchingCountWrong : ChangeSpec := { name := "fnExactSwitchingCount", vars := ["loop.example/g00872/impl.arities", "loop.example/g00872/impl.dualOperators"], fn := fun _ => fun
  | [d, g1, g2] => { results := [.lit (.bool false)], args := [d], vars := [g1, g2] }
  | _ => none }
def FnExactSwitchingCountWrongFalsely : Prop := fnExactSwitchingCountRow.holds Tryd.pinned (OpenSpec.ofChange fnExactSwitchingCountWrong)

/-- 'laws.FnExactSwitchingOf': WHATEVER THE INPUT: true; the input reads as it did. -/
def fnExactSwitchingOfSpec : ChangeSpec := { name := "fnExactSwitchingOf", vars := ["loop.example/g00872/impl.arities", "loop.example/g00872/impl.dualOperators"], fn := fun _ => fun
  | [d1, d2, g1, g2] => { results := [.lit (.bool true)], args := [d1, d2], vars := [g1, g2] }
  | _ => none }
def fnExactSwitchingOfRow : OpenClaim := { program := "ytkhngbfhgpaghaadoor", sum := "a650164872c083b2abc5c38f2c2b46f9c7790fa5d183a21e596762cd2540add8", func := "loop.example/g00872/laws.FnExactSwitchingOf", spec := "fnExactSwitchingOf", named := ["loop.example/g00872/impl.arities", "loop.example/g00872/impl.dualOperators"], apart := false, laid := [("loop.example/g00872/impl.arities", laid_loop_example_g00872_impl_arities), ("loop.example/g00872/impl.dualOperators", laid_loop_example_g00872_impl_dualOperators)] }
def FnExactSwitchingOfSaid : Prop := fnExactSwitchingOfRow.holds Tryd.pinned (OpenSpec.ofChange fnExactSwitchingOfSpec)

/-- ITS FALSE NEIGHBOUR: 'it returns false'. Refute it at one input. -/
def fnExactSwitchingOfWrong : ChangeSpec := { name := "fnExactSwitchingOf", vars := ["loop.example/g00872/impl.arities", "loop.example/g00872/impl.dualOperators"], fn := fun _ => fun
  | [d1, d2, g1, g2] => { results := [.lit (.bool false)], args := [d1, d2], vars := [g1, g2] }
  | _ => none }
def FnExactSwitchingOfWrongFalsely : Prop := fnExactSwitchingOfRow.holds Tryd.pinned (OpenSpec.ofChange fnExactSwitchingOfWrong)

/-- 'laws.FnExactSwitchGraph': WHATEVER THE INPUT: true; the input reads as it did. -/
def fnExactSwitchGraphSpec : ChangeSpec := { name := "fnExactSwitchGraph", vars := ["loop.example/g00872/impl.arities", "loop.example/g00872/impl.dualOperators"], fn := fun _ => fun
  | [d1, d2, g1, g2] => { results := [.lit (.bool true)], args := [d1, d2], vars := [g1, g2] }
  | _ => none }
def fnExactSwitchGraphRow : OpenClaim := { program := "ytkhngbfhgpaghaadoor", sum := "a650164872c083b2abc5c38f2c2b46f9c7790fa5d183a21e596762cd2540add8", func := "loop.example/g00872/laws.FnExactSwitchGraph", spec := "fnExactSwitchGraph", unfollowed := true, recurses := true, named := ["loop.example/g00872/impl.arities", "loop.example/g00872/impl.dualOperators"], apart := false, laid := [("loop.example/g00872/impl.arities", laid_loop_example_g00872_impl_arities), ("loop.example/g00872/impl.dualOperators", laid_loop_example_g00872_impl_dualOperators)] }
def FnExactSwitchGraphSaid : Prop := fnExactSwitchGraphRow.holds Tryd.pinned (OpenSpec.ofChange fnExactSwitchGraphSpec)

/-- ITS FALSE NEIGHBOUR: 'it returns false'. Refute it at one input. -/
def fnExactSwitchGraphWrong : ChangeSpec := { name := "fnExactSwitchGraph", vars := ["loop.example/g00872/impl.arities", "loop.example/g00872/impl.dualOperators"], fn := fun _ => fun
  | [d1, d2, g1, g2] => { results := [.lit (.bool false)], args := [d1, d2], vars := [g1, g2] }
  | _ => none }
def FnExactSwitchGraphWrongFalsely : Prop := fnExactSwitchGraphRow.holds Tryd.pinned (OpenSpec.ofChange fnExactSwitchGraphWrong)

/-- 'laws.FnExactSwitchingIsTree': WHATEVER THE INPUT: true; the input reads as it did. -/
def fnExactSwitchingIsTreeSpec : ChangeSpec := { name := "fnExactSwitchingIsTree", vars := ["loop.example/g00872/impl.arities", "loop.example/g00872/impl.dualOperators"], fn := fun _ => fun
  | [d1, d2, g1, g2] => { results := [.lit (.bool true)], args := [d1, d2], vars := [g1, g2] }
  | _ => none }
def fnExactSwitchingIsTreeRow : OpenClaim := { program := "ytkhngbfhgpaghaadoor", sum := "a650164872c083b2abc5c38f2c2b46f9c7790fa5d183a21e596762cd2540add8", func := "loop.example/g00872/laws.FnExactSwitchingIsTree", spec := "fnExactSwitchingIsTree", unfollowed := true, recurses := true, named := ["loop.example/g00872/impl.arities", "loop.example/g00872/impl.dualOperators"], apart := false, laid := [("loop.example/g00872/impl.arities", laid_loop_example_g00872_impl_arities), ("loop.example/g00872/impl.dualOperators", laid_loop_example_g00872_impl_dualOperators)] }
def FnExactSwitchingIsTreeSaid : Prop := fnExactSwitchingIsTreeRow.holds Tryd.pinned (OpenSpec.ofChange fnExactSwitchingIsTreeSpec)

/-- ITS FALSE NEIGHBOUR: 'it returns false'. Refute it at one input. -/
def fnExactSwitchingIsTreeWrong : ChangeSpec := { name := "fnExactSwitchingIsTree", vars := ["loop.example/g00872/impl.arities", "loop.example/g00872/impl.dualOperators"], fn := fun _ => fun
  | [d1, d2, g1, g2] => { results := [.lit (.bool false)], args := [d1, d2], vars := [g1, g2] }
  | _ => none }
def FnExactSwitchingIsTreeWrongFalsely : Prop := fnExactSwitchingIsTreeRow.holds Tryd.pinned (OpenSpec.ofChange fnExactSwitchingIsTreeWrong)

/-- 'laws.FnExactFailingSwitching': WHATEVER THE INPUT: true; the input reads as it did. -/
def fnExactFailingSwitchingSpec : ChangeSpec := { name := "fnExactFailingSwitching", vars := ["loop.example/g00872/impl.arities", "loop.example/g00872/impl.dualOperators"], fn := fun _ => fun
  | [d, g1, g2] => { results := [.lit (.bool true)], args := [d], vars := [g1, g2] }
  | _ => none }
def fnExactFailingSwitchingRow : OpenClaim := { program := "ytkhngbfhgpaghaadoor", sum := "a650164872c083b2abc5c38f2c2b46f9c7790fa5d183a21e596762cd2540add8", func := "loop.example/g00872/laws.FnExactFailingSwitching", spec := "fnExactFailingSwitching", unfollowed := true, recurses := true, named := ["loop.example/g00872/impl.arities", "loop.example/g00872/impl.dualOperators"], apart := false, laid := [("loop.example/g00872/impl.arities", laid_loop_example_g00872_impl_arities), ("loop.example/g00872/impl.dualOperators", laid_loop_example_g00872_impl_dualOperators)] }
def FnExactFailingSwitchingSaid : Prop := fnExactFailingSwitchingRow.holds Tryd.pinned (OpenSpec.ofChange fnExactFailingSwitchingSpec)

/-- ITS FALSE NEIGHBOUR: 'it returns false'. Refute it at one input. -/
def fnExactFailingSwitchingWrong : ChangeSpec := { name := "fnExactFailingSwitching", vars := ["loop.example/g00872/impl.arities", "loop.example/g00872/impl.dualOperators"], fn := fun _ => fun
  | [d, g1, g2] => { results := [.lit (.bool false)], args := [d], vars := [g1, g2] }
  | _ => none }
def FnExactFailingSwitchingWrongFalsely : Prop := fnExactFailingSwitchingRow.holds Tryd.pinned (OpenSpec.ofChange fnExactFailingSwitchingWrong)

/-- 'laws.FnExactCorrectBySwitchings': WHATEVER THE INPUT: true; the input reads as it did. -/
def fnExactCorrectBySwitchingsSpec : ChangeSpec := { name := "fnExactCorrectBySwitchings", vars := ["loop.example/g00872/impl.arities", "loop.example/g00872/impl.dualOperators"], fn := fun _ => fun
  | [d, g1, g2] => { results := [.lit (.bool true)], args := [d], vars := [g1, g2] }
  | _ => none }
def fnExactCorrectBySwitchingsRow : OpenClaim := { program := "ytkhngbfhgpaghaadoor", sum := "a650164872c083b2abc5c38f2c2b46f9c7790fa5d183a21e596762cd2540add8", func := "loop.example/g00872/laws.FnExactCorrectBySwitchings", spec := "fnExactCorrectBySwitchings", unfollowed := true, recurses := true, named := ["loop.example/g00872/impl.arities", "loop.example/g00872/impl.dualOperators"], apart := false, laid := [("loop.example/g00872/impl.arities", laid_loop_example_g00872_impl_arities), ("loop.example/g00872/impl.dualOperators", laid_loop_example_g00872_impl_dualOperators)] }
def FnExactCorrectBySwitchingsSaid : Prop := fnExactCorrectBySwitchingsRow.holds Tryd.pinned (OpenSpec.ofChange fnExactCorrectBySwitchingsSpec)

/-- ITS FALSE NEIGHBOUR: 'it returns false'. Refute it at one input. -/
def fnExactCorrectBySwitchingsWrong : ChangeSpec := { name := "fnExactCorrectBySwitchings", vars := ["loop.example/g00872/impl.arities", "loop.example/g00872/impl.dualOperators"], fn := fun _ => fun
  | [d, g1, g2] => { results := [.lit (.bool false)], args := [d], vars := [g1, g2] }
  | _ => none }
def FnExactCorrectBySwitchingsWrongFalsely : Prop := fnExactCorrectBySwitchingsRow.holds Tryd.pinned (OpenSpec.ofChange fnExactCorrectBySwitchingsWrong)

/-- 'laws.FnExactSwitchingPath': WHATEVER THE INPUT: true; the input reads as it did. -/
def fnExactSwitchingPathSpec : ChangeSpec := { name := "fnExactSwitchingPath", vars := ["loop.example/g00872/impl.arities", "loop.example/g00872/impl.dualOperators"], fn := fun _ => fun
  | [d1, d2, d3, d4, g1, g2] => { results := [.lit (.bool true)], args := [d1, d2, d3, d4], vars := [g1, g2] }
  | _ => none }
def fnExactSwitchingPathRow : OpenClaim := { program := "ytkhngbfhgpaghaadoor", sum := "a650164872c083b2abc5c38f2c2b46f9c7790fa5d183a21e596762cd2540add8", func := "loop.example/g00872/laws.FnExactSwitchingPath", spec := "fnExactSwitchingPath", unfollowed := true, recurses := true, named := ["loop.example/g00872/impl.arities", "loop.example/g00872/impl.dualOperators"], apart := false, laid := [("loop.example/g00872/impl.arities", laid_loop_example_g00872_impl_arities), ("loop.example/g00872/impl.dualOperators", laid_loop_example_g00872_impl_dualOperators)] }
def FnExactSwitchingPathSaid : Prop := fnExactSwitchingPathRow.holds Tryd.pinned (OpenSpec.ofChange fnExactSwitchingPathSpec)

/-- ITS FALSE NEIGHBOUR: 'it returns false'. Refute it at one input. -/
def fnExactSwitchingPathWrong : ChangeSpec := { name := "fnExactSwitchingPath", vars := ["loop.example/g00872/impl.arities", "loop.example/g00872/impl.dualOperators"], fn := fun _ => fun
  | [d1, d2, d3, d4, g1, g2] => { results := [.lit (.bool false)], args := [d1, d2, d3, d4], vars := [g1, g2] }
  | _ => none }
def FnExactSwitchingPathWrongFalsely : Prop := fnExactSwitchingPathRow.holds Tryd.pinned (OpenSpec.ofChange fnExactSwitchingPathWrong)

/-- 'laws.FnExactSourceOf': WHATEVER THE INPUT: true; the input reads as it did. -/
def fnExactSourceOfSpec : ChangeSpec := { name := "fnExactSourceOf", vars := ["loop.example/g00872/impl.arities", "loop.example/g00872/impl.dualOperators"], fn := fun _ => fun
  | [d1, d2, g1, g2] => { results := [.lit (.bool true)], args := [d1, d2], vars := [g1, g2] }
  | _ => none }
def fnExactSourceOfRow : OpenClaim := { program := "ytkhngbfhgpaghaadoor", sum := "a650164872c083b2abc5c38f2c2b46f9c7790fa5d183a21e596762cd2540add8", func := "loop.example/g00872/laws.FnExactSourceOf", spec := "fnExactSourceOf", unfollowed := true, recurses := true, named := ["loop.example/g00872/impl.arities", "loop.example/g00872/impl.dualOperators"], apart := false, laid := [("loop.example/g00872/impl.arities", laid_loop_example_g00872_impl_arities), ("loop.example/g00872/impl.dualOperators", laid_loop_example_g00872_impl_dualOperators)] }
def FnExactSourceOfSaid : Prop := fnExactSourceOfRow.holds Tryd.pinned (OpenSpec.ofChange fnExactSourceOfSpec)

/-- ITS FALSE NEIGHBOUR: 'it returns false'. Refute it at one input. -/
def fnExactSourceOfWrong : ChangeSpec := { name := "fnExactSourceOf", vars := ["loop.example/g00872/impl.arities", "loop.example/g00872/impl.dualOperators"], fn := fun _ => fun
  | [d1, d2, g1, g2] => { results := [.lit (.bool false)], args := [d1, d2], vars := [g1, g2] }
  | _ => none }
def FnExactSourceOfWrongFalsely : Prop := fnExactSourceOfRow.holds Tryd.pinned (OpenSpec.ofChange fnExactSourceOfWrong)

/-- 'laws.FnExactTargetOf': WHATEVER THE INPUT: true; the input reads as it did. -/
def fnExactTargetOfSpec : ChangeSpec := { name := "fnExactTargetOf", vars := ["loop.example/g00872/impl.arities", "loop.example/g00872/impl.dualOperators"], fn := fun _ => fun
  | [d1, d2, g1, g2] => { results := [.lit (.bool true)], args := [d1, d2], vars := [g1, g2] }
  | _ => none }
def fnExactTargetOfRow : OpenClaim := { program := "ytkhngbfhgpaghaadoor", sum := "a650164872c083b2abc5c38f2c2b46f9c7790fa5d183a21e596762cd2540add8", func := "loop.example/g00872/laws.FnExactTargetOf", spec := "fnExactTargetOf", unfollowed := true, recurses := true, named := ["loop.example/g00872/impl.arities", "loop.example/g00872/impl.dualOperators"], apart := false, laid := [("loop.example/g00872/impl.arities", laid_loop_example_g00872_impl_arities), ("loop.example/g00872/impl.dualOperators", laid_loop_example_g00872_impl_dualOperators)] }
def FnExactTargetOfSaid : Prop := fnExactTargetOfRow.holds Tryd.pinned (OpenSpec.ofChange fnExactTargetOfSpec)

/-- ITS FALSE NEIGHBOUR: 'it returns false'. Refute it at one input. -/
def fnExactTargetOfWrong : ChangeSpec := { name := "fnExactTargetOf", vars := ["loop.example/g00872/impl.arities", "loop.example/g00872/impl.dualOperators"], fn := fun _ => fun
  | [d1, d2, g1, g2] => { results := [.lit (.bool false)], args := [d1, d2], vars := [g1, g2] }
  | _ => none }
def FnExactTargetOfWrongFalsely : Prop := fnExactTargetOfRow.holds Tryd.pinned (OpenSpec.ofChange fnExactTargetOfWrong)

/- THE SECOND FORM. 'bulk': how many values and letters a reading holds, each counted each time it is reached (what is shared counts as often as it is met; a slice's spare places count too). A statement '..UptoSaid' is the law's where the arguments, and the package variables that the reading takes, are together of bulk at most 1048576: NARROWER than '..Said'. Prove '..Said' where nothing that the law and all that it calls make is longer than what came in: it says more and counts as full. Else prove '..UptoSaid'. A law counts once. -/
mutual
def uptoBulk {H : Type} : DataW H → Nat
  | .lit (.string bytes) => bytes.length + 1
  | .lit _ => 1
  | .nil => 1
  | .ptr d => uptoBulk d + 1
  | .slice elems spare => uptoBulkAll elems + uptoBulkAll spare + 1
  | .agg parts => uptoBulkAll parts + 1
  | .iface _ d => uptoBulk d + 1
  | .map entries => uptoBulkEntries entries + 1
  | .held _ => 1
def uptoBulkAll {H : Type} : List (DataW H) → Nat
  | [] => 0
  | d :: r => uptoBulk d + uptoBulkAll r
def uptoBulkEntries {H : Type} : List (Lit × DataW H) → Nat
  | [] => 0
  | x :: r => uptoBulkEntry x + uptoBulkEntries r
def uptoBulkEntry {H : Type} : Lit × DataW H → Nat
  | (.string bytes, d) => bytes.length + uptoBulk d + 1
  | (_, d) => uptoBulk d + 1
 end
def uptoSmall : (H : Type) → List (DataW H) → Bool := fun _ ds => decide (uptoBulkAll ds ≤ 1048576)
def OpenSpec.upto (s : _root_.Go.ChangeSpec) : _root_.Go.OpenSpec := { _root_.Go.OpenSpec.ofChange s with cond := some uptoSmall }

/-- 'laws.FnExactParLinks', WHERE WHAT IT READS IS OF BULK AT MOST 1048576: true; the input reads as it did. -/
def fnExactParLinksUptoRow : OpenClaim := { program := "ytkhngbfhgpaghaadoor", sum := "a650164872c083b2abc5c38f2c2b46f9c7790fa5d183a21e596762cd2540add8", func := "loop.example/g00872/laws.FnExactParLinks", spec := "fnExactParLinks", named := ["loop.example/g00872/impl.arities", "loop.example/g00872/impl.dualOperators"], apart := false, laid := [("loop.example/g00872/impl.arities", laid_loop_example_g00872_impl_arities), ("loop.example/g00872/impl.dualOperators", laid_loop_example_g00872_impl_dualOperators)], narrowed := true }
def FnExactParLinksUptoSaid : Prop := fnExactParLinksUptoRow.holds Tryd.pinned (OpenSpec.upto fnExactParLinksSpec)

/-- 'laws.FnExactSwitchingCount', WHERE WHAT IT READS IS OF BULK AT MOST 1048576: true; the input reads as it did. -/
def fnExactSwitchingCountUptoRow : OpenClaim := { program := "ytkhngbfhgpaghaadoor", sum := "a650164872c083b2abc5c38f2c2b46f9c7790fa5d183a21e596762cd2540add8", func := "loop.example/g00872/laws.FnExactSwitchingCount", spec := "fnExactSwitchingCount", named := ["loop.example/g00872/impl.arities", "loop.example/g00872/impl.dualOperators"], apart := false, laid := [("loop.example/g00872/impl.arities", laid_loop_example_g00872_impl_arities), ("loop.example/g00872/impl.dualOperators", laid_loop_example_g00872_impl_dualOperators)], narrowed := true }
def FnExactSwitchingCountUptoSaid : Prop := fnExactSwitchingCountUptoRow.holds Tryd.pinned (OpenSpec.upto fnExactSwitchingCountSpec)

/-- 'laws.FnExactSwitchingOf', WHERE WHAT IT READS IS OF BULK AT MOST 1048576: true; the input reads as it did. -/
def fnExactSwitchingOfUptoRow : OpenClaim := { program := "ytkhngbfhgpaghaadoor", sum := "a650164872c083b2abc5c38f2c2b46f9c7790fa5d183a21e596762cd2540add8", func := "loop.example/g00872/laws.FnExactSwitchingOf", spec := "fnExactSwitchingOf", named := ["loop.example/g00872/impl.arities", "loop.example/g00872/impl.dualOperators"], apart := false, laid := [("loop.example/g00872/impl.arities", laid_loop_example_g00872_impl_arities), ("loop.example/g00872/impl.dualOperators", laid_loop_example_g00872_impl_dualOperators)], narrowed := true }
def FnExactSwitchingOfUptoSaid : Prop := fnExactSwitchingOfUptoRow.holds Tryd.pinned (OpenSpec.upto fnExactSwitchingOfSpec)

/-- 'laws.FnExactSwitchGraph', WHERE WHAT IT READS IS OF BULK AT MOST 1048576: true; the input reads as it did. -/
def fnExactSwitchGraphUptoRow : OpenClaim := { program := "ytkhngbfhgpaghaadoor", sum := "a650164872c083b2abc5c38f2c2b46f9c7790fa5d183a21e596762cd2540add8", func := "loop.example/g00872/laws.FnExactSwitchGraph", spec := "fnExactSwitchGraph", unfollowed := true, recurses := true, named := ["loop.example/g00872/impl.arities", "loop.example/g00872/impl.dualOperators"], apart := false, laid := [("loop.example/g00872/impl.arities", laid_loop_example_g00872_impl_arities), ("loop.example/g00872/impl.dualOperators", laid_loop_example_g00872_impl_dualOperators)], narrowed := true }
def FnExactSwitchGraphUptoSaid : Prop := fnExactSwitchGraphUptoRow.holds Tryd.pinned (OpenSpec.upto fnExactSwitchGraphSpec)

/-- 'laws.FnExactSwitchingIsTree', WHERE WHAT IT READS IS OF BULK AT MOST 1048576: true; the input reads as it did. -/
def fnExactSwitchingIsTreeUptoRow : OpenClaim := { program := "ytkhngbfhgpaghaadoor", sum := "a650164872c083b2abc5c38f2c2b46f9c7790fa5d183a21e596762cd2540add8", func := "loop.example/g00872/laws.FnExactSwitchingIsTree", spec := "fnExactSwitchingIsTree", unfollowed := true, recurses := true, named := ["loop.example/g00872/impl.arities", "loop.example/g00872/impl.dualOperators"], apart := false, laid := [("loop.example/g00872/impl.arities", laid_loop_example_g00872_impl_arities), ("loop.example/g00872/impl.dualOperators", laid_loop_example_g00872_impl_dualOperators)], narrowed := true }
def FnExactSwitchingIsTreeUptoSaid : Prop := fnExactSwitchingIsTreeUptoRow.holds Tryd.pinned (OpenSpec.upto fnExactSwitchingIsTreeSpec)

/-- 'laws.FnExactFailingSwitching', WHERE WHAT IT READS IS OF BULK AT MOST 1048576: true; the input reads as it did. -/
def fnExactFailingSwitchingUptoRow : OpenClaim := { program := "ytkhngbfhgpaghaadoor", sum := "a650164872c083b2abc5c38f2c2b46f9c7790fa5d183a21e596762cd2540add8", func := "loop.example/g00872/laws.FnExactFailingSwitching", spec := "fnExactFailingSwitching", unfollowed := true, recurses := true, named := ["loop.example/g00872/impl.arities", "loop.example/g00872/impl.dualOperators"], apart := false, laid := [("loop.example/g00872/impl.arities", laid_loop_example_g00872_impl_arities), ("loop.example/g00872/impl.dualOperators", laid_loop_example_g00872_impl_dualOperators)], narrowed := true }
def FnExactFailingSwitchingUptoSaid : Prop := fnExactFailingSwitchingUptoRow.holds Tryd.pinned (OpenSpec.upto fnExactFailingSwitchingSpec)

/-- 'laws.FnExactCorrectBySwitchings', WHERE WHAT IT READS IS OF BULK AT MOST 1048576: true; the input reads as it did. -/
def fnExactCorrectBySwitchingsUptoRow : OpenClaim := { program := "ytkhngbfhgpaghaadoor", sum := "a650164872c083b2abc5c38f2c2b46f9c7790fa5d183a21e596762cd2540add8", func := "loop.example/g00872/laws.FnExactCorrectBySwitchings", spec := "fnExactCorrectBySwitchings", unfollowed := true, recurses := true, named := ["loop.example/g00872/impl.arities", "loop.example/g00872/impl.dualOperators"], apart := false, laid := [("loop.example/g00872/impl.arities", laid_loop_example_g00872_impl_arities), ("loop.example/g00872/impl.dualOperators", laid_loop_example_g00872_impl_dualOperators)], narrowed := true }
def FnExactCorrectBySwitchingsUptoSaid : Prop := fnExactCorrectBySwitchingsUptoRow.holds Tryd.pinned (OpenSpec.upto fnExactCorrectBySwitchingsSpec)

/-- 'laws.FnExactSwitchingPath', WHERE WHAT IT READS IS OF BULK AT MOST 1048576: true; the input reads as it did. -/
def fnExactSwitchingPathUptoRow : OpenClaim := { program := "ytkhngbfhgpaghaadoor", sum := "a650164872c083b2abc5c38f2c2b46f9c7790fa5d183a21e596762cd2540add8", func := "loop.example/g00872/laws.FnExactSwitchingPath", spec := "fnExactSwitchingPath", unfollowed := true, recurses := true, named := ["loop.example/g00872/impl.arities", "loop.example/g00872/impl.dualOperators"], apart := false, laid := [("loop.example/g00872/impl.arities", laid_loop_example_g00872_impl_arities), ("loop.example/g00872/impl.dualOperators", laid_loop_example_g00872_impl_dualOperators)], narrowed := true }
def FnExactSwitchingPathUptoSaid : Prop := fnExactSwitchingPathUptoRow.holds Tryd.pinned (OpenSpec.upto fnExactSwitchingPathSpec)

/-- 'laws.FnExactSourceOf', WHERE WHAT IT READS IS OF BULK AT MOST 1048576: true; the input reads as it did. -/
def fnExactSourceOfUptoRow : OpenClaim := { program := "ytkhngbfhgpaghaadoor", sum := "a650164872c083b2abc5c38f2c2b46f9c7790fa5d183a21e596762cd2540add8", func := "loop.example/g00872/laws.FnExactSourceOf", spec := "fnExactSourceOf", unfollowed := true, recurses := true, named := ["loop.example/g00872/impl.arities", "loop.example/g00872/impl.dualOperators"], apart := false, laid := [("loop.example/g00872/impl.arities", laid_loop_example_g00872_impl_arities), ("loop.example/g00872/impl.dualOperators", laid_loop_example_g00872_impl_dualOperators)], narrowed := true }
def FnExactSourceOfUptoSaid : Prop := fnExactSourceOfUptoRow.holds Tryd.pinned (OpenSpec.upto fnExactSourceOfSpec)

/-- 'laws.FnExactTargetOf', WHERE WHAT IT READS IS OF BULK AT MOST 1048576: true; the input reads as it did. -/
def fnExactTargetOfUptoRow : OpenClaim := { program := "ytkhngbfhgpaghaadoor", sum := "a650164872c083b2abc5c38f2c2b46f9c7790fa5d183a21e596762cd2540add8", func := "loop.example/g00872/laws.FnExactTargetOf", spec := "fnExactTargetOf", unfollowed := true, recurses := true, named := ["loop.example/g00872/impl.arities", "loop.example/g00872/impl.dualOperators"], apart := false, laid := [("loop.example/g00872/impl.arities", laid_loop_example_g00872_impl_arities), ("loop.example/g00872/impl.dualOperators", laid_loop_example_g00872_impl_dualOperators)], narrowed := true }
def FnExactTargetOfUptoSaid : Prop := fnExactTargetOfUptoRow.holds Tryd.pinned (OpenSpec.upto fnExactTargetOfSpec)

end Rows
end Go.Proofs.YtkhngbfhgpaghaaDoor
