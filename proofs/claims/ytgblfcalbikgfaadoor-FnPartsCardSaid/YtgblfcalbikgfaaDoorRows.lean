/-
  NARROWER THAN 'FOR EVERY INPUT', by the rows' own cells (each row's printed sentence says how): FnDual: laid · FnParts: laid · FnExactValidForm: laid · FnExactFormEnd: laid · FnExactDualOf: laid · FnExactOperatorOf: laid · FnExactOperandOf: laid · FnExactJoined: laid · FnExactWrapped: laid · FnExactLeavesOf: laid · FnExactDepthOf: laid · FnExactFragmentOf: laid.
  DERIVED. THE GIVEN ROWS OF THIS SEAT. 12 by the template 'for every input the law returns true; each argument reads behind the call as it read before'; 0 by the template 'total and deterministic' (their statements: YtgblfcalbikgfaaDoorTotals.lean).
  GIVEN WITH THE SEED: the statements are not yours to turn. If you find one false, say at which input.
  Laid BY PROGRAM, IN A SANDBOX (cutbox-rows.mjs): the forced cells as the released guide's own fill.sh prints them over the translation 5c2166b194bf3fe0… (all of the seat's roots in one cut). By AI agents, Wed Nov 11 2026. No macro, syntax, notation, axiom, sorry.
-/
import Derived.Test.YtgblfcalbikgfaaDoorChecked
import GoSem.Claim
import GoSem.ClaimJoined
import GoSem.ClaimMapViews
import Derived.JoinedTies
import Derived.KernelRfl
namespace Go.Proofs.YtgblfcalbikgfaaDoor
/- THE CELL 'sum', in the pinned program and in every row, IS THE sha256 OF THE DUMP (.gsa) THAT YtgblfcalbikgfaaDoorProg.lean LOADS. Nothing in Lean hashes anything: it is a label: what it is worth is what the hold of that sum in a sandbox is worth. -/
noncomputable def Tryd.pinned : Pinned := { name := "ytgblfcalbikgfaadoor", sum := "5c2166b194bf3fe0c2cbd472437dce5b840e1cb3bdabb17733bd46b2577a7c06", checked := Tryd.checked }
namespace Rows
def none {H : Type} : Left H := { results := [], args := [] }

/- WHAT THE LISTED PACKAGE-LEVEL VARIABLES READ AS WHEN THE CALL BEGINS. Each datum BY PROGRAM (the guide's laid-datum.mjs) off the statement by which the dump's own 'gosem.cut.vars' lays the variable. In a bare row this is a premise. The card (YtgblfcalbikgfaaDoorCards.lean) ties it to the program's text. -/
def laid_loop_example_g00872_impl_arities {H : Type} : DataW H := .agg [.lit (.int .i64 0), .lit (.int .i64 0), .lit (.int .i64 0), .lit (.int .i64 0), .lit (.int .i64 0), .lit (.int .i64 0), .lit (.int .i64 0), .lit (.int .i64 0), .lit (.int .i64 0), .lit (.int .i64 0), .lit (.int .i64 0), .lit (.int .i64 2), .lit (.int .i64 2), .lit (.int .i64 0), .lit (.int .i64 0), .lit (.int .i64 2), .lit (.int .i64 2), .lit (.int .i64 1), .lit (.int .i64 1)]
def laid_loop_example_g00872_impl_dualOperators {H : Type} : DataW H := .agg [.lit (.int .i64 0), .lit (.int .i64 0), .lit (.int .i64 0), .lit (.int .i64 0), .lit (.int .i64 0), .lit (.int .i64 0), .lit (.int .i64 0), .lit (.int .i64 0), .lit (.int .i64 0), .lit (.int .i64 0), .lit (.int .i64 0), .lit (.int .i64 12), .lit (.int .i64 11), .lit (.int .i64 14), .lit (.int .i64 13), .lit (.int .i64 16), .lit (.int .i64 15), .lit (.int .i64 18), .lit (.int .i64 17)]

/-- 'laws.FnDual': WHATEVER THE INPUT: true; the input reads as it did. -/
def fnDualSpec : ChangeSpec := { name := "fnDual", vars := ["loop.example/g00872/impl.dualOperators", "loop.example/g00872/impl.arities"], fn := fun _ => fun
  | [d, g1, g2] => { results := [.lit (.bool true)], args := [d], vars := [g1, g2] }
  | _ => none }
def fnDualRow : OpenClaim := { program := "ytgblfcalbikgfaadoor", sum := "5c2166b194bf3fe0c2cbd472437dce5b840e1cb3bdabb17733bd46b2577a7c06", func := "loop.example/g00872/laws.FnDual", spec := "fnDual", recurses := true, named := ["loop.example/g00872/impl.dualOperators", "loop.example/g00872/impl.arities"], apart := false, laid := [("loop.example/g00872/impl.arities", laid_loop_example_g00872_impl_arities), ("loop.example/g00872/impl.dualOperators", laid_loop_example_g00872_impl_dualOperators)] }
def FnDualSaid : Prop := fnDualRow.holds Tryd.pinned (OpenSpec.ofChange fnDualSpec)

/-- ITS FALSE NEIGHBOUR: 'it returns false'. Refute it at one input. -/
def fnDualWrong : ChangeSpec := { name := "fnDual", vars := ["loop.example/g00872/impl.dualOperators", "loop.example/g00872/impl.arities"], fn := fun _ => fun
  | [d, g1, g2] => { results := [.lit (.bool false)], args := [d], vars := [g1, g2] }
  | _ => none }
def FnDualWrongFalsely : Prop := fnDualRow.holds Tryd.pinned (OpenSpec.ofChange fnDualWrong)

/-- 'laws.FnParts': WHATEVER THE INPUT: true; the input reads as it did. -/
def fnPartsSpec : ChangeSpec := { name := "fnParts", vars := ["loop.example/g00872/impl.arities"], fn := fun _ => fun
  | [d, g1] => { results := [.lit (.bool true)], args := [d], vars := [g1] }
  | _ => none }
def fnPartsRow : OpenClaim := { program := "ytgblfcalbikgfaadoor", sum := "5c2166b194bf3fe0c2cbd472437dce5b840e1cb3bdabb17733bd46b2577a7c06", func := "loop.example/g00872/laws.FnParts", spec := "fnParts", recurses := true, named := ["loop.example/g00872/impl.arities"], apart := false, laid := [("loop.example/g00872/impl.arities", laid_loop_example_g00872_impl_arities)] }
def FnPartsSaid : Prop := fnPartsRow.holds Tryd.pinned (OpenSpec.ofChange fnPartsSpec)

/-- ITS FALSE NEIGHBOUR: 'it returns false'. Refute it at one input. -/
def fnPartsWrong : ChangeSpec := { name := "fnParts", vars := ["loop.example/g00872/impl.arities"], fn := fun _ => fun
  | [d, g1] => { results := [.lit (.bool false)], args := [d], vars := [g1] }
  | _ => none }
def FnPartsWrongFalsely : Prop := fnPartsRow.holds Tryd.pinned (OpenSpec.ofChange fnPartsWrong)

/-- 'laws.FnExactValidForm': WHATEVER THE INPUT: true; the input reads as it did. -/
def fnExactValidFormSpec : ChangeSpec := { name := "fnExactValidForm", vars := ["loop.example/g00872/impl.arities"], fn := fun _ => fun
  | [d, g1] => { results := [.lit (.bool true)], args := [d], vars := [g1] }
  | _ => none }
def fnExactValidFormRow : OpenClaim := { program := "ytgblfcalbikgfaadoor", sum := "5c2166b194bf3fe0c2cbd472437dce5b840e1cb3bdabb17733bd46b2577a7c06", func := "loop.example/g00872/laws.FnExactValidForm", spec := "fnExactValidForm", named := ["loop.example/g00872/impl.arities"], apart := false, laid := [("loop.example/g00872/impl.arities", laid_loop_example_g00872_impl_arities)] }
def FnExactValidFormSaid : Prop := fnExactValidFormRow.holds Tryd.pinned (OpenSpec.ofChange fnExactValidFormSpec)

/-- ITS FALSE NEIGHBOUR: 'it returns false'. Refute it at one input. -/
def fnExactValidFormWrong : ChangeSpec := { name := "fnExactValidForm", vars := ["loop.example/g00872/impl.arities"], fn := fun _ => fun
  | [d, g1] => { results := [.lit (.bool false)], args := [d], vars := [g1] }
  | _ => none }
def FnExactValidFormWrongFalsely : Prop := fnExactValidFormRow.holds Tryd.pinned (OpenSpec.ofChange fnExactValidFormWrong)

/-- 'laws.FnExactFormEnd': WHATEVER THE INPUT: true; the input reads as it did. -/
def fnExactFormEndSpec : ChangeSpec := { name := "fnExactFormEnd", vars := ["loop.example/g00872/impl.arities"], fn := fun _ => fun
  | [d1, d2, g1] => { results := [.lit (.bool true)], args := [d1, d2], vars := [g1] }
  | _ => none }
def fnExactFormEndRow : OpenClaim := { program := "ytgblfcalbikgfaadoor", sum := "5c2166b194bf3fe0c2cbd472437dce5b840e1cb3bdabb17733bd46b2577a7c06", func := "loop.example/g00872/laws.FnExactFormEnd", spec := "fnExactFormEnd", named := ["loop.example/g00872/impl.arities"], apart := false, laid := [("loop.example/g00872/impl.arities", laid_loop_example_g00872_impl_arities)] }
def FnExactFormEndSaid : Prop := fnExactFormEndRow.holds Tryd.pinned (OpenSpec.ofChange fnExactFormEndSpec)

/-- ITS FALSE NEIGHBOUR: 'it returns false'. Refute it at one input. -/
def fnExactFormEndWrong : ChangeSpec := { name := "fnExactFormEnd", vars := ["loop.example/g00872/impl.arities"], fn := fun _ => fun
  | [d1, d2, g1] => { results := [.lit (.bool false)], args := [d1, d2], vars := [g1] }
  | _ => none }
def FnExactFormEndWrongFalsely : Prop := fnExactFormEndRow.holds Tryd.pinned (OpenSpec.ofChange fnExactFormEndWrong)

/-- 'laws.FnExactDualOf': WHATEVER THE INPUT: true; the input reads as it did. -/
def fnExactDualOfSpec : ChangeSpec := { name := "fnExactDualOf", vars := ["loop.example/g00872/impl.dualOperators", "loop.example/g00872/impl.arities"], fn := fun _ => fun
  | [d, g1, g2] => { results := [.lit (.bool true)], args := [d], vars := [g1, g2] }
  | _ => none }
def fnExactDualOfRow : OpenClaim := { program := "ytgblfcalbikgfaadoor", sum := "5c2166b194bf3fe0c2cbd472437dce5b840e1cb3bdabb17733bd46b2577a7c06", func := "loop.example/g00872/laws.FnExactDualOf", spec := "fnExactDualOf", named := ["loop.example/g00872/impl.dualOperators", "loop.example/g00872/impl.arities"], apart := false, laid := [("loop.example/g00872/impl.arities", laid_loop_example_g00872_impl_arities), ("loop.example/g00872/impl.dualOperators", laid_loop_example_g00872_impl_dualOperators)] }
def FnExactDualOfSaid : Prop := fnExactDualOfRow.holds Tryd.pinned (OpenSpec.ofChange fnExactDualOfSpec)

/-- ITS FALSE NEIGHBOUR: 'it returns false'. Refute it at one input. -/
def fnExactDualOfWrong : ChangeSpec := { name := "fnExactDualOf", vars := ["loop.example/g00872/impl.dualOperators", "loop.example/g00872/impl.arities"], fn := fun _ => fun
  | [d, g1, g2] => { results := [.lit (.bool false)], args := [d], vars := [g1, g2] }
  | _ => none }
def FnExactDualOfWrongFalsely : Prop := fnExactDualOfRow.holds Tryd.pinned (OpenSpec.ofChange fnExactDualOfWrong)

/-- 'laws.FnExactOperatorOf': WHATEVER THE INPUT: true; the input reads as it did. -/
def fnExactOperatorOfSpec : ChangeSpec := { name := "fnExactOperatorOf", vars := ["loop.example/g00872/impl.arities"], fn := fun _ => fun
  | [d, g1] => { results := [.lit (.bool true)], args := [d], vars := [g1] }
  | _ => none }
def fnExactOperatorOfRow : OpenClaim := { program := "ytgblfcalbikgfaadoor", sum := "5c2166b194bf3fe0c2cbd472437dce5b840e1cb3bdabb17733bd46b2577a7c06", func := "loop.example/g00872/laws.FnExactOperatorOf", spec := "fnExactOperatorOf", named := ["loop.example/g00872/impl.arities"], apart := false, laid := [("loop.example/g00872/impl.arities", laid_loop_example_g00872_impl_arities)] }
def FnExactOperatorOfSaid : Prop := fnExactOperatorOfRow.holds Tryd.pinned (OpenSpec.ofChange fnExactOperatorOfSpec)

/-- ITS FALSE NEIGHBOUR: 'it returns false'. Refute it at one input. -/
def fnExactOperatorOfWrong : ChangeSpec := { name := "fnExactOperatorOf", vars := ["loop.example/g00872/impl.arities"], fn := fun _ => fun
  | [d, g1] => { results := [.lit (.bool false)], args := [d], vars := [g1] }
  | _ => none }
def FnExactOperatorOfWrongFalsely : Prop := fnExactOperatorOfRow.holds Tryd.pinned (OpenSpec.ofChange fnExactOperatorOfWrong)

/-- 'laws.FnExactOperandOf': WHATEVER THE INPUT: true; the input reads as it did. -/
def fnExactOperandOfSpec : ChangeSpec := { name := "fnExactOperandOf", vars := ["loop.example/g00872/impl.arities"], fn := fun _ => fun
  | [d1, d2, g1] => { results := [.lit (.bool true)], args := [d1, d2], vars := [g1] }
  | _ => none }
def fnExactOperandOfRow : OpenClaim := { program := "ytgblfcalbikgfaadoor", sum := "5c2166b194bf3fe0c2cbd472437dce5b840e1cb3bdabb17733bd46b2577a7c06", func := "loop.example/g00872/laws.FnExactOperandOf", spec := "fnExactOperandOf", named := ["loop.example/g00872/impl.arities"], apart := false, laid := [("loop.example/g00872/impl.arities", laid_loop_example_g00872_impl_arities)] }
def FnExactOperandOfSaid : Prop := fnExactOperandOfRow.holds Tryd.pinned (OpenSpec.ofChange fnExactOperandOfSpec)

/-- ITS FALSE NEIGHBOUR: 'it returns false'. Refute it at one input. -/
def fnExactOperandOfWrong : ChangeSpec := { name := "fnExactOperandOf", vars := ["loop.example/g00872/impl.arities"], fn := fun _ => fun
  | [d1, d2, g1] => { results := [.lit (.bool false)], args := [d1, d2], vars := [g1] }
  | _ => none }
def FnExactOperandOfWrongFalsely : Prop := fnExactOperandOfRow.holds Tryd.pinned (OpenSpec.ofChange fnExactOperandOfWrong)

/-- 'laws.FnExactJoined': WHATEVER THE INPUT: true; the input reads as it did. -/
def fnExactJoinedSpec : ChangeSpec := { name := "fnExactJoined", vars := ["loop.example/g00872/impl.arities"], fn := fun _ => fun
  | [d1, d2, d3, g1] => { results := [.lit (.bool true)], args := [d1, d2, d3], vars := [g1] }
  | _ => none }
def fnExactJoinedRow : OpenClaim := { program := "ytgblfcalbikgfaadoor", sum := "5c2166b194bf3fe0c2cbd472437dce5b840e1cb3bdabb17733bd46b2577a7c06", func := "loop.example/g00872/laws.FnExactJoined", spec := "fnExactJoined", named := ["loop.example/g00872/impl.arities"], apart := false, laid := [("loop.example/g00872/impl.arities", laid_loop_example_g00872_impl_arities)] }
def FnExactJoinedSaid : Prop := fnExactJoinedRow.holds Tryd.pinned (OpenSpec.ofChange fnExactJoinedSpec)

/-- ITS FALSE NEIGHBOUR: 'it returns false'. Refute it at one input. -/
def fnExactJoinedWrong : ChangeSpec := { name := "fnExactJoined", vars := ["loop.example/g00872/impl.arities"], fn := fun _ => fun
  | [d1, d2, d3, g1] => { results := [.lit (.bool false)], args := [d1, d2, d3], vars := [g1] }
  | _ => none }
def FnExactJoinedWrongFalsely : Prop := fnExactJoinedRow.holds Tryd.pinned (OpenSpec.ofChange fnExactJoinedWrong)

/-- 'laws.FnExactWrapped': WHATEVER THE INPUT: true; the input reads as it did. -/
def fnExactWrappedSpec : ChangeSpec := { name := "fnExactWrapped", vars := ["loop.example/g00872/impl.arities"], fn := fun _ => fun
  | [d1, d2, g1] => { results := [.lit (.bool true)], args := [d1, d2], vars := [g1] }
  | _ => none }
def fnExactWrappedRow : OpenClaim := { program := "ytgblfcalbikgfaadoor", sum := "5c2166b194bf3fe0c2cbd472437dce5b840e1cb3bdabb17733bd46b2577a7c06", func := "loop.example/g00872/laws.FnExactWrapped", spec := "fnExactWrapped", named := ["loop.example/g00872/impl.arities"], apart := false, laid := [("loop.example/g00872/impl.arities", laid_loop_example_g00872_impl_arities)] }
def FnExactWrappedSaid : Prop := fnExactWrappedRow.holds Tryd.pinned (OpenSpec.ofChange fnExactWrappedSpec)

/-- ITS FALSE NEIGHBOUR: 'it returns false'. Refute it at one input. -/
def fnExactWrappedWrong : ChangeSpec := { name := "fnExactWrapped", vars := ["loop.example/g00872/impl.arities"], fn := fun _ => fun
  | [d1, d2, g1] => { results := [.lit (.bool false)], args := [d1, d2], vars := [g1] }
  | _ => none }
def FnExactWrappedWrongFalsely : Prop := fnExactWrappedRow.holds Tryd.pinned (OpenSpec.ofChange fnExactWrappedWrong)

/-- 'laws.FnExactLeavesOf': WHATEVER THE INPUT: true; the input reads as it did. -/
def fnExactLeavesOfSpec : ChangeSpec := { name := "fnExactLeavesOf", vars := ["loop.example/g00872/impl.arities"], fn := fun _ => fun
  | [d, g1] => { results := [.lit (.bool true)], args := [d], vars := [g1] }
  | _ => none }
def fnExactLeavesOfRow : OpenClaim := { program := "ytgblfcalbikgfaadoor", sum := "5c2166b194bf3fe0c2cbd472437dce5b840e1cb3bdabb17733bd46b2577a7c06", func := "loop.example/g00872/laws.FnExactLeavesOf", spec := "fnExactLeavesOf", named := ["loop.example/g00872/impl.arities"], apart := false, laid := [("loop.example/g00872/impl.arities", laid_loop_example_g00872_impl_arities)] }
def FnExactLeavesOfSaid : Prop := fnExactLeavesOfRow.holds Tryd.pinned (OpenSpec.ofChange fnExactLeavesOfSpec)

/-- ITS FALSE NEIGHBOUR: 'it returns false'. Refute it at one input. -/
def fnExactLeavesOfWrong : ChangeSpec := { name := "fnExactLeavesOf", vars := ["loop.example/g00872/impl.arities"], fn := fun _ => fun
  | [d, g1] => { results := [.lit (.bool false)], args := [d], vars := [g1] }
  | _ => none }
def FnExactLeavesOfWrongFalsely : Prop := fnExactLeavesOfRow.holds Tryd.pinned (OpenSpec.ofChange fnExactLeavesOfWrong)

/-- 'laws.FnExactDepthOf': WHATEVER THE INPUT: true; the input reads as it did. -/
def fnExactDepthOfSpec : ChangeSpec := { name := "fnExactDepthOf", vars := ["loop.example/g00872/impl.arities"], fn := fun _ => fun
  | [d, g1] => { results := [.lit (.bool true)], args := [d], vars := [g1] }
  | _ => none }
def fnExactDepthOfRow : OpenClaim := { program := "ytgblfcalbikgfaadoor", sum := "5c2166b194bf3fe0c2cbd472437dce5b840e1cb3bdabb17733bd46b2577a7c06", func := "loop.example/g00872/laws.FnExactDepthOf", spec := "fnExactDepthOf", recurses := true, named := ["loop.example/g00872/impl.arities"], apart := false, laid := [("loop.example/g00872/impl.arities", laid_loop_example_g00872_impl_arities)] }
def FnExactDepthOfSaid : Prop := fnExactDepthOfRow.holds Tryd.pinned (OpenSpec.ofChange fnExactDepthOfSpec)

/-- ITS FALSE NEIGHBOUR: 'it returns false'. Refute it at one input. -/
def fnExactDepthOfWrong : ChangeSpec := { name := "fnExactDepthOf", vars := ["loop.example/g00872/impl.arities"], fn := fun _ => fun
  | [d, g1] => { results := [.lit (.bool false)], args := [d], vars := [g1] }
  | _ => none }
def FnExactDepthOfWrongFalsely : Prop := fnExactDepthOfRow.holds Tryd.pinned (OpenSpec.ofChange fnExactDepthOfWrong)

/-- 'laws.FnExactFragmentOf': WHATEVER THE INPUT: true; the input reads as it did. -/
def fnExactFragmentOfSpec : ChangeSpec := { name := "fnExactFragmentOf", vars := ["loop.example/g00872/impl.arities"], fn := fun _ => fun
  | [d, g1] => { results := [.lit (.bool true)], args := [d], vars := [g1] }
  | _ => none }
def fnExactFragmentOfRow : OpenClaim := { program := "ytgblfcalbikgfaadoor", sum := "5c2166b194bf3fe0c2cbd472437dce5b840e1cb3bdabb17733bd46b2577a7c06", func := "loop.example/g00872/laws.FnExactFragmentOf", spec := "fnExactFragmentOf", named := ["loop.example/g00872/impl.arities"], apart := false, laid := [("loop.example/g00872/impl.arities", laid_loop_example_g00872_impl_arities)] }
def FnExactFragmentOfSaid : Prop := fnExactFragmentOfRow.holds Tryd.pinned (OpenSpec.ofChange fnExactFragmentOfSpec)

/-- ITS FALSE NEIGHBOUR: 'it returns false'. Refute it at one input. -/
def fnExactFragmentOfWrong : ChangeSpec := { name := "fnExactFragmentOf", vars := ["loop.example/g00872/impl.arities"], fn := fun _ => fun
  | [d, g1] => { results := [.lit (.bool false)], args := [d], vars := [g1] }
  | _ => none }
def FnExactFragmentOfWrongFalsely : Prop := fnExactFragmentOfRow.holds Tryd.pinned (OpenSpec.ofChange fnExactFragmentOfWrong)

/- THE SECOND FORM. 'bulk': how many values and letters a reading holds, each counted each time it is reached (what is shared counts as often as it is met; a slice's spare places count too). A statement '..UptoSaid' is the law's where the arguments, and the package variables that the reading takes, are together of bulk at most 1048576: NARROWER than '..Said'. Prove '..Said' where nothing that the law and all that it calls make is longer than what came in: it says more and counts as full. Else prove '..UptoSaid'. A law counts once. -/
mutual
def uptoBulk {H : Type} : DataW H → Nat
  | .lit (.string bytes) => bytes.length + 1
  | .lit _ => 1
  | .nil => 1
  | .ptr d => uptoBulk d + 1
  | .slice elems spare => uptoBulkAll elems + uptoBulkAll spare + 1
  | .agg parts => uptoBulkAll parts + 1
  | .iface _ d => uptoBulk d + 1
  | .map entries => uptoBulkEntries entries + 1
  | .held _ => 1
def uptoBulkAll {H : Type} : List (DataW H) → Nat
  | [] => 0
  | d :: r => uptoBulk d + uptoBulkAll r
def uptoBulkEntries {H : Type} : List (Lit × DataW H) → Nat
  | [] => 0
  | x :: r => uptoBulkEntry x + uptoBulkEntries r
def uptoBulkEntry {H : Type} : Lit × DataW H → Nat
  | (.string bytes, d) => bytes.length + uptoBulk d + 1
  | (_, d) => uptoBulk d + 1
 end
def uptoSmall : (H : Type) → List (DataW H) → Bool := fun _ ds => decide (uptoBulkAll ds ≤ 1048576)
def OpenSpec.upto (s : _root_.Go.ChangeSpec) : _root_.Go.OpenSpec := { _root_.Go.OpenSpec.ofChange s with cond := some uptoSmall }

/-- 'laws.FnDual', WHERE WHAT IT READS IS OF BULK AT MOST 1048576: true; the input reads as it did. -/
def fnDualUptoRow : OpenClaim := { program := "ytgblfcalbikgfaadoor", sum := "5c2166b194bf3fe0c2cbd472437dce5b840e1cb3bdabb17733bd46b2577a7c06", func := "loop.example/g00872/laws.FnDual", spec := "fnDual", recurses := true, named := ["loop.example/g00872/impl.dualOperators", "loop.example/g00872/impl.arities"], apart := false, laid := [("loop.example/g00872/impl.arities", laid_loop_example_g00872_impl_arities), ("loop.example/g00872/impl.dualOperators", laid_loop_example_g00872_impl_dualOperators)], narrowed := true }
def FnDualUptoSaid : Prop := fnDualUptoRow.holds Tryd.pinned (OpenSpec.upto fnDualSpec)

/-- 'laws.FnParts', WHERE WHAT IT READS IS OF BULK AT MOST 1048576: true; the input reads as it did. -/
def fnPartsUptoRow : OpenClaim := { program := "ytgblfcalbikgfaadoor", sum := "5c2166b194bf3fe0c2cbd472437dce5b840e1cb3bdabb17733bd46b2577a7c06", func := "loop.example/g00872/laws.FnParts", spec := "fnParts", recurses := true, named := ["loop.example/g00872/impl.arities"], apart := false, laid := [("loop.example/g00872/impl.arities", laid_loop_example_g00872_impl_arities)], narrowed := true }
def FnPartsUptoSaid : Prop := fnPartsUptoRow.holds Tryd.pinned (OpenSpec.upto fnPartsSpec)

/-- 'laws.FnExactValidForm', WHERE WHAT IT READS IS OF BULK AT MOST 1048576: true; the input reads as it did. -/
def fnExactValidFormUptoRow : OpenClaim := { program := "ytgblfcalbikgfaadoor", sum := "5c2166b194bf3fe0c2cbd472437dce5b840e1cb3bdabb17733bd46b2577a7c06", func := "loop.example/g00872/laws.FnExactValidForm", spec := "fnExactValidForm", named := ["loop.example/g00872/impl.arities"], apart := false, laid := [("loop.example/g00872/impl.arities", laid_loop_example_g00872_impl_arities)], narrowed := true }
def FnExactValidFormUptoSaid : Prop := fnExactValidFormUptoRow.holds Tryd.pinned (OpenSpec.upto fnExactValidFormSpec)

/-- 'laws.FnExactFormEnd', WHERE WHAT IT READS IS OF BULK AT MOST 1048576: true; the input reads as it did. -/
def fnExactFormEndUptoRow : OpenClaim := { program := "ytgblfcalbikgfaadoor", sum := "5c2166b194bf3fe0c2cbd472437dce5b840e1cb3bdabb17733bd46b2577a7c06", func := "loop.example/g00872/laws.FnExactFormEnd", spec := "fnExactFormEnd", named := ["loop.example/g00872/impl.arities"], apart := false, laid := [("loop.example/g00872/impl.arities", laid_loop_example_g00872_impl_arities)], narrowed := true }
def FnExactFormEndUptoSaid : Prop := fnExactFormEndUptoRow.holds Tryd.pinned (OpenSpec.upto fnExactFormEndSpec)

/-- 'laws.FnExactDualOf', WHERE WHAT IT READS IS OF BULK AT MOST 1048576: true; the input reads as it did. -/
def fnExactDualOfUptoRow : OpenClaim := { program := "ytgblfcalbikgfaadoor", sum := "5c2166b194bf3fe0c2cbd472437dce5b840e1cb3bdabb17733bd46b2577a7c06", func := "loop.example/g00872/laws.FnExactDualOf", spec := "fnExactDualOf", named := ["loop.example/g00872/impl.dualOperators", "loop.example/g00872/impl.arities"], apart := false, laid := [("loop.example/g00872/impl.arities", laid_loop_example_g00872_impl_arities), ("loop.example/g00872/impl.dualOperators", laid_loop_example_g00872_impl_dualOperators)], narrowed := true }
def FnExactDualOfUptoSaid : Prop := fnExactDualOfUptoRow.holds Tryd.pinned (OpenSpec.upto fnExactDualOfSpec)

/-- 'laws.FnExactOperatorOf', WHERE WHAT IT READS IS OF BULK AT MOST 1048576: true; the input reads as it did. -/
def fnExactOperatorOfUptoRow : OpenClaim := { program := "ytgblfcalbikgfaadoor", sum := "5c2166b194bf3fe0c2cbd472437dce5b840e1cb3bdabb17733bd46b2577a7c06", func := "loop.example/g00872/laws.FnExactOperatorOf", spec := "fnExactOperatorOf", named := ["loop.example/g00872/impl.arities"], apart := false, laid := [("loop.example/g00872/impl.arities", laid_loop_example_g00872_impl_arities)], narrowed := true }
def FnExactOperatorOfUptoSaid : Prop := fnExactOperatorOfUptoRow.holds Tryd.pinned (OpenSpec.upto fnExactOperatorOfSpec)

/-- 'laws.FnExactOperandOf', WHERE WHAT IT READS IS OF BULK AT MOST 1048576: true; the input reads as it did. -/
def fnExactOperandOfUptoRow : OpenClaim := { program := "ytgblfcalbikgfaadoor", sum := "5c2166b194bf3fe0c2cbd472437dce5b840e1cb3bdabb17733bd46b2577a7c06", func := "loop.example/g00872/laws.FnExactOperandOf", spec := "fnExactOperandOf", named := ["loop.example/g00872/impl.arities"], apart := false, laid := [("loop.example/g00872/impl.arities", laid_loop_example_g00872_impl_arities)], narrowed := true }
def FnExactOperandOfUptoSaid : Prop := fnExactOperandOfUptoRow.holds Tryd.pinned (OpenSpec.upto fnExactOperandOfSpec)

/-- 'laws.FnExactJoined', WHERE WHAT IT READS IS OF BULK AT MOST 1048576: true; the input reads as it did. -/
def fnExactJoinedUptoRow : OpenClaim := { program := "ytgblfcalbikgfaadoor", sum := "5c2166b194bf3fe0c2cbd472437dce5b840e1cb3bdabb17733bd46b2577a7c06", func := "loop.example/g00872/laws.FnExactJoined", spec := "fnExactJoined", named := ["loop.example/g00872/impl.arities"], apart := false, laid := [("loop.example/g00872/impl.arities", laid_loop_example_g00872_impl_arities)], narrowed := true }
def FnExactJoinedUptoSaid : Prop := fnExactJoinedUptoRow.holds Tryd.pinned (OpenSpec.upto fnExactJoinedSpec)

/-- 'laws.FnExactWrapped', WHERE WHAT IT READS IS OF BULK AT MOST 1048576: true; the input reads as it did. -/
def fnExactWrappedUptoRow : OpenClaim := { program := "ytgblfcalbikgfaadoor", sum := "5c2166b194bf3fe0c2cbd472437dce5b840e1cb3bdabb17733bd46b2577a7c06", func := "loop.example/g00872/laws.FnExactWrapped", spec := "fnExactWrapped", named := ["loop.example/g00872/impl.arities"], apart := false, laid := [("loop.example/g00872/impl.arities", laid_loop_example_g00872_impl_arities)], narrowed := true }
def FnExactWrappedUptoSaid : Prop := fnExactWrappedUptoRow.holds Tryd.pinned (OpenSpec.upto fnExactWrappedSpec)

/-- 'laws.FnExactLeavesOf', WHERE WHAT IT READS IS OF BULK AT MOST 1048576: true; the input reads as it did. -/
def fnExactLeavesOfUptoRow : OpenClaim := { program := "ytgblfcalbikgfaadoor", sum := "5c2166b194bf3fe0c2cbd472437dce5b840e1cb3bdabb17733bd46b2577a7c06", func := "loop.example/g00872/laws.FnExactLeavesOf", spec := "fnExactLeavesOf", named := ["loop.example/g00872/impl.arities"], apart := false, laid := [("loop.example/g00872/impl.arities", laid_loop_example_g00872_impl_arities)], narrowed := true }
def FnExactLeavesOfUptoSaid : Prop := fnExactLeavesOfUptoRow.holds Tryd.pinned (OpenSpec.upto fnExactLeavesOfSpec)

/-- 'laws.FnExactDepthOf', WHERE WHAT IT READS IS OF BULK AT MOST 1048576: true; the input reads as it did. -/
def fnExactDepthOfUptoRow : OpenClaim := { program := "ytgblfcalbikgfaadoor", sum := "5c2166b194bf3fe0c2cbd472437dce5b840e1cb3bdabb17733bd46b2577a7c06", func := "loop.example/g00872/laws.FnExactDepthOf", spec := "fnExactDepthOf", recurses := true, named := ["loop.example/g00872/impl.arities"], apart := false, laid := [("loop.example/g00872/impl.arities", laid_loop_example_g00872_impl_arities)], narrowed := true }
def FnExactDepthOfUptoSaid : Prop := fnExactDepthOfUptoRow.holds Tryd.pinned (OpenSpec.upto fnExactDepthOfSpec)

/-- 'laws.FnExactFragmentOf', WHERE WHAT IT READS IS OF BULK AT MOST 1048576: true; the input reads as it did. -/
def fnExactFragmentOfUptoRow : OpenClaim := { program := "ytgblfcalbikgfaadoor", sum := "5c2166b194bf3fe0c2cbd472437dce5b840e1cb3bdabb17733bd46b2577a7c06", func := "loop.example/g00872/laws.FnExactFragmentOf", spec := "fnExactFragmentOf", named := ["loop.example/g00872/impl.arities"], apart := false, laid := [("loop.example/g00872/impl.arities", laid_loop_example_g00872_impl_arities)], narrowed := true }
def FnExactFragmentOfUptoSaid : Prop := fnExactFragmentOfUptoRow.holds Tryd.pinned (OpenSpec.upto fnExactFragmentOfSpec)

end Rows
end Go.Proofs.YtgblfcalbikgfaaDoor
