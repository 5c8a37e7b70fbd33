/-
  NARROWER THAN 'FOR EVERY INPUT', by the rows' own cells (each row's printed sentence says how): FnExactSubNet: laid · FnExactBorderOf: laid · FnExactIsSubnetSet: laid · FnExactSubnetCount: laid · FnExactKingdomOf: laid · FnExactEmpireOf: laid · FnExactSwitchingEmpire: laid · FnExactInKingdom: laid · FnExactSplitNet: laid · FnExactIsSequentialisable: laid.
  DERIVED. THE GIVEN ROWS OF THIS SEAT. 10 by the template 'for every input the law returns true; each argument reads behind the call as it read before'; 0 by the template 'total and deterministic' (their statements: YtfdpkhiiboghiaaGreatDoorTotals.lean).
  GIVEN WITH THE SEED: the statements are not yours to turn. If you find one false, say at which input.
  Laid BY PROGRAM, IN A SANDBOX (cutbox-rows.mjs): the forced cells as the released guide's own fill.sh prints them over the translation a238080c0adde109… (all of the seat's roots in one cut). By AI agents, Wed Nov 11 2026. No macro, syntax, notation, axiom, sorry.
-/
import Derived.Test.YtfdpkhiiboghiaaGreatDoorChecked
import GoSem.Claim
import GoSem.ClaimJoined
import GoSem.ClaimMapViews
import Derived.JoinedTies
import Derived.KernelRfl
namespace Go.Proofs.YtfdpkhiiboghiaaGreatDoor
/- THE CELL 'sum', in the pinned program and in every row, IS THE sha256 OF THE DUMP (.gsa) THAT YtfdpkhiiboghiaaGreatDoorProg.lean LOADS. Nothing in Lean hashes anything: it is a label: what it is worth is what the hold of that sum in a sandbox is worth. -/
noncomputable def Tryz.pinned : Pinned := { name := "ytfdpkhiiboghiaagreatdoor", sum := "a238080c0adde1093565ba7914108fb7ad27251ae8237b314bda84fc9088d311", checked := Tryz.checked }
namespace Rows
def none {H : Type} : Left H := { results := [], args := [] }

/- WHAT THE LISTED PACKAGE-LEVEL VARIABLES READ AS WHEN THE CALL BEGINS. Each datum BY PROGRAM (the guide's laid-datum.mjs) off the statement by which the dump's own 'gosem.cut.vars' lays the variable. In a bare row this is a premise. The card (YtfdpkhiiboghiaaGreatDoorCards.lean) ties it to the program's text. -/
def laid_math_bits_deBruijn64tab {H : Type} : DataW H := .agg [.lit (.int .u8 0), .lit (.int .u8 1), .lit (.int .u8 56), .lit (.int .u8 2), .lit (.int .u8 57), .lit (.int .u8 49), .lit (.int .u8 28), .lit (.int .u8 3), .lit (.int .u8 61), .lit (.int .u8 58), .lit (.int .u8 42), .lit (.int .u8 50), .lit (.int .u8 38), .lit (.int .u8 29), .lit (.int .u8 17), .lit (.int .u8 4), .lit (.int .u8 62), .lit (.int .u8 47), .lit (.int .u8 59), .lit (.int .u8 36), .lit (.int .u8 45), .lit (.int .u8 43), .lit (.int .u8 51), .lit (.int .u8 22), .lit (.int .u8 53), .lit (.int .u8 39), .lit (.int .u8 33), .lit (.int .u8 30), .lit (.int .u8 24), .lit (.int .u8 18), .lit (.int .u8 12), .lit (.int .u8 5), .lit (.int .u8 63), .lit (.int .u8 55), .lit (.int .u8 48), .lit (.int .u8 27), .lit (.int .u8 60), .lit (.int .u8 41), .lit (.int .u8 37), .lit (.int .u8 16), .lit (.int .u8 46), .lit (.int .u8 35), .lit (.int .u8 44), .lit (.int .u8 21), .lit (.int .u8 52), .lit (.int .u8 32), .lit (.int .u8 23), .lit (.int .u8 11), .lit (.int .u8 54), .lit (.int .u8 26), .lit (.int .u8 40), .lit (.int .u8 15), .lit (.int .u8 34), .lit (.int .u8 20), .lit (.int .u8 31), .lit (.int .u8 10), .lit (.int .u8 25), .lit (.int .u8 14), .lit (.int .u8 19), .lit (.int .u8 9), .lit (.int .u8 13), .lit (.int .u8 8), .lit (.int .u8 7), .lit (.int .u8 6)]
def laid_loop_example_g00872_impl_arities {H : Type} : DataW H := .agg [.lit (.int .i64 0), .lit (.int .i64 0), .lit (.int .i64 0), .lit (.int .i64 0), .lit (.int .i64 0), .lit (.int .i64 0), .lit (.int .i64 0), .lit (.int .i64 0), .lit (.int .i64 0), .lit (.int .i64 0), .lit (.int .i64 0), .lit (.int .i64 2), .lit (.int .i64 2), .lit (.int .i64 0), .lit (.int .i64 0), .lit (.int .i64 2), .lit (.int .i64 2), .lit (.int .i64 1), .lit (.int .i64 1)]
def laid_loop_example_g00872_impl_dualOperators {H : Type} : DataW H := .agg [.lit (.int .i64 0), .lit (.int .i64 0), .lit (.int .i64 0), .lit (.int .i64 0), .lit (.int .i64 0), .lit (.int .i64 0), .lit (.int .i64 0), .lit (.int .i64 0), .lit (.int .i64 0), .lit (.int .i64 0), .lit (.int .i64 0), .lit (.int .i64 12), .lit (.int .i64 11), .lit (.int .i64 14), .lit (.int .i64 13), .lit (.int .i64 16), .lit (.int .i64 15), .lit (.int .i64 18), .lit (.int .i64 17)]

/-- 'laws.FnExactSubNet': WHATEVER THE INPUT: true; the input reads as it did. -/
def fnExactSubNetSpec : ChangeSpec := { name := "fnExactSubNet", vars := ["loop.example/g00872/impl.arities", "loop.example/g00872/impl.dualOperators"], fn := fun _ => fun
  | [d1, d2, g1, g2] => { results := [.lit (.bool true)], args := [d1, d2], vars := [g1, g2] }
  | _ => none }
def fnExactSubNetRow : OpenClaim := { program := "ytfdpkhiiboghiaagreatdoor", sum := "a238080c0adde1093565ba7914108fb7ad27251ae8237b314bda84fc9088d311", func := "loop.example/g00872/laws.FnExactSubNet", spec := "fnExactSubNet", unfollowed := true, recurses := true, named := ["loop.example/g00872/impl.arities", "loop.example/g00872/impl.dualOperators", "math/bits.deBruijn64tab"], apart := false, laid := [("math/bits.deBruijn64tab", laid_math_bits_deBruijn64tab), ("loop.example/g00872/impl.arities", laid_loop_example_g00872_impl_arities), ("loop.example/g00872/impl.dualOperators", laid_loop_example_g00872_impl_dualOperators)] }
def FnExactSubNetSaid : Prop := fnExactSubNetRow.holds Tryz.pinned (OpenSpec.ofChange fnExactSubNetSpec)

/-- ITS FALSE NEIGHBOUR: 'it returns false'. Refute it at one input. -/
def fnExactSubNetWrong : ChangeSpec := { name := "fnExactSubNet", vars := ["loop.example/g00872/impl.arities", "loop.example/g00872/impl.dualOperators"], fn := fun _ => fun
  | [d1, d2, g1, g2] => { results := [.lit (.bool false)], args := [d1, d2], vars := [g1, g2] }
  | _ => none }
def FnExactSubNetWrongFalsely : Prop := fnExactSubNetRow.holds Tryz.pinned (OpenSpec.ofChange fnExactSubNetWrong)

/-- 'laws.FnExactBorderOf': WHATEVER THE INPUT: true; the input reads as it did. -/
def fnExactBorderOfSpec : ChangeSpec := { name := "fnExactBorderOf", vars := ["loop.example/g00872/impl.arities", "loop.example/g00872/impl.dualOperators"], fn := fun _ => fun
  | [d1, d2, g1, g2] => { results := [.lit (.bool true)], args := [d1, d2], vars := [g1, g2] }
  | _ => none }
def fnExactBorderOfRow : OpenClaim := { program := "ytfdpkhiiboghiaagreatdoor", sum := "a238080c0adde1093565ba7914108fb7ad27251ae8237b314bda84fc9088d311", func := "loop.example/g00872/laws.FnExactBorderOf", spec := "fnExactBorderOf", unfollowed := true, recurses := true, named := ["loop.example/g00872/impl.arities", "loop.example/g00872/impl.dualOperators", "math/bits.deBruijn64tab"], apart := false, laid := [("math/bits.deBruijn64tab", laid_math_bits_deBruijn64tab), ("loop.example/g00872/impl.arities", laid_loop_example_g00872_impl_arities), ("loop.example/g00872/impl.dualOperators", laid_loop_example_g00872_impl_dualOperators)] }
def FnExactBorderOfSaid : Prop := fnExactBorderOfRow.holds Tryz.pinned (OpenSpec.ofChange fnExactBorderOfSpec)

/-- ITS FALSE NEIGHBOUR: 'it returns false'. Refute it at one input. -/
def fnExactBorderOfWrong : ChangeSpec := { name := "fnExactBorderOf", vars := ["loop.example/g00872/impl.arities", "loop.example/g00872/impl.dualOperators"], fn := fun _ => fun
  | [d1, d2, g1, g2] => { results := [.lit (.bool false)], args := [d1, d2], vars := [g1, g2] }
  | _ => none }
def FnExactBorderOfWrongFalsely : Prop := fnExactBorderOfRow.holds Tryz.pinned (OpenSpec.ofChange fnExactBorderOfWrong)

/-- 'laws.FnExactIsSubnetSet': WHATEVER THE INPUT: true; the input reads as it did. -/
def fnExactIsSubnetSetSpec : ChangeSpec := { name := "fnExactIsSubnetSet", vars := ["loop.example/g00872/impl.arities", "loop.example/g00872/impl.dualOperators"], fn := fun _ => fun
  | [d1, d2, g1, g2] => { results := [.lit (.bool true)], args := [d1, d2], vars := [g1, g2] }
  | _ => none }
def fnExactIsSubnetSetRow : OpenClaim := { program := "ytfdpkhiiboghiaagreatdoor", sum := "a238080c0adde1093565ba7914108fb7ad27251ae8237b314bda84fc9088d311", func := "loop.example/g00872/laws.FnExactIsSubnetSet", spec := "fnExactIsSubnetSet", unfollowed := true, recurses := true, named := ["loop.example/g00872/impl.arities", "loop.example/g00872/impl.dualOperators", "math/bits.deBruijn64tab"], apart := false, laid := [("math/bits.deBruijn64tab", laid_math_bits_deBruijn64tab), ("loop.example/g00872/impl.arities", laid_loop_example_g00872_impl_arities), ("loop.example/g00872/impl.dualOperators", laid_loop_example_g00872_impl_dualOperators)] }
def FnExactIsSubnetSetSaid : Prop := fnExactIsSubnetSetRow.holds Tryz.pinned (OpenSpec.ofChange fnExactIsSubnetSetSpec)

/-- ITS FALSE NEIGHBOUR: 'it returns false'. Refute it at one input. -/
def fnExactIsSubnetSetWrong : ChangeSpec := { name := "fnExactIsSubnetSet", vars := ["loop.example/g00872/impl.arities", "loop.example/g00872/impl.dualOperators"], fn := fun _ => fun
  | [d1, d2, g1, g2] => { results := [.lit (.bool false)], args := [d1, d2], vars := [g1, g2] }
  | _ => none }
def FnExactIsSubnetSetWrongFalsely : Prop := fnExactIsSubnetSetRow.holds Tryz.pinned (OpenSpec.ofChange fnExactIsSubnetSetWrong)

/-- 'laws.FnExactSubnetCount': WHATEVER THE INPUT: true; the input reads as it did. -/
def fnExactSubnetCountSpec : ChangeSpec := { name := "fnExactSubnetCount", vars := ["loop.example/g00872/impl.arities", "loop.example/g00872/impl.dualOperators"], fn := fun _ => fun
  | [d1, d2, g1, g2] => { results := [.lit (.bool true)], args := [d1, d2], vars := [g1, g2] }
  | _ => none }
def fnExactSubnetCountRow : OpenClaim := { program := "ytfdpkhiiboghiaagreatdoor", sum := "a238080c0adde1093565ba7914108fb7ad27251ae8237b314bda84fc9088d311", func := "loop.example/g00872/laws.FnExactSubnetCount", spec := "fnExactSubnetCount", unfollowed := true, recurses := true, named := ["loop.example/g00872/impl.arities", "loop.example/g00872/impl.dualOperators", "math/bits.deBruijn64tab"], apart := false, laid := [("math/bits.deBruijn64tab", laid_math_bits_deBruijn64tab), ("loop.example/g00872/impl.arities", laid_loop_example_g00872_impl_arities), ("loop.example/g00872/impl.dualOperators", laid_loop_example_g00872_impl_dualOperators)] }
def FnExactSubnetCountSaid : Prop := fnExactSubnetCountRow.holds Tryz.pinned (OpenSpec.ofChange fnExactSubnetCountSpec)

/-- ITS FALSE NEIGHBOUR: 'it returns false'. Refute it at one input. -/
def fnExactSubnetCountWrong : ChangeSpec := { name := "fnExactSubnetCount", vars := ["loop.example/g00872/impl.arities", "loop.example/g00872/impl.dualOperators"], fn := fun _ => fun
  | [d1, d2, g1, g2] => { results := [.lit (.bool false)], args := [d1, d2], vars := [g1, g2] }
  | _ => none }
def FnExactSubnetCountWrongFalsely : Prop := fnExactSubnetCountRow.holds Tryz.pinned (OpenSpec.ofChange fnExactSubnetCountWrong)

/-- 'laws.FnExactKingdomOf': WHATEVER THE INPUT: true; the input reads as it did. -/
def fnExactKingdomOfSpec : ChangeSpec := { name := "fnExactKingdomOf", vars := ["loop.example/g00872/impl.arities", "loop.example/g00872/impl.dualOperators"], fn := fun _ => fun
  | [d1, d2, g1, g2] => { results := [.lit (.bool true)], args := [d1, d2], vars := [g1, g2] }
  | _ => none }
def fnExactKingdomOfRow : OpenClaim := { program := "ytfdpkhiiboghiaagreatdoor", sum := "a238080c0adde1093565ba7914108fb7ad27251ae8237b314bda84fc9088d311", func := "loop.example/g00872/laws.FnExactKingdomOf", spec := "fnExactKingdomOf", unfollowed := true, recurses := true, named := ["loop.example/g00872/impl.arities", "loop.example/g00872/impl.dualOperators", "math/bits.deBruijn64tab"], apart := false, laid := [("math/bits.deBruijn64tab", laid_math_bits_deBruijn64tab), ("loop.example/g00872/impl.arities", laid_loop_example_g00872_impl_arities), ("loop.example/g00872/impl.dualOperators", laid_loop_example_g00872_impl_dualOperators)] }
def FnExactKingdomOfSaid : Prop := fnExactKingdomOfRow.holds Tryz.pinned (OpenSpec.ofChange fnExactKingdomOfSpec)

/-- ITS FALSE NEIGHBOUR: 'it returns false'. Refute it at one input. -/
def fnExactKingdomOfWrong : ChangeSpec := { name := "fnExactKingdomOf", vars := ["loop.example/g00872/impl.arities", "loop.example/g00872/impl.dualOperators"], fn := fun _ => fun
  | [d1, d2, g1, g2] => { results := [.lit (.bool false)], args := [d1, d2], vars := [g1, g2] }
  | _ => none }
def FnExactKingdomOfWrongFalsely : Prop := fnExactKingdomOfRow.holds Tryz.pinned (OpenSpec.ofChange fnExactKingdomOfWrong)

/-- 'laws.FnExactEmpireOf': WHATEVER THE INPUT: true; the input reads as it did. -/
def fnExactEmpireOfSpec : ChangeSpec := { name := "fnExactEmpireOf", vars := ["loop.example/g00872/impl.arities", "loop.example/g00872/impl.dualOperators"], fn := fun _ => fun
  | [d1, d2, g1, g2] => { results := [.lit (.bool true)], args := [d1, d2], vars := [g1, g2] }
  | _ => none }
def fnExactEmpireOfRow : OpenClaim := { program := "ytfdpkhiiboghiaagreatdoor", sum := "a238080c0adde1093565ba7914108fb7ad27251ae8237b314bda84fc9088d311", func := "loop.example/g00872/laws.FnExactEmpireOf", spec := "fnExactEmpireOf", unfollowed := true, recurses := true, named := ["loop.example/g00872/impl.arities", "loop.example/g00872/impl.dualOperators", "math/bits.deBruijn64tab"], apart := false, laid := [("math/bits.deBruijn64tab", laid_math_bits_deBruijn64tab), ("loop.example/g00872/impl.arities", laid_loop_example_g00872_impl_arities), ("loop.example/g00872/impl.dualOperators", laid_loop_example_g00872_impl_dualOperators)] }
def FnExactEmpireOfSaid : Prop := fnExactEmpireOfRow.holds Tryz.pinned (OpenSpec.ofChange fnExactEmpireOfSpec)

/-- ITS FALSE NEIGHBOUR: 'it returns false'. Refute it at one input. -/
def fnExactEmpireOfWrong : ChangeSpec := { name := "fnExactEmpireOf", vars := ["loop.example/g00872/impl.arities", "loop.example/g00872/impl.dualOperators"], fn := fun _ => fun
  | [d1, d2, g1, g2] => { results := [.lit (.bool false)], args := [d1, d2], vars := [g1, g2] }
  | _ => none }
def FnExactEmpireOfWrongFalsely : Prop := fnExactEmpireOfRow.holds Tryz.pinned (OpenSpec.ofChange fnExactEmpireOfWrong)

/-- 'laws.FnExactSwitchingEmpire': WHATEVER THE INPUT: true; the input reads as it did. -/
def fnExactSwitchingEmpireSpec : ChangeSpec := { name := "fnExactSwitchingEmpire", vars := ["loop.example/g00872/impl.arities", "loop.example/g00872/impl.dualOperators"], fn := fun _ => fun
  | [d1, d2, g1, g2] => { results := [.lit (.bool true)], args := [d1, d2], vars := [g1, g2] }
  | _ => none }
def fnExactSwitchingEmpireRow : OpenClaim := { program := "ytfdpkhiiboghiaagreatdoor", sum := "a238080c0adde1093565ba7914108fb7ad27251ae8237b314bda84fc9088d311", func := "loop.example/g00872/laws.FnExactSwitchingEmpire", spec := "fnExactSwitchingEmpire", unfollowed := true, recurses := true, named := ["loop.example/g00872/impl.arities", "loop.example/g00872/impl.dualOperators", "math/bits.deBruijn64tab"], apart := false, laid := [("math/bits.deBruijn64tab", laid_math_bits_deBruijn64tab), ("loop.example/g00872/impl.arities", laid_loop_example_g00872_impl_arities), ("loop.example/g00872/impl.dualOperators", laid_loop_example_g00872_impl_dualOperators)] }
def FnExactSwitchingEmpireSaid : Prop := fnExactSwitchingEmpireRow.holds Tryz.pinned (OpenSpec.ofChange fnExactSwitchingEmpireSpec)

/-- ITS FALSE NEIGHBOUR: 'it returns false'. Refute it at one input. -/
def fnExactSwitchingEmpireWrong : ChangeSpec := { name := "fnExactSwitchingEmpire", vars := ["loop.example/g00872/impl.arities", "loop.example/g00872/impl.dualOperators"], fn := fun _ => fun
  | [d1, d2, g1, g2] => { results := [.lit (.bool false)], args := [d1, d2], vars := [g1, g2] }
  | _ => none }
def FnExactSwitchingEmpireWrongFalsely : Prop := fnExactSwitchingEmpireRow.holds Tryz.pinned (OpenSpec.ofChange fnExactSwitchingEmpireWrong)

/-- 'laws.FnExactInKingdom': WHATEVER THE INPUT: true; the input reads as it did. -/
def fnExactInKingdomSpec : ChangeSpec := { name := "fnExactInKingdom", vars := ["loop.example/g00872/impl.arities", "loop.example/g00872/impl.dualOperators"], fn := fun _ => fun
  | [d1, d2, d3, g1, g2] => { results := [.lit (.bool true)], args := [d1, d2, d3], vars := [g1, g2] }
  | _ => none }
def fnExactInKingdomRow : OpenClaim := { program := "ytfdpkhiiboghiaagreatdoor", sum := "a238080c0adde1093565ba7914108fb7ad27251ae8237b314bda84fc9088d311", func := "loop.example/g00872/laws.FnExactInKingdom", spec := "fnExactInKingdom", unfollowed := true, recurses := true, named := ["loop.example/g00872/impl.arities", "loop.example/g00872/impl.dualOperators", "math/bits.deBruijn64tab"], apart := false, laid := [("math/bits.deBruijn64tab", laid_math_bits_deBruijn64tab), ("loop.example/g00872/impl.arities", laid_loop_example_g00872_impl_arities), ("loop.example/g00872/impl.dualOperators", laid_loop_example_g00872_impl_dualOperators)] }
def FnExactInKingdomSaid : Prop := fnExactInKingdomRow.holds Tryz.pinned (OpenSpec.ofChange fnExactInKingdomSpec)

/-- ITS FALSE NEIGHBOUR: 'it returns false'. Refute it at one input. -/
def fnExactInKingdomWrong : ChangeSpec := { name := "fnExactInKingdom", vars := ["loop.example/g00872/impl.arities", "loop.example/g00872/impl.dualOperators"], fn := fun _ => fun
  | [d1, d2, d3, g1, g2] => { results := [.lit (.bool false)], args := [d1, d2, d3], vars := [g1, g2] }
  | _ => none }
def FnExactInKingdomWrongFalsely : Prop := fnExactInKingdomRow.holds Tryz.pinned (OpenSpec.ofChange fnExactInKingdomWrong)

/-- 'laws.FnExactSplitNet': WHATEVER THE INPUT: true; the input reads as it did. -/
def fnExactSplitNetSpec : ChangeSpec := { name := "fnExactSplitNet", vars := ["loop.example/g00872/impl.arities", "loop.example/g00872/impl.dualOperators"], fn := fun _ => fun
  | [d1, d2, g1, g2] => { results := [.lit (.bool true)], args := [d1, d2], vars := [g1, g2] }
  | _ => none }
def fnExactSplitNetRow : OpenClaim := { program := "ytfdpkhiiboghiaagreatdoor", sum := "a238080c0adde1093565ba7914108fb7ad27251ae8237b314bda84fc9088d311", func := "loop.example/g00872/laws.FnExactSplitNet", spec := "fnExactSplitNet", unfollowed := true, recurses := true, named := ["loop.example/g00872/impl.arities", "loop.example/g00872/impl.dualOperators"], apart := false, laid := [("loop.example/g00872/impl.arities", laid_loop_example_g00872_impl_arities), ("loop.example/g00872/impl.dualOperators", laid_loop_example_g00872_impl_dualOperators)] }
def FnExactSplitNetSaid : Prop := fnExactSplitNetRow.holds Tryz.pinned (OpenSpec.ofChange fnExactSplitNetSpec)

/-- ITS FALSE NEIGHBOUR: 'it returns false'. Refute it at one input. -/
def fnExactSplitNetWrong : ChangeSpec := { name := "fnExactSplitNet", vars := ["loop.example/g00872/impl.arities", "loop.example/g00872/impl.dualOperators"], fn := fun _ => fun
  | [d1, d2, g1, g2] => { results := [.lit (.bool false)], args := [d1, d2], vars := [g1, g2] }
  | _ => none }
def FnExactSplitNetWrongFalsely : Prop := fnExactSplitNetRow.holds Tryz.pinned (OpenSpec.ofChange fnExactSplitNetWrong)

/-- 'laws.FnExactIsSequentialisable': WHATEVER THE INPUT: true; the input reads as it did. -/
def fnExactIsSequentialisableSpec : ChangeSpec := { name := "fnExactIsSequentialisable", vars := ["loop.example/g00872/impl.arities", "loop.example/g00872/impl.dualOperators"], fn := fun _ => fun
  | [d, g1, g2] => { results := [.lit (.bool true)], args := [d], vars := [g1, g2] }
  | _ => none }
def fnExactIsSequentialisableRow : OpenClaim := { program := "ytfdpkhiiboghiaagreatdoor", sum := "a238080c0adde1093565ba7914108fb7ad27251ae8237b314bda84fc9088d311", func := "loop.example/g00872/laws.FnExactIsSequentialisable", spec := "fnExactIsSequentialisable", unfollowed := true, recurses := true, named := ["loop.example/g00872/impl.arities", "loop.example/g00872/impl.dualOperators"], apart := false, laid := [("loop.example/g00872/impl.arities", laid_loop_example_g00872_impl_arities), ("loop.example/g00872/impl.dualOperators", laid_loop_example_g00872_impl_dualOperators)] }
def FnExactIsSequentialisableSaid : Prop := fnExactIsSequentialisableRow.holds Tryz.pinned (OpenSpec.ofChange fnExactIsSequentialisableSpec)

/-- ITS FALSE NEIGHBOUR: 'it returns false'. Refute it at one input. -/
def fnExactIsSequentialisableWrong : ChangeSpec := { name := "fnExactIsSequentialisable", vars := ["loop.example/g00872/impl.arities", "loop.example/g00872/impl.dualOperators"], fn := fun _ => fun
  | [d, g1, g2] => { results := [.lit (.bool false)], args := [d], vars := [g1, g2] }
  | _ => none }
def FnExactIsSequentialisableWrongFalsely : Prop := fnExactIsSequentialisableRow.holds Tryz.pinned (OpenSpec.ofChange fnExactIsSequentialisableWrong)

/- THE SECOND FORM. 'bulk': how many values and letters a reading holds, each counted each time it is reached (what is shared counts as often as it is met; a slice's spare places count too). A statement '..UptoSaid' is the law's where the arguments, and the package variables that the reading takes, are together of bulk at most 1048576: NARROWER than '..Said'. Prove '..Said' where nothing that the law and all that it calls make is longer than what came in: it says more and counts as full. Else prove '..UptoSaid'. A law counts once. -/
mutual
def uptoBulk {H : Type} : DataW H → Nat
  | .lit (.string bytes) => bytes.length + 1
  | .lit _ => 1
  | .nil => 1
  | .ptr d => uptoBulk d + 1
  | .slice elems spare => uptoBulkAll elems + uptoBulkAll spare + 1
  | .agg parts => uptoBulkAll parts + 1
  | .iface _ d => uptoBulk d + 1
  | .map entries => uptoBulkEntries entries + 1
  | .held _ => 1
def uptoBulkAll {H : Type} : List (DataW H) → Nat
  | [] => 0
  | d :: r => uptoBulk d + uptoBulkAll r
def uptoBulkEntries {H : Type} : List (Lit × DataW H) → Nat
  | [] => 0
  | x :: r => uptoBulkEntry x + uptoBulkEntries r
def uptoBulkEntry {H : Type} : Lit × DataW H → Nat
  | (.string bytes, d) => bytes.length + uptoBulk d + 1
  | (_, d) => uptoBulk d + 1
 end
def uptoSmall : (H : Type) → List (DataW H) → Bool := fun _ ds => decide (uptoBulkAll ds ≤ 1048576)
def OpenSpec.upto (s : _root_.Go.ChangeSpec) : _root_.Go.OpenSpec := { _root_.Go.OpenSpec.ofChange s with cond := some uptoSmall }

/-- 'laws.FnExactSubNet', WHERE WHAT IT READS IS OF BULK AT MOST 1048576: true; the input reads as it did. -/
def fnExactSubNetUptoRow : OpenClaim := { program := "ytfdpkhiiboghiaagreatdoor", sum := "a238080c0adde1093565ba7914108fb7ad27251ae8237b314bda84fc9088d311", func := "loop.example/g00872/laws.FnExactSubNet", spec := "fnExactSubNet", unfollowed := true, recurses := true, named := ["loop.example/g00872/impl.arities", "loop.example/g00872/impl.dualOperators", "math/bits.deBruijn64tab"], apart := false, laid := [("math/bits.deBruijn64tab", laid_math_bits_deBruijn64tab), ("loop.example/g00872/impl.arities", laid_loop_example_g00872_impl_arities), ("loop.example/g00872/impl.dualOperators", laid_loop_example_g00872_impl_dualOperators)], narrowed := true }
def FnExactSubNetUptoSaid : Prop := fnExactSubNetUptoRow.holds Tryz.pinned (OpenSpec.upto fnExactSubNetSpec)

/-- 'laws.FnExactBorderOf', WHERE WHAT IT READS IS OF BULK AT MOST 1048576: true; the input reads as it did. -/
def fnExactBorderOfUptoRow : OpenClaim := { program := "ytfdpkhiiboghiaagreatdoor", sum := "a238080c0adde1093565ba7914108fb7ad27251ae8237b314bda84fc9088d311", func := "loop.example/g00872/laws.FnExactBorderOf", spec := "fnExactBorderOf", unfollowed := true, recurses := true, named := ["loop.example/g00872/impl.arities", "loop.example/g00872/impl.dualOperators", "math/bits.deBruijn64tab"], apart := false, laid := [("math/bits.deBruijn64tab", laid_math_bits_deBruijn64tab), ("loop.example/g00872/impl.arities", laid_loop_example_g00872_impl_arities), ("loop.example/g00872/impl.dualOperators", laid_loop_example_g00872_impl_dualOperators)], narrowed := true }
def FnExactBorderOfUptoSaid : Prop := fnExactBorderOfUptoRow.holds Tryz.pinned (OpenSpec.upto fnExactBorderOfSpec)

/-- 'laws.FnExactIsSubnetSet', WHERE WHAT IT READS IS OF BULK AT MOST 1048576: true; the input reads as it did. -/
def fnExactIsSubnetSetUptoRow : OpenClaim := { program := "ytfdpkhiiboghiaagreatdoor", sum := "a238080c0adde1093565ba7914108fb7ad27251ae8237b314bda84fc9088d311", func := "loop.example/g00872/laws.FnExactIsSubnetSet", spec := "fnExactIsSubnetSet", unfollowed := true, recurses := true, named := ["loop.example/g00872/impl.arities", "loop.example/g00872/impl.dualOperators", "math/bits.deBruijn64tab"], apart := false, laid := [("math/bits.deBruijn64tab", laid_math_bits_deBruijn64tab), ("loop.example/g00872/impl.arities", laid_loop_example_g00872_impl_arities), ("loop.example/g00872/impl.dualOperators", laid_loop_example_g00872_impl_dualOperators)], narrowed := true }
def FnExactIsSubnetSetUptoSaid : Prop := fnExactIsSubnetSetUptoRow.holds Tryz.pinned (OpenSpec.upto fnExactIsSubnetSetSpec)

/-- 'laws.FnExactSubnetCount', WHERE WHAT IT READS IS OF BULK AT MOST 1048576: true; the input reads as it did. -/
def fnExactSubnetCountUptoRow : OpenClaim := { program := "ytfdpkhiiboghiaagreatdoor", sum := "a238080c0adde1093565ba7914108fb7ad27251ae8237b314bda84fc9088d311", func := "loop.example/g00872/laws.FnExactSubnetCount", spec := "fnExactSubnetCount", unfollowed := true, recurses := true, named := ["loop.example/g00872/impl.arities", "loop.example/g00872/impl.dualOperators", "math/bits.deBruijn64tab"], apart := false, laid := [("math/bits.deBruijn64tab", laid_math_bits_deBruijn64tab), ("loop.example/g00872/impl.arities", laid_loop_example_g00872_impl_arities), ("loop.example/g00872/impl.dualOperators", laid_loop_example_g00872_impl_dualOperators)], narrowed := true }
def FnExactSubnetCountUptoSaid : Prop := fnExactSubnetCountUptoRow.holds Tryz.pinned (OpenSpec.upto fnExactSubnetCountSpec)

/-- 'laws.FnExactKingdomOf', WHERE WHAT IT READS IS OF BULK AT MOST 1048576: true; the input reads as it did. -/
def fnExactKingdomOfUptoRow : OpenClaim := { program := "ytfdpkhiiboghiaagreatdoor", sum := "a238080c0adde1093565ba7914108fb7ad27251ae8237b314bda84fc9088d311", func := "loop.example/g00872/laws.FnExactKingdomOf", spec := "fnExactKingdomOf", unfollowed := true, recurses := true, named := ["loop.example/g00872/impl.arities", "loop.example/g00872/impl.dualOperators", "math/bits.deBruijn64tab"], apart := false, laid := [("math/bits.deBruijn64tab", laid_math_bits_deBruijn64tab), ("loop.example/g00872/impl.arities", laid_loop_example_g00872_impl_arities), ("loop.example/g00872/impl.dualOperators", laid_loop_example_g00872_impl_dualOperators)], narrowed := true }
def FnExactKingdomOfUptoSaid : Prop := fnExactKingdomOfUptoRow.holds Tryz.pinned (OpenSpec.upto fnExactKingdomOfSpec)

/-- 'laws.FnExactEmpireOf', WHERE WHAT IT READS IS OF BULK AT MOST 1048576: true; the input reads as it did. -/
def fnExactEmpireOfUptoRow : OpenClaim := { program := "ytfdpkhiiboghiaagreatdoor", sum := "a238080c0adde1093565ba7914108fb7ad27251ae8237b314bda84fc9088d311", func := "loop.example/g00872/laws.FnExactEmpireOf", spec := "fnExactEmpireOf", unfollowed := true, recurses := true, named := ["loop.example/g00872/impl.arities", "loop.example/g00872/impl.dualOperators", "math/bits.deBruijn64tab"], apart := false, laid := [("math/bits.deBruijn64tab", laid_math_bits_deBruijn64tab), ("loop.example/g00872/impl.arities", laid_loop_example_g00872_impl_arities), ("loop.example/g00872/impl.dualOperators", laid_loop_example_g00872_impl_dualOperators)], narrowed := true }
def FnExactEmpireOfUptoSaid : Prop := fnExactEmpireOfUptoRow.holds Tryz.pinned (OpenSpec.upto fnExactEmpireOfSpec)

/-- 'laws.FnExactSwitchingEmpire', WHERE WHAT IT READS IS OF BULK AT MOST 1048576: true; the input reads as it did. -/
def fnExactSwitchingEmpireUptoRow : OpenClaim := { program := "ytfdpkhiiboghiaagreatdoor", sum := "a238080c0adde1093565ba7914108fb7ad27251ae8237b314bda84fc9088d311", func := "loop.example/g00872/laws.FnExactSwitchingEmpire", spec := "fnExactSwitchingEmpire", unfollowed := true, recurses := true, named := ["loop.example/g00872/impl.arities", "loop.example/g00872/impl.dualOperators", "math/bits.deBruijn64tab"], apart := false, laid := [("math/bits.deBruijn64tab", laid_math_bits_deBruijn64tab), ("loop.example/g00872/impl.arities", laid_loop_example_g00872_impl_arities), ("loop.example/g00872/impl.dualOperators", laid_loop_example_g00872_impl_dualOperators)], narrowed := true }
def FnExactSwitchingEmpireUptoSaid : Prop := fnExactSwitchingEmpireUptoRow.holds Tryz.pinned (OpenSpec.upto fnExactSwitchingEmpireSpec)

/-- 'laws.FnExactInKingdom', WHERE WHAT IT READS IS OF BULK AT MOST 1048576: true; the input reads as it did. -/
def fnExactInKingdomUptoRow : OpenClaim := { program := "ytfdpkhiiboghiaagreatdoor", sum := "a238080c0adde1093565ba7914108fb7ad27251ae8237b314bda84fc9088d311", func := "loop.example/g00872/laws.FnExactInKingdom", spec := "fnExactInKingdom", unfollowed := true, recurses := true, named := ["loop.example/g00872/impl.arities", "loop.example/g00872/impl.dualOperators", "math/bits.deBruijn64tab"], apart := false, laid := [("math/bits.deBruijn64tab", laid_math_bits_deBruijn64tab), ("loop.example/g00872/impl.arities", laid_loop_example_g00872_impl_arities), ("loop.example/g00872/impl.dualOperators", laid_loop_example_g00872_impl_dualOperators)], narrowed := true }
def FnExactInKingdomUptoSaid : Prop := fnExactInKingdomUptoRow.holds Tryz.pinned (OpenSpec.upto fnExactInKingdomSpec)

/-- 'laws.FnExactSplitNet', WHERE WHAT IT READS IS OF BULK AT MOST 1048576: true; the input reads as it did. -/
def fnExactSplitNetUptoRow : OpenClaim := { program := "ytfdpkhiiboghiaagreatdoor", sum := "a238080c0adde1093565ba7914108fb7ad27251ae8237b314bda84fc9088d311", func := "loop.example/g00872/laws.FnExactSplitNet", spec := "fnExactSplitNet", unfollowed := true, recurses := true, named := ["loop.example/g00872/impl.arities", "loop.example/g00872/impl.dualOperators"], apart := false, laid := [("loop.example/g00872/impl.arities", laid_loop_example_g00872_impl_arities), ("loop.example/g00872/impl.dualOperators", laid_loop_example_g00872_impl_dualOperators)], narrowed := true }
def FnExactSplitNetUptoSaid : Prop := fnExactSplitNetUptoRow.holds Tryz.pinned (OpenSpec.upto fnExactSplitNetSpec)

/-- 'laws.FnExactIsSequentialisable', WHERE WHAT IT READS IS OF BULK AT MOST 1048576: true; the input reads as it did. -/
def fnExactIsSequentialisableUptoRow : OpenClaim := { program := "ytfdpkhiiboghiaagreatdoor", sum := "a238080c0adde1093565ba7914108fb7ad27251ae8237b314bda84fc9088d311", func := "loop.example/g00872/laws.FnExactIsSequentialisable", spec := "fnExactIsSequentialisable", unfollowed := true, recurses := true, named := ["loop.example/g00872/impl.arities", "loop.example/g00872/impl.dualOperators"], apart := false, laid := [("loop.example/g00872/impl.arities", laid_loop_example_g00872_impl_arities), ("loop.example/g00872/impl.dualOperators", laid_loop_example_g00872_impl_dualOperators)], narrowed := true }
def FnExactIsSequentialisableUptoSaid : Prop := fnExactIsSequentialisableUptoRow.holds Tryz.pinned (OpenSpec.upto fnExactIsSequentialisableSpec)

end Rows
end Go.Proofs.YtfdpkhiiboghiaaGreatDoor
