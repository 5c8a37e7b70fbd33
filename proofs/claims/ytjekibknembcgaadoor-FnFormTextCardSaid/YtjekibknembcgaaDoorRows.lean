/-
  NARROWER THAN 'FOR EVERY INPUT', by the rows' own cells (each row's printed sentence says how): FnFormText: laid · FnLiberal: laid · FnArrow: laid · FnSubforms: laid · FnExactFormText: laid · FnExactReadForm: laid · FnExactParseForm: laid · FnExactFormBefore: laid · FnExactSubformsOf: laid · FnExactArrowOf: laid · FnExactSymbolCount: laid · FnDual: laid · FnExactDualOf: laid.
  DERIVED. THE GIVEN ROWS OF THIS SEAT. 13 by the template 'for every input the law returns true; each argument reads behind the call as it read before'; 0 by the template 'total and deterministic' (their statements: YtjekibknembcgaaDoorTotals.lean).
  GIVEN WITH THE SEED: the statements are not yours to turn. If you find one false, say at which input.
  Laid BY PROGRAM, IN A SANDBOX (cutbox-rows.mjs): the forced cells as the released guide's own fill.sh prints them over the translation 0c69c3e64256d2b8… (all of the seat's roots in one cut). By AI agents, Wed Nov 11 2026. No macro, syntax, notation, axiom, sorry.
-/
import Derived.Test.YtjekibknembcgaaDoorChecked
import GoSem.Claim
import GoSem.ClaimJoined
import GoSem.ClaimMapViews
import Derived.JoinedTies
import Derived.KernelRfl
namespace Go.Proofs.YtjekibknembcgaaDoor
/- THE CELL 'sum', in the pinned program and in every row, IS THE sha256 OF THE DUMP (.gsa) THAT YtjekibknembcgaaDoorProg.lean LOADS. Nothing in Lean hashes anything: it is a label: what it is worth is what the hold of that sum in a sandbox is worth. -/
noncomputable def Tryd.pinned : Pinned := { name := "ytjekibknembcgaadoor", sum := "0c69c3e64256d2b8151bd2493f0a9035a2fae137565dbbc8368dd099a6e4542a", checked := Tryd.checked }
namespace Rows
def none {H : Type} : Left H := { results := [], args := [] }

/- WHAT THE LISTED PACKAGE-LEVEL VARIABLES READ AS WHEN THE CALL BEGINS. Each datum BY PROGRAM (the guide's laid-datum.mjs) off the statement by which the dump's own 'gosem.cut.vars' lays the variable. In a bare row this is a premise. The card (YtjekibknembcgaaDoorCards.lean) ties it to the program's text. -/
def laid_loop_example_g00872_impl_arities {H : Type} : DataW H := .agg [.lit (.int .i64 0), .lit (.int .i64 0), .lit (.int .i64 0), .lit (.int .i64 0), .lit (.int .i64 0), .lit (.int .i64 0), .lit (.int .i64 0), .lit (.int .i64 0), .lit (.int .i64 0), .lit (.int .i64 0), .lit (.int .i64 0), .lit (.int .i64 2), .lit (.int .i64 2), .lit (.int .i64 0), .lit (.int .i64 0), .lit (.int .i64 2), .lit (.int .i64 2), .lit (.int .i64 1), .lit (.int .i64 1)]
def laid_loop_example_g00872_impl_dualOperators {H : Type} : DataW H := .agg [.lit (.int .i64 0), .lit (.int .i64 0), .lit (.int .i64 0), .lit (.int .i64 0), .lit (.int .i64 0), .lit (.int .i64 0), .lit (.int .i64 0), .lit (.int .i64 0), .lit (.int .i64 0), .lit (.int .i64 0), .lit (.int .i64 0), .lit (.int .i64 12), .lit (.int .i64 11), .lit (.int .i64 14), .lit (.int .i64 13), .lit (.int .i64 16), .lit (.int .i64 15), .lit (.int .i64 18), .lit (.int .i64 17)]

/-- 'laws.FnFormText': WHATEVER THE INPUT: true; the input reads as it did. -/
def fnFormTextSpec : ChangeSpec := { name := "fnFormText", vars := ["loop.example/g00872/impl.arities", "loop.example/g00872/impl.dualOperators"], fn := fun _ => fun
  | [d, g1, g2] => { results := [.lit (.bool true)], args := [d], vars := [g1, g2] }
  | _ => none }
def fnFormTextRow : OpenClaim := { program := "ytjekibknembcgaadoor", sum := "0c69c3e64256d2b8151bd2493f0a9035a2fae137565dbbc8368dd099a6e4542a", func := "loop.example/g00872/laws.FnFormText", spec := "fnFormText", inPlace := ["internal/bytealg.IndexByteString"], unfollowed := true, recurses := true, named := ["loop.example/g00872/impl.arities", "loop.example/g00872/impl.dualOperators"], apart := false, laid := [("loop.example/g00872/impl.arities", laid_loop_example_g00872_impl_arities), ("loop.example/g00872/impl.dualOperators", laid_loop_example_g00872_impl_dualOperators)] }
def FnFormTextSaid : Prop := fnFormTextRow.holds Tryd.pinned (OpenSpec.ofChange fnFormTextSpec)

/-- ITS FALSE NEIGHBOUR: 'it returns false'. Refute it at one input. -/
def fnFormTextWrong : ChangeSpec := { name := "fnFormText", vars := ["loop.example/g00872/impl.arities", "loop.example/g00872/impl.dualOperators"], fn := fun _ => fun
  | [d, g1, g2] => { results := [.lit (.bool false)], args := [d], vars := [g1, g2] }
  | _ => none }
def FnFormTextWrongFalsely : Prop := fnFormTextRow.holds Tryd.pinned (OpenSpec.ofChange fnFormTextWrong)

/-- 'laws.FnLiberal': WHATEVER THE INPUT: true; the input reads as it did. -/
def fnLiberalSpec : ChangeSpec := { name := "fnLiberal", vars := ["loop.example/g00872/impl.dualOperators", "loop.example/g00872/impl.arities"], fn := fun _ => fun
  | [d, g1, g2] => { results := [.lit (.bool true)], args := [d], vars := [g1, g2] }
  | _ => none }
def fnLiberalRow : OpenClaim := { program := "ytjekibknembcgaadoor", sum := "0c69c3e64256d2b8151bd2493f0a9035a2fae137565dbbc8368dd099a6e4542a", func := "loop.example/g00872/laws.FnLiberal", spec := "fnLiberal", inPlace := ["internal/bytealg.IndexByteString"], unfollowed := true, recurses := true, named := ["loop.example/g00872/impl.dualOperators", "loop.example/g00872/impl.arities"], apart := false, laid := [("loop.example/g00872/impl.arities", laid_loop_example_g00872_impl_arities), ("loop.example/g00872/impl.dualOperators", laid_loop_example_g00872_impl_dualOperators)] }
def FnLiberalSaid : Prop := fnLiberalRow.holds Tryd.pinned (OpenSpec.ofChange fnLiberalSpec)

/-- ITS FALSE NEIGHBOUR: 'it returns false'. Refute it at one input. -/
def fnLiberalWrong : ChangeSpec := { name := "fnLiberal", vars := ["loop.example/g00872/impl.dualOperators", "loop.example/g00872/impl.arities"], fn := fun _ => fun
  | [d, g1, g2] => { results := [.lit (.bool false)], args := [d], vars := [g1, g2] }
  | _ => none }
def FnLiberalWrongFalsely : Prop := fnLiberalRow.holds Tryd.pinned (OpenSpec.ofChange fnLiberalWrong)

/-- 'laws.FnArrow': WHATEVER THE INPUT: true; the input reads as it did. -/
def fnArrowSpec : ChangeSpec := { name := "fnArrow", vars := ["loop.example/g00872/impl.arities", "loop.example/g00872/impl.dualOperators"], fn := fun _ => fun
  | [d, g1, g2] => { results := [.lit (.bool true)], args := [d], vars := [g1, g2] }
  | _ => none }
def fnArrowRow : OpenClaim := { program := "ytjekibknembcgaadoor", sum := "0c69c3e64256d2b8151bd2493f0a9035a2fae137565dbbc8368dd099a6e4542a", func := "loop.example/g00872/laws.FnArrow", spec := "fnArrow", inPlace := ["internal/bytealg.IndexByteString"], unfollowed := true, recurses := true, named := ["loop.example/g00872/impl.arities", "loop.example/g00872/impl.dualOperators"], apart := false, laid := [("loop.example/g00872/impl.arities", laid_loop_example_g00872_impl_arities), ("loop.example/g00872/impl.dualOperators", laid_loop_example_g00872_impl_dualOperators)] }
def FnArrowSaid : Prop := fnArrowRow.holds Tryd.pinned (OpenSpec.ofChange fnArrowSpec)

/-- ITS FALSE NEIGHBOUR: 'it returns false'. Refute it at one input. -/
def fnArrowWrong : ChangeSpec := { name := "fnArrow", vars := ["loop.example/g00872/impl.arities", "loop.example/g00872/impl.dualOperators"], fn := fun _ => fun
  | [d, g1, g2] => { results := [.lit (.bool false)], args := [d], vars := [g1, g2] }
  | _ => none }
def FnArrowWrongFalsely : Prop := fnArrowRow.holds Tryd.pinned (OpenSpec.ofChange fnArrowWrong)

/-- 'laws.FnSubforms': WHATEVER THE INPUT: true; the input reads as it did. -/
def fnSubformsSpec : ChangeSpec := { name := "fnSubforms", vars := ["loop.example/g00872/impl.arities"], fn := fun _ => fun
  | [d, g1] => { results := [.lit (.bool true)], args := [d], vars := [g1] }
  | _ => none }
def fnSubformsRow : OpenClaim := { program := "ytjekibknembcgaadoor", sum := "0c69c3e64256d2b8151bd2493f0a9035a2fae137565dbbc8368dd099a6e4542a", func := "loop.example/g00872/laws.FnSubforms", spec := "fnSubforms", unfollowed := true, recurses := true, named := ["loop.example/g00872/impl.arities"], apart := false, laid := [("loop.example/g00872/impl.arities", laid_loop_example_g00872_impl_arities)] }
def FnSubformsSaid : Prop := fnSubformsRow.holds Tryd.pinned (OpenSpec.ofChange fnSubformsSpec)

/-- ITS FALSE NEIGHBOUR: 'it returns false'. Refute it at one input. -/
def fnSubformsWrong : ChangeSpec := { name := "fnSubforms", vars := ["loop.example/g00872/impl.arities"], fn := fun _ => fun
  | [d, g1] => { results := [.lit (.bool false)], args := [d], vars := [g1] }
  | _ => none }
def FnSubformsWrongFalsely : Prop := fnSubformsRow.holds Tryd.pinned (OpenSpec.ofChange fnSubformsWrong)

/-- 'laws.FnExactFormText': WHATEVER THE INPUT: true; the input reads as it did. -/
def fnExactFormTextSpec : ChangeSpec := { name := "fnExactFormText", vars := ["loop.example/g00872/impl.arities"], fn := fun _ => fun
  | [d, g1] => { results := [.lit (.bool true)], args := [d], vars := [g1] }
  | _ => none }
def fnExactFormTextRow : OpenClaim := { program := "ytjekibknembcgaadoor", sum := "0c69c3e64256d2b8151bd2493f0a9035a2fae137565dbbc8368dd099a6e4542a", func := "loop.example/g00872/laws.FnExactFormText", spec := "fnExactFormText", recurses := true, named := ["loop.example/g00872/impl.arities"], apart := false, laid := [("loop.example/g00872/impl.arities", laid_loop_example_g00872_impl_arities)] }
def FnExactFormTextSaid : Prop := fnExactFormTextRow.holds Tryd.pinned (OpenSpec.ofChange fnExactFormTextSpec)

/-- ITS FALSE NEIGHBOUR: 'it returns false'. Refute it at one input. -/
def fnExactFormTextWrong : ChangeSpec := { name := "fnExactFormText", vars := ["loop.example/g00872/impl.arities"], fn := fun _ => fun
  | [d, g1] => { results := [.lit (.bool false)], args := [d], vars := [g1] }
  | _ => none }
def FnExactFormTextWrongFalsely : Prop := fnExactFormTextRow.holds Tryd.pinned (OpenSpec.ofChange fnExactFormTextWrong)

/-- 'laws.FnExactReadForm': WHATEVER THE INPUT: true; the input reads as it did. -/
def fnExactReadFormSpec : ChangeSpec := { name := "fnExactReadForm", vars := ["loop.example/g00872/impl.dualOperators", "loop.example/g00872/impl.arities"], fn := fun _ => fun
  | [d, g1, g2] => { results := [.lit (.bool true)], args := [d], vars := [g1, g2] }
  | _ => none }
def fnExactReadFormRow : OpenClaim := { program := "ytjekibknembcgaadoor", sum := "0c69c3e64256d2b8151bd2493f0a9035a2fae137565dbbc8368dd099a6e4542a", func := "loop.example/g00872/laws.FnExactReadForm", spec := "fnExactReadForm", inPlace := ["internal/bytealg.IndexByteString"], unfollowed := true, recurses := true, named := ["loop.example/g00872/impl.dualOperators", "loop.example/g00872/impl.arities"], apart := false, laid := [("loop.example/g00872/impl.arities", laid_loop_example_g00872_impl_arities), ("loop.example/g00872/impl.dualOperators", laid_loop_example_g00872_impl_dualOperators)] }
def FnExactReadFormSaid : Prop := fnExactReadFormRow.holds Tryd.pinned (OpenSpec.ofChange fnExactReadFormSpec)

/-- ITS FALSE NEIGHBOUR: 'it returns false'. Refute it at one input. -/
def fnExactReadFormWrong : ChangeSpec := { name := "fnExactReadForm", vars := ["loop.example/g00872/impl.dualOperators", "loop.example/g00872/impl.arities"], fn := fun _ => fun
  | [d, g1, g2] => { results := [.lit (.bool false)], args := [d], vars := [g1, g2] }
  | _ => none }
def FnExactReadFormWrongFalsely : Prop := fnExactReadFormRow.holds Tryd.pinned (OpenSpec.ofChange fnExactReadFormWrong)

/-- 'laws.FnExactParseForm': WHATEVER THE INPUT: true; the input reads as it did. -/
def fnExactParseFormSpec : ChangeSpec := { name := "fnExactParseForm", vars := ["loop.example/g00872/impl.dualOperators", "loop.example/g00872/impl.arities"], fn := fun _ => fun
  | [d, g1, g2] => { results := [.lit (.bool true)], args := [d], vars := [g1, g2] }
  | _ => none }
def fnExactParseFormRow : OpenClaim := { program := "ytjekibknembcgaadoor", sum := "0c69c3e64256d2b8151bd2493f0a9035a2fae137565dbbc8368dd099a6e4542a", func := "loop.example/g00872/laws.FnExactParseForm", spec := "fnExactParseForm", inPlace := ["internal/bytealg.IndexByteString"], unfollowed := true, recurses := true, named := ["loop.example/g00872/impl.dualOperators", "loop.example/g00872/impl.arities"], apart := false, laid := [("loop.example/g00872/impl.arities", laid_loop_example_g00872_impl_arities), ("loop.example/g00872/impl.dualOperators", laid_loop_example_g00872_impl_dualOperators)] }
def FnExactParseFormSaid : Prop := fnExactParseFormRow.holds Tryd.pinned (OpenSpec.ofChange fnExactParseFormSpec)

/-- ITS FALSE NEIGHBOUR: 'it returns false'. Refute it at one input. -/
def fnExactParseFormWrong : ChangeSpec := { name := "fnExactParseForm", vars := ["loop.example/g00872/impl.dualOperators", "loop.example/g00872/impl.arities"], fn := fun _ => fun
  | [d, g1, g2] => { results := [.lit (.bool false)], args := [d], vars := [g1, g2] }
  | _ => none }
def FnExactParseFormWrongFalsely : Prop := fnExactParseFormRow.holds Tryd.pinned (OpenSpec.ofChange fnExactParseFormWrong)

/-- 'laws.FnExactFormBefore': WHATEVER THE INPUT: true; the input reads as it did. -/
def fnExactFormBeforeSpec : ChangeSpec := { name := "fnExactFormBefore", vars := ["loop.example/g00872/impl.arities"], fn := fun _ => fun
  | [d1, d2, g1] => { results := [.lit (.bool true)], args := [d1, d2], vars := [g1] }
  | _ => none }
def fnExactFormBeforeRow : OpenClaim := { program := "ytjekibknembcgaadoor", sum := "0c69c3e64256d2b8151bd2493f0a9035a2fae137565dbbc8368dd099a6e4542a", func := "loop.example/g00872/laws.FnExactFormBefore", spec := "fnExactFormBefore", named := ["loop.example/g00872/impl.arities"], apart := false, laid := [("loop.example/g00872/impl.arities", laid_loop_example_g00872_impl_arities)] }
def FnExactFormBeforeSaid : Prop := fnExactFormBeforeRow.holds Tryd.pinned (OpenSpec.ofChange fnExactFormBeforeSpec)

/-- ITS FALSE NEIGHBOUR: 'it returns false'. Refute it at one input. -/
def fnExactFormBeforeWrong : ChangeSpec := { name := "fnExactFormBefore", vars := ["loop.example/g00872/impl.arities"], fn := fun _ => fun
  | [d1, d2, g1] => { results := [.lit (.bool false)], args := [d1, d2], vars := [g1] }
  | _ => none }
def FnExactFormBeforeWrongFalsely : Prop := fnExactFormBeforeRow.holds Tryd.pinned (OpenSpec.ofChange fnExactFormBeforeWrong)

/-- 'laws.FnExactSubformsOf': WHATEVER THE INPUT: true; the input reads as it did. -/
def fnExactSubformsOfSpec : ChangeSpec := { name := "fnExactSubformsOf", vars := ["loop.example/g00872/impl.arities"], fn := fun _ => fun
  | [d, g1] => { results := [.lit (.bool true)], args := [d], vars := [g1] }
  | _ => none }
def fnExactSubformsOfRow : OpenClaim := { program := "ytjekibknembcgaadoor", sum := "0c69c3e64256d2b8151bd2493f0a9035a2fae137565dbbc8368dd099a6e4542a", func := "loop.example/g00872/laws.FnExactSubformsOf", spec := "fnExactSubformsOf", unfollowed := true, recurses := true, named := ["loop.example/g00872/impl.arities"], apart := false, laid := [("loop.example/g00872/impl.arities", laid_loop_example_g00872_impl_arities)] }
def FnExactSubformsOfSaid : Prop := fnExactSubformsOfRow.holds Tryd.pinned (OpenSpec.ofChange fnExactSubformsOfSpec)

/-- ITS FALSE NEIGHBOUR: 'it returns false'. Refute it at one input. -/
def fnExactSubformsOfWrong : ChangeSpec := { name := "fnExactSubformsOf", vars := ["loop.example/g00872/impl.arities"], fn := fun _ => fun
  | [d, g1] => { results := [.lit (.bool false)], args := [d], vars := [g1] }
  | _ => none }
def FnExactSubformsOfWrongFalsely : Prop := fnExactSubformsOfRow.holds Tryd.pinned (OpenSpec.ofChange fnExactSubformsOfWrong)

/-- 'laws.FnExactArrowOf': WHATEVER THE INPUT: true; the input reads as it did. -/
def fnExactArrowOfSpec : ChangeSpec := { name := "fnExactArrowOf", vars := ["loop.example/g00872/impl.arities", "loop.example/g00872/impl.dualOperators"], fn := fun _ => fun
  | [d1, d2, g1, g2] => { results := [.lit (.bool true)], args := [d1, d2], vars := [g1, g2] }
  | _ => none }
def fnExactArrowOfRow : OpenClaim := { program := "ytjekibknembcgaadoor", sum := "0c69c3e64256d2b8151bd2493f0a9035a2fae137565dbbc8368dd099a6e4542a", func := "loop.example/g00872/laws.FnExactArrowOf", spec := "fnExactArrowOf", named := ["loop.example/g00872/impl.arities", "loop.example/g00872/impl.dualOperators"], apart := false, laid := [("loop.example/g00872/impl.arities", laid_loop_example_g00872_impl_arities), ("loop.example/g00872/impl.dualOperators", laid_loop_example_g00872_impl_dualOperators)] }
def FnExactArrowOfSaid : Prop := fnExactArrowOfRow.holds Tryd.pinned (OpenSpec.ofChange fnExactArrowOfSpec)

/-- ITS FALSE NEIGHBOUR: 'it returns false'. Refute it at one input. -/
def fnExactArrowOfWrong : ChangeSpec := { name := "fnExactArrowOf", vars := ["loop.example/g00872/impl.arities", "loop.example/g00872/impl.dualOperators"], fn := fun _ => fun
  | [d1, d2, g1, g2] => { results := [.lit (.bool false)], args := [d1, d2], vars := [g1, g2] }
  | _ => none }
def FnExactArrowOfWrongFalsely : Prop := fnExactArrowOfRow.holds Tryd.pinned (OpenSpec.ofChange fnExactArrowOfWrong)

/-- 'laws.FnExactSymbolCount': WHATEVER THE INPUT: true; the input reads as it did. -/
def fnExactSymbolCountSpec : ChangeSpec := { name := "fnExactSymbolCount", vars := ["loop.example/g00872/impl.arities"], fn := fun _ => fun
  | [d1, d2, g1] => { results := [.lit (.bool true)], args := [d1, d2], vars := [g1] }
  | _ => none }
def fnExactSymbolCountRow : OpenClaim := { program := "ytjekibknembcgaadoor", sum := "0c69c3e64256d2b8151bd2493f0a9035a2fae137565dbbc8368dd099a6e4542a", func := "loop.example/g00872/laws.FnExactSymbolCount", spec := "fnExactSymbolCount", named := ["loop.example/g00872/impl.arities"], apart := false, laid := [("loop.example/g00872/impl.arities", laid_loop_example_g00872_impl_arities)] }
def FnExactSymbolCountSaid : Prop := fnExactSymbolCountRow.holds Tryd.pinned (OpenSpec.ofChange fnExactSymbolCountSpec)

/-- ITS FALSE NEIGHBOUR: 'it returns false'. Refute it at one input. -/
def fnExactSymbolCountWrong : ChangeSpec := { name := "fnExactSymbolCount", vars := ["loop.example/g00872/impl.arities"], fn := fun _ => fun
  | [d1, d2, g1] => { results := [.lit (.bool false)], args := [d1, d2], vars := [g1] }
  | _ => none }
def FnExactSymbolCountWrongFalsely : Prop := fnExactSymbolCountRow.holds Tryd.pinned (OpenSpec.ofChange fnExactSymbolCountWrong)

/-- 'laws.FnDual': WHATEVER THE INPUT: true; the input reads as it did. -/
def fnDualSpec : ChangeSpec := { name := "fnDual", vars := ["loop.example/g00872/impl.arities", "loop.example/g00872/impl.dualOperators"], fn := fun _ => fun
  | [d, g1, g2] => { results := [.lit (.bool true)], args := [d], vars := [g1, g2] }
  | _ => none }
def fnDualRow : OpenClaim := { program := "ytjekibknembcgaadoor", sum := "0c69c3e64256d2b8151bd2493f0a9035a2fae137565dbbc8368dd099a6e4542a", func := "loop.example/g00872/laws.FnDual", spec := "fnDual", recurses := true, named := ["loop.example/g00872/impl.arities", "loop.example/g00872/impl.dualOperators"], apart := false, laid := [("loop.example/g00872/impl.arities", laid_loop_example_g00872_impl_arities), ("loop.example/g00872/impl.dualOperators", laid_loop_example_g00872_impl_dualOperators)] }
def FnDualSaid : Prop := fnDualRow.holds Tryd.pinned (OpenSpec.ofChange fnDualSpec)

/-- ITS FALSE NEIGHBOUR: 'it returns false'. Refute it at one input. -/
def fnDualWrong : ChangeSpec := { name := "fnDual", vars := ["loop.example/g00872/impl.arities", "loop.example/g00872/impl.dualOperators"], fn := fun _ => fun
  | [d, g1, g2] => { results := [.lit (.bool false)], args := [d], vars := [g1, g2] }
  | _ => none }
def FnDualWrongFalsely : Prop := fnDualRow.holds Tryd.pinned (OpenSpec.ofChange fnDualWrong)

/-- 'laws.FnExactDualOf': WHATEVER THE INPUT: true; the input reads as it did. -/
def fnExactDualOfSpec : ChangeSpec := { name := "fnExactDualOf", vars := ["loop.example/g00872/impl.arities", "loop.example/g00872/impl.dualOperators"], fn := fun _ => fun
  | [d, g1, g2] => { results := [.lit (.bool true)], args := [d], vars := [g1, g2] }
  | _ => none }
def fnExactDualOfRow : OpenClaim := { program := "ytjekibknembcgaadoor", sum := "0c69c3e64256d2b8151bd2493f0a9035a2fae137565dbbc8368dd099a6e4542a", func := "loop.example/g00872/laws.FnExactDualOf", spec := "fnExactDualOf", named := ["loop.example/g00872/impl.arities", "loop.example/g00872/impl.dualOperators"], apart := false, laid := [("loop.example/g00872/impl.arities", laid_loop_example_g00872_impl_arities), ("loop.example/g00872/impl.dualOperators", laid_loop_example_g00872_impl_dualOperators)] }
def FnExactDualOfSaid : Prop := fnExactDualOfRow.holds Tryd.pinned (OpenSpec.ofChange fnExactDualOfSpec)

/-- ITS FALSE NEIGHBOUR: 'it returns false'. Refute it at one input. -/
def fnExactDualOfWrong : ChangeSpec := { name := "fnExactDualOf", vars := ["loop.example/g00872/impl.arities", "loop.example/g00872/impl.dualOperators"], fn := fun _ => fun
  | [d, g1, g2] => { results := [.lit (.bool false)], args := [d], vars := [g1, g2] }
  | _ => none }
def FnExactDualOfWrongFalsely : Prop := fnExactDualOfRow.holds Tryd.pinned (OpenSpec.ofChange fnExactDualOfWrong)

/- THE SECOND FORM. 'bulk': how many values and letters a reading holds, each counted each time it is reached (what is shared counts as often as it is met; a slice's spare places count too). A statement '..UptoSaid' is the law's where the arguments, and the package variables that the reading takes, are together of bulk at most 1048576: NARROWER than '..Said'. Prove '..Said' where nothing that the law and all that it calls make is longer than what came in: it says more and counts as full. Else prove '..UptoSaid'. A law counts once. -/
mutual
def uptoBulk {H : Type} : DataW H → Nat
  | .lit (.string bytes) => bytes.length + 1
  | .lit _ => 1
  | .nil => 1
  | .ptr d => uptoBulk d + 1
  | .slice elems spare => uptoBulkAll elems + uptoBulkAll spare + 1
  | .agg parts => uptoBulkAll parts + 1
  | .iface _ d => uptoBulk d + 1
  | .map entries => uptoBulkEntries entries + 1
  | .held _ => 1
def uptoBulkAll {H : Type} : List (DataW H) → Nat
  | [] => 0
  | d :: r => uptoBulk d + uptoBulkAll r
def uptoBulkEntries {H : Type} : List (Lit × DataW H) → Nat
  | [] => 0
  | x :: r => uptoBulkEntry x + uptoBulkEntries r
def uptoBulkEntry {H : Type} : Lit × DataW H → Nat
  | (.string bytes, d) => bytes.length + uptoBulk d + 1
  | (_, d) => uptoBulk d + 1
 end
def uptoSmall : (H : Type) → List (DataW H) → Bool := fun _ ds => decide (uptoBulkAll ds ≤ 1048576)
def OpenSpec.upto (s : _root_.Go.ChangeSpec) : _root_.Go.OpenSpec := { _root_.Go.OpenSpec.ofChange s with cond := some uptoSmall }

/-- 'laws.FnFormText', WHERE WHAT IT READS IS OF BULK AT MOST 1048576: true; the input reads as it did. -/
def fnFormTextUptoRow : OpenClaim := { program := "ytjekibknembcgaadoor", sum := "0c69c3e64256d2b8151bd2493f0a9035a2fae137565dbbc8368dd099a6e4542a", func := "loop.example/g00872/laws.FnFormText", spec := "fnFormText", inPlace := ["internal/bytealg.IndexByteString"], unfollowed := true, recurses := true, named := ["loop.example/g00872/impl.arities", "loop.example/g00872/impl.dualOperators"], apart := false, laid := [("loop.example/g00872/impl.arities", laid_loop_example_g00872_impl_arities), ("loop.example/g00872/impl.dualOperators", laid_loop_example_g00872_impl_dualOperators)], narrowed := true }
def FnFormTextUptoSaid : Prop := fnFormTextUptoRow.holds Tryd.pinned (OpenSpec.upto fnFormTextSpec)

/-- 'laws.FnLiberal', WHERE WHAT IT READS IS OF BULK AT MOST 1048576: true; the input reads as it did. -/
def fnLiberalUptoRow : OpenClaim := { program := "ytjekibknembcgaadoor", sum := "0c69c3e64256d2b8151bd2493f0a9035a2fae137565dbbc8368dd099a6e4542a", func := "loop.example/g00872/laws.FnLiberal", spec := "fnLiberal", inPlace := ["internal/bytealg.IndexByteString"], unfollowed := true, recurses := true, named := ["loop.example/g00872/impl.dualOperators", "loop.example/g00872/impl.arities"], apart := false, laid := [("loop.example/g00872/impl.arities", laid_loop_example_g00872_impl_arities), ("loop.example/g00872/impl.dualOperators", laid_loop_example_g00872_impl_dualOperators)], narrowed := true }
def FnLiberalUptoSaid : Prop := fnLiberalUptoRow.holds Tryd.pinned (OpenSpec.upto fnLiberalSpec)

/-- 'laws.FnArrow', WHERE WHAT IT READS IS OF BULK AT MOST 1048576: true; the input reads as it did. -/
def fnArrowUptoRow : OpenClaim := { program := "ytjekibknembcgaadoor", sum := "0c69c3e64256d2b8151bd2493f0a9035a2fae137565dbbc8368dd099a6e4542a", func := "loop.example/g00872/laws.FnArrow", spec := "fnArrow", inPlace := ["internal/bytealg.IndexByteString"], unfollowed := true, recurses := true, named := ["loop.example/g00872/impl.arities", "loop.example/g00872/impl.dualOperators"], apart := false, laid := [("loop.example/g00872/impl.arities", laid_loop_example_g00872_impl_arities), ("loop.example/g00872/impl.dualOperators", laid_loop_example_g00872_impl_dualOperators)], narrowed := true }
def FnArrowUptoSaid : Prop := fnArrowUptoRow.holds Tryd.pinned (OpenSpec.upto fnArrowSpec)

/-- 'laws.FnSubforms', WHERE WHAT IT READS IS OF BULK AT MOST 1048576: true; the input reads as it did. -/
def fnSubformsUptoRow : OpenClaim := { program := "ytjekibknembcgaadoor", sum := "0c69c3e64256d2b8151bd2493f0a9035a2fae137565dbbc8368dd099a6e4542a", func := "loop.example/g00872/laws.FnSubforms", spec := "fnSubforms", unfollowed := true, recurses := true, named := ["loop.example/g00872/impl.arities"], apart := false, laid := [("loop.example/g00872/impl.arities", laid_loop_example_g00872_impl_arities)], narrowed := true }
def FnSubformsUptoSaid : Prop := fnSubformsUptoRow.holds Tryd.pinned (OpenSpec.upto fnSubformsSpec)

/-- 'laws.FnExactFormText', WHERE WHAT IT READS IS OF BULK AT MOST 1048576: true; the input reads as it did. -/
def fnExactFormTextUptoRow : OpenClaim := { program := "ytjekibknembcgaadoor", sum := "0c69c3e64256d2b8151bd2493f0a9035a2fae137565dbbc8368dd099a6e4542a", func := "loop.example/g00872/laws.FnExactFormText", spec := "fnExactFormText", recurses := true, named := ["loop.example/g00872/impl.arities"], apart := false, laid := [("loop.example/g00872/impl.arities", laid_loop_example_g00872_impl_arities)], narrowed := true }
def FnExactFormTextUptoSaid : Prop := fnExactFormTextUptoRow.holds Tryd.pinned (OpenSpec.upto fnExactFormTextSpec)

/-- 'laws.FnExactReadForm', WHERE WHAT IT READS IS OF BULK AT MOST 1048576: true; the input reads as it did. -/
def fnExactReadFormUptoRow : OpenClaim := { program := "ytjekibknembcgaadoor", sum := "0c69c3e64256d2b8151bd2493f0a9035a2fae137565dbbc8368dd099a6e4542a", func := "loop.example/g00872/laws.FnExactReadForm", spec := "fnExactReadForm", inPlace := ["internal/bytealg.IndexByteString"], unfollowed := true, recurses := true, named := ["loop.example/g00872/impl.dualOperators", "loop.example/g00872/impl.arities"], apart := false, laid := [("loop.example/g00872/impl.arities", laid_loop_example_g00872_impl_arities), ("loop.example/g00872/impl.dualOperators", laid_loop_example_g00872_impl_dualOperators)], narrowed := true }
def FnExactReadFormUptoSaid : Prop := fnExactReadFormUptoRow.holds Tryd.pinned (OpenSpec.upto fnExactReadFormSpec)

/-- 'laws.FnExactParseForm', WHERE WHAT IT READS IS OF BULK AT MOST 1048576: true; the input reads as it did. -/
def fnExactParseFormUptoRow : OpenClaim := { program := "ytjekibknembcgaadoor", sum := "0c69c3e64256d2b8151bd2493f0a9035a2fae137565dbbc8368dd099a6e4542a", func := "loop.example/g00872/laws.FnExactParseForm", spec := "fnExactParseForm", inPlace := ["internal/bytealg.IndexByteString"], unfollowed := true, recurses := true, named := ["loop.example/g00872/impl.dualOperators", "loop.example/g00872/impl.arities"], apart := false, laid := [("loop.example/g00872/impl.arities", laid_loop_example_g00872_impl_arities), ("loop.example/g00872/impl.dualOperators", laid_loop_example_g00872_impl_dualOperators)], narrowed := true }
def FnExactParseFormUptoSaid : Prop := fnExactParseFormUptoRow.holds Tryd.pinned (OpenSpec.upto fnExactParseFormSpec)

/-- 'laws.FnExactFormBefore', WHERE WHAT IT READS IS OF BULK AT MOST 1048576: true; the input reads as it did. -/
def fnExactFormBeforeUptoRow : OpenClaim := { program := "ytjekibknembcgaadoor", sum := "0c69c3e64256d2b8151bd2493f0a9035a2fae137565dbbc8368dd099a6e4542a", func := "loop.example/g00872/laws.FnExactFormBefore", spec := "fnExactFormBefore", named := ["loop.example/g00872/impl.arities"], apart := false, laid := [("loop.example/g00872/impl.arities", laid_loop_example_g00872_impl_arities)], narrowed := true }
def FnExactFormBeforeUptoSaid : Prop := fnExactFormBeforeUptoRow.holds Tryd.pinned (OpenSpec.upto fnExactFormBeforeSpec)

/-- 'laws.FnExactSubformsOf', WHERE WHAT IT READS IS OF BULK AT MOST 1048576: true; the input reads as it did. -/
def fnExactSubformsOfUptoRow : OpenClaim := { program := "ytjekibknembcgaadoor", sum := "0c69c3e64256d2b8151bd2493f0a9035a2fae137565dbbc8368dd099a6e4542a", func := "loop.example/g00872/laws.FnExactSubformsOf", spec := "fnExactSubformsOf", unfollowed := true, recurses := true, named := ["loop.example/g00872/impl.arities"], apart := false, laid := [("loop.example/g00872/impl.arities", laid_loop_example_g00872_impl_arities)], narrowed := true }
def FnExactSubformsOfUptoSaid : Prop := fnExactSubformsOfUptoRow.holds Tryd.pinned (OpenSpec.upto fnExactSubformsOfSpec)

/-- 'laws.FnExactArrowOf', WHERE WHAT IT READS IS OF BULK AT MOST 1048576: true; the input reads as it did. -/
def fnExactArrowOfUptoRow : OpenClaim := { program := "ytjekibknembcgaadoor", sum := "0c69c3e64256d2b8151bd2493f0a9035a2fae137565dbbc8368dd099a6e4542a", func := "loop.example/g00872/laws.FnExactArrowOf", spec := "fnExactArrowOf", named := ["loop.example/g00872/impl.arities", "loop.example/g00872/impl.dualOperators"], apart := false, laid := [("loop.example/g00872/impl.arities", laid_loop_example_g00872_impl_arities), ("loop.example/g00872/impl.dualOperators", laid_loop_example_g00872_impl_dualOperators)], narrowed := true }
def FnExactArrowOfUptoSaid : Prop := fnExactArrowOfUptoRow.holds Tryd.pinned (OpenSpec.upto fnExactArrowOfSpec)

/-- 'laws.FnExactSymbolCount', WHERE WHAT IT READS IS OF BULK AT MOST 1048576: true; the input reads as it did. -/
def fnExactSymbolCountUptoRow : OpenClaim := { program := "ytjekibknembcgaadoor", sum := "0c69c3e64256d2b8151bd2493f0a9035a2fae137565dbbc8368dd099a6e4542a", func := "loop.example/g00872/laws.FnExactSymbolCount", spec := "fnExactSymbolCount", named := ["loop.example/g00872/impl.arities"], apart := false, laid := [("loop.example/g00872/impl.arities", laid_loop_example_g00872_impl_arities)], narrowed := true }
def FnExactSymbolCountUptoSaid : Prop := fnExactSymbolCountUptoRow.holds Tryd.pinned (OpenSpec.upto fnExactSymbolCountSpec)

/-- 'laws.FnDual', WHERE WHAT IT READS IS OF BULK AT MOST 1048576: true; the input reads as it did. -/
def fnDualUptoRow : OpenClaim := { program := "ytjekibknembcgaadoor", sum := "0c69c3e64256d2b8151bd2493f0a9035a2fae137565dbbc8368dd099a6e4542a", func := "loop.example/g00872/laws.FnDual", spec := "fnDual", recurses := true, named := ["loop.example/g00872/impl.arities", "loop.example/g00872/impl.dualOperators"], apart := false, laid := [("loop.example/g00872/impl.arities", laid_loop_example_g00872_impl_arities), ("loop.example/g00872/impl.dualOperators", laid_loop_example_g00872_impl_dualOperators)], narrowed := true }
def FnDualUptoSaid : Prop := fnDualUptoRow.holds Tryd.pinned (OpenSpec.upto fnDualSpec)

/-- 'laws.FnExactDualOf', WHERE WHAT IT READS IS OF BULK AT MOST 1048576: true; the input reads as it did. -/
def fnExactDualOfUptoRow : OpenClaim := { program := "ytjekibknembcgaadoor", sum := "0c69c3e64256d2b8151bd2493f0a9035a2fae137565dbbc8368dd099a6e4542a", func := "loop.example/g00872/laws.FnExactDualOf", spec := "fnExactDualOf", named := ["loop.example/g00872/impl.arities", "loop.example/g00872/impl.dualOperators"], apart := false, laid := [("loop.example/g00872/impl.arities", laid_loop_example_g00872_impl_arities), ("loop.example/g00872/impl.dualOperators", laid_loop_example_g00872_impl_dualOperators)], narrowed := true }
def FnExactDualOfUptoSaid : Prop := fnExactDualOfUptoRow.holds Tryd.pinned (OpenSpec.upto fnExactDualOfSpec)

end Rows
end Go.Proofs.YtjekibknembcgaaDoor
