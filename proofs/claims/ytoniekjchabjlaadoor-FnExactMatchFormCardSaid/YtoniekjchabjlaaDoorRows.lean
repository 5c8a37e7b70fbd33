/-
  NARROWER THAN 'FOR EVERY INPUT', by the rows' own cells (each row's printed sentence says how): FnSubstDual: laid · FnMatch: laid · FnComposed: laid · FnExactIsBinding: laid · FnExactSubstForm: laid · FnExactSubstSeq: laid · FnExactMatchForm: laid · FnExactComposedBindings: laid.
  DERIVED. THE GIVEN ROWS OF THIS SEAT. 8 by the template 'for every input the law returns true; each argument reads behind the call as it read before'; 0 by the template 'total and deterministic' (their statements: YtoniekjchabjlaaDoorTotals.lean).
  GIVEN WITH THE SEED: the statements are not yours to turn. If you find one false, say at which input.
  Laid BY PROGRAM, IN A SANDBOX (cutbox-rows.mjs): the forced cells as the released guide's own fill.sh prints them over the translation 30a335f985a9289c… (all of the seat's roots in one cut). By AI agents, Wed Nov 11 2026. No macro, syntax, notation, axiom, sorry.
-/
import Derived.Test.YtoniekjchabjlaaDoorChecked
import GoSem.Claim
import GoSem.ClaimJoined
import GoSem.ClaimMapViews
import Derived.JoinedTies
import Derived.KernelRfl
namespace Go.Proofs.YtoniekjchabjlaaDoor
/- THE CELL 'sum', in the pinned program and in every row, IS THE sha256 OF THE DUMP (.gsa) THAT YtoniekjchabjlaaDoorProg.lean LOADS. Nothing in Lean hashes anything: it is a label: what it is worth is what the hold of that sum in a sandbox is worth. -/
noncomputable def Tryd.pinned : Pinned := { name := "ytoniekjchabjlaadoor", sum := "30a335f985a9289ce38778bcfab4dd455fff2ad9cf9c1ca35d4119702298abdb", checked := Tryd.checked }
namespace Rows
def none {H : Type} : Left H := { results := [], args := [] }

/- WHAT THE LISTED PACKAGE-LEVEL VARIABLES READ AS WHEN THE CALL BEGINS. Each datum BY PROGRAM (the guide's laid-datum.mjs) off the statement by which the dump's own 'gosem.cut.vars' lays the variable. In a bare row this is a premise. The card (YtoniekjchabjlaaDoorCards.lean) ties it to the program's text. -/
def laid_loop_example_g00872_impl_arities {H : Type} : DataW H := .agg [.lit (.int .i64 0), .lit (.int .i64 0), .lit (.int .i64 0), .lit (.int .i64 0), .lit (.int .i64 0), .lit (.int .i64 0), .lit (.int .i64 0), .lit (.int .i64 0), .lit (.int .i64 0), .lit (.int .i64 0), .lit (.int .i64 0), .lit (.int .i64 2), .lit (.int .i64 2), .lit (.int .i64 0), .lit (.int .i64 0), .lit (.int .i64 2), .lit (.int .i64 2), .lit (.int .i64 1), .lit (.int .i64 1)]
def laid_loop_example_g00872_impl_dualOperators {H : Type} : DataW H := .agg [.lit (.int .i64 0), .lit (.int .i64 0), .lit (.int .i64 0), .lit (.int .i64 0), .lit (.int .i64 0), .lit (.int .i64 0), .lit (.int .i64 0), .lit (.int .i64 0), .lit (.int .i64 0), .lit (.int .i64 0), .lit (.int .i64 0), .lit (.int .i64 12), .lit (.int .i64 11), .lit (.int .i64 14), .lit (.int .i64 13), .lit (.int .i64 16), .lit (.int .i64 15), .lit (.int .i64 18), .lit (.int .i64 17)]

/-- 'laws.FnSubstDual': WHATEVER THE INPUT: true; the input reads as it did. -/
def fnSubstDualSpec : ChangeSpec := { name := "fnSubstDual", vars := ["loop.example/g00872/impl.arities", "loop.example/g00872/impl.dualOperators"], fn := fun _ => fun
  | [d, g1, g2] => { results := [.lit (.bool true)], args := [d], vars := [g1, g2] }
  | _ => none }
def fnSubstDualRow : OpenClaim := { program := "ytoniekjchabjlaadoor", sum := "30a335f985a9289ce38778bcfab4dd455fff2ad9cf9c1ca35d4119702298abdb", func := "loop.example/g00872/laws.FnSubstDual", spec := "fnSubstDual", recurses := true, named := ["loop.example/g00872/impl.arities", "loop.example/g00872/impl.dualOperators"], apart := false, laid := [("loop.example/g00872/impl.arities", laid_loop_example_g00872_impl_arities), ("loop.example/g00872/impl.dualOperators", laid_loop_example_g00872_impl_dualOperators)] }
def FnSubstDualSaid : Prop := fnSubstDualRow.holds Tryd.pinned (OpenSpec.ofChange fnSubstDualSpec)

/-- ITS FALSE NEIGHBOUR: 'it returns false'. Refute it at one input. -/
def fnSubstDualWrong : ChangeSpec := { name := "fnSubstDual", vars := ["loop.example/g00872/impl.arities", "loop.example/g00872/impl.dualOperators"], fn := fun _ => fun
  | [d, g1, g2] => { results := [.lit (.bool false)], args := [d], vars := [g1, g2] }
  | _ => none }
def FnSubstDualWrongFalsely : Prop := fnSubstDualRow.holds Tryd.pinned (OpenSpec.ofChange fnSubstDualWrong)

/-- 'laws.FnMatch': WHATEVER THE INPUT: true; the input reads as it did. -/
def fnMatchSpec : ChangeSpec := { name := "fnMatch", vars := ["loop.example/g00872/impl.arities", "loop.example/g00872/impl.dualOperators"], fn := fun _ => fun
  | [d, g1, g2] => { results := [.lit (.bool true)], args := [d], vars := [g1, g2] }
  | _ => none }
def fnMatchRow : OpenClaim := { program := "ytoniekjchabjlaadoor", sum := "30a335f985a9289ce38778bcfab4dd455fff2ad9cf9c1ca35d4119702298abdb", func := "loop.example/g00872/laws.FnMatch", spec := "fnMatch", recurses := true, named := ["loop.example/g00872/impl.arities", "loop.example/g00872/impl.dualOperators"], apart := false, laid := [("loop.example/g00872/impl.arities", laid_loop_example_g00872_impl_arities), ("loop.example/g00872/impl.dualOperators", laid_loop_example_g00872_impl_dualOperators)] }
def FnMatchSaid : Prop := fnMatchRow.holds Tryd.pinned (OpenSpec.ofChange fnMatchSpec)

/-- ITS FALSE NEIGHBOUR: 'it returns false'. Refute it at one input. -/
def fnMatchWrong : ChangeSpec := { name := "fnMatch", vars := ["loop.example/g00872/impl.arities", "loop.example/g00872/impl.dualOperators"], fn := fun _ => fun
  | [d, g1, g2] => { results := [.lit (.bool false)], args := [d], vars := [g1, g2] }
  | _ => none }
def FnMatchWrongFalsely : Prop := fnMatchRow.holds Tryd.pinned (OpenSpec.ofChange fnMatchWrong)

/-- 'laws.FnComposed': WHATEVER THE INPUT: true; the input reads as it did. -/
def fnComposedSpec : ChangeSpec := { name := "fnComposed", vars := ["loop.example/g00872/impl.arities", "loop.example/g00872/impl.dualOperators"], fn := fun _ => fun
  | [d, g1, g2] => { results := [.lit (.bool true)], args := [d], vars := [g1, g2] }
  | _ => none }
def fnComposedRow : OpenClaim := { program := "ytoniekjchabjlaadoor", sum := "30a335f985a9289ce38778bcfab4dd455fff2ad9cf9c1ca35d4119702298abdb", func := "loop.example/g00872/laws.FnComposed", spec := "fnComposed", recurses := true, named := ["loop.example/g00872/impl.arities", "loop.example/g00872/impl.dualOperators"], apart := false, laid := [("loop.example/g00872/impl.arities", laid_loop_example_g00872_impl_arities), ("loop.example/g00872/impl.dualOperators", laid_loop_example_g00872_impl_dualOperators)] }
def FnComposedSaid : Prop := fnComposedRow.holds Tryd.pinned (OpenSpec.ofChange fnComposedSpec)

/-- ITS FALSE NEIGHBOUR: 'it returns false'. Refute it at one input. -/
def fnComposedWrong : ChangeSpec := { name := "fnComposed", vars := ["loop.example/g00872/impl.arities", "loop.example/g00872/impl.dualOperators"], fn := fun _ => fun
  | [d, g1, g2] => { results := [.lit (.bool false)], args := [d], vars := [g1, g2] }
  | _ => none }
def FnComposedWrongFalsely : Prop := fnComposedRow.holds Tryd.pinned (OpenSpec.ofChange fnComposedWrong)

/-- 'laws.FnExactIsBinding': WHATEVER THE INPUT: true; the input reads as it did. -/
def fnExactIsBindingSpec : ChangeSpec := { name := "fnExactIsBinding", vars := ["loop.example/g00872/impl.arities"], fn := fun _ => fun
  | [d, g1] => { results := [.lit (.bool true)], args := [d], vars := [g1] }
  | _ => none }
def fnExactIsBindingRow : OpenClaim := { program := "ytoniekjchabjlaadoor", sum := "30a335f985a9289ce38778bcfab4dd455fff2ad9cf9c1ca35d4119702298abdb", func := "loop.example/g00872/laws.FnExactIsBinding", spec := "fnExactIsBinding", named := ["loop.example/g00872/impl.arities"], apart := false, laid := [("loop.example/g00872/impl.arities", laid_loop_example_g00872_impl_arities)] }
def FnExactIsBindingSaid : Prop := fnExactIsBindingRow.holds Tryd.pinned (OpenSpec.ofChange fnExactIsBindingSpec)

/-- ITS FALSE NEIGHBOUR: 'it returns false'. Refute it at one input. -/
def fnExactIsBindingWrong : ChangeSpec := { name := "fnExactIsBinding", vars := ["loop.example/g00872/impl.arities"], fn := fun _ => fun
  | [d, g1] => { results := [.lit (.bool false)], args := [d], vars := [g1] }
  | _ => none }
def FnExactIsBindingWrongFalsely : Prop := fnExactIsBindingRow.holds Tryd.pinned (OpenSpec.ofChange fnExactIsBindingWrong)

/-- 'laws.FnExactSubstForm': WHATEVER THE INPUT: true; the input reads as it did. -/
def fnExactSubstFormSpec : ChangeSpec := { name := "fnExactSubstForm", vars := ["loop.example/g00872/impl.arities", "loop.example/g00872/impl.dualOperators"], fn := fun _ => fun
  | [d1, d2, g1, g2] => { results := [.lit (.bool true)], args := [d1, d2], vars := [g1, g2] }
  | _ => none }
def fnExactSubstFormRow : OpenClaim := { program := "ytoniekjchabjlaadoor", sum := "30a335f985a9289ce38778bcfab4dd455fff2ad9cf9c1ca35d4119702298abdb", func := "loop.example/g00872/laws.FnExactSubstForm", spec := "fnExactSubstForm", named := ["loop.example/g00872/impl.arities", "loop.example/g00872/impl.dualOperators"], apart := false, laid := [("loop.example/g00872/impl.arities", laid_loop_example_g00872_impl_arities), ("loop.example/g00872/impl.dualOperators", laid_loop_example_g00872_impl_dualOperators)] }
def FnExactSubstFormSaid : Prop := fnExactSubstFormRow.holds Tryd.pinned (OpenSpec.ofChange fnExactSubstFormSpec)

/-- ITS FALSE NEIGHBOUR: 'it returns false'. Refute it at one input. -/
def fnExactSubstFormWrong : ChangeSpec := { name := "fnExactSubstForm", vars := ["loop.example/g00872/impl.arities", "loop.example/g00872/impl.dualOperators"], fn := fun _ => fun
  | [d1, d2, g1, g2] => { results := [.lit (.bool false)], args := [d1, d2], vars := [g1, g2] }
  | _ => none }
def FnExactSubstFormWrongFalsely : Prop := fnExactSubstFormRow.holds Tryd.pinned (OpenSpec.ofChange fnExactSubstFormWrong)

/-- 'laws.FnExactSubstSeq': WHATEVER THE INPUT: true; the input reads as it did. -/
def fnExactSubstSeqSpec : ChangeSpec := { name := "fnExactSubstSeq", vars := ["loop.example/g00872/impl.arities", "loop.example/g00872/impl.dualOperators"], fn := fun _ => fun
  | [d1, d2, g1, g2] => { results := [.lit (.bool true)], args := [d1, d2], vars := [g1, g2] }
  | _ => none }
def fnExactSubstSeqRow : OpenClaim := { program := "ytoniekjchabjlaadoor", sum := "30a335f985a9289ce38778bcfab4dd455fff2ad9cf9c1ca35d4119702298abdb", func := "loop.example/g00872/laws.FnExactSubstSeq", spec := "fnExactSubstSeq", unfollowed := true, recurses := true, named := ["loop.example/g00872/impl.arities", "loop.example/g00872/impl.dualOperators"], apart := false, laid := [("loop.example/g00872/impl.arities", laid_loop_example_g00872_impl_arities), ("loop.example/g00872/impl.dualOperators", laid_loop_example_g00872_impl_dualOperators)] }
def FnExactSubstSeqSaid : Prop := fnExactSubstSeqRow.holds Tryd.pinned (OpenSpec.ofChange fnExactSubstSeqSpec)

/-- ITS FALSE NEIGHBOUR: 'it returns false'. Refute it at one input. -/
def fnExactSubstSeqWrong : ChangeSpec := { name := "fnExactSubstSeq", vars := ["loop.example/g00872/impl.arities", "loop.example/g00872/impl.dualOperators"], fn := fun _ => fun
  | [d1, d2, g1, g2] => { results := [.lit (.bool false)], args := [d1, d2], vars := [g1, g2] }
  | _ => none }
def FnExactSubstSeqWrongFalsely : Prop := fnExactSubstSeqRow.holds Tryd.pinned (OpenSpec.ofChange fnExactSubstSeqWrong)

/-- 'laws.FnExactMatchForm': WHATEVER THE INPUT: true; the input reads as it did. -/
def fnExactMatchFormSpec : ChangeSpec := { name := "fnExactMatchForm", vars := ["loop.example/g00872/impl.arities", "loop.example/g00872/impl.dualOperators"], fn := fun _ => fun
  | [d1, d2, g1, g2] => { results := [.lit (.bool true)], args := [d1, d2], vars := [g1, g2] }
  | _ => none }
def fnExactMatchFormRow : OpenClaim := { program := "ytoniekjchabjlaadoor", sum := "30a335f985a9289ce38778bcfab4dd455fff2ad9cf9c1ca35d4119702298abdb", func := "loop.example/g00872/laws.FnExactMatchForm", spec := "fnExactMatchForm", named := ["loop.example/g00872/impl.arities", "loop.example/g00872/impl.dualOperators"], apart := false, laid := [("loop.example/g00872/impl.arities", laid_loop_example_g00872_impl_arities), ("loop.example/g00872/impl.dualOperators", laid_loop_example_g00872_impl_dualOperators)] }
def FnExactMatchFormSaid : Prop := fnExactMatchFormRow.holds Tryd.pinned (OpenSpec.ofChange fnExactMatchFormSpec)

/-- ITS FALSE NEIGHBOUR: 'it returns false'. Refute it at one input. -/
def fnExactMatchFormWrong : ChangeSpec := { name := "fnExactMatchForm", vars := ["loop.example/g00872/impl.arities", "loop.example/g00872/impl.dualOperators"], fn := fun _ => fun
  | [d1, d2, g1, g2] => { results := [.lit (.bool false)], args := [d1, d2], vars := [g1, g2] }
  | _ => none }
def FnExactMatchFormWrongFalsely : Prop := fnExactMatchFormRow.holds Tryd.pinned (OpenSpec.ofChange fnExactMatchFormWrong)

/-- 'laws.FnExactComposedBindings': WHATEVER THE INPUT: true; the input reads as it did. -/
def fnExactComposedBindingsSpec : ChangeSpec := { name := "fnExactComposedBindings", vars := ["loop.example/g00872/impl.arities", "loop.example/g00872/impl.dualOperators"], fn := fun _ => fun
  | [d1, d2, g1, g2] => { results := [.lit (.bool true)], args := [d1, d2], vars := [g1, g2] }
  | _ => none }
def fnExactComposedBindingsRow : OpenClaim := { program := "ytoniekjchabjlaadoor", sum := "30a335f985a9289ce38778bcfab4dd455fff2ad9cf9c1ca35d4119702298abdb", func := "loop.example/g00872/laws.FnExactComposedBindings", spec := "fnExactComposedBindings", named := ["loop.example/g00872/impl.arities", "loop.example/g00872/impl.dualOperators"], apart := false, laid := [("loop.example/g00872/impl.arities", laid_loop_example_g00872_impl_arities), ("loop.example/g00872/impl.dualOperators", laid_loop_example_g00872_impl_dualOperators)] }
def FnExactComposedBindingsSaid : Prop := fnExactComposedBindingsRow.holds Tryd.pinned (OpenSpec.ofChange fnExactComposedBindingsSpec)

/-- ITS FALSE NEIGHBOUR: 'it returns false'. Refute it at one input. -/
def fnExactComposedBindingsWrong : ChangeSpec := { name := "fnExactComposedBindings", vars := ["loop.example/g00872/impl.arities", "loop.example/g00872/impl.dualOperators"], fn := fun _ => fun
  | [d1, d2, g1, g2] => { results := [.lit (.bool false)], args := [d1, d2], vars := [g1, g2] }
  | _ => none }
def FnExactComposedBindingsWrongFalsely : Prop := fnExactComposedBindingsRow.holds Tryd.pinned (OpenSpec.ofChange fnExactComposedBindingsWrong)

/- THE SECOND FORM. 'bulk': how many values and letters a reading holds, each counted each time it is reached (what is shared counts as often as it is met; a slice's spare places count too). A statement '..UptoSaid' is the law's where the arguments, and the package variables that the reading takes, are together of bulk at most 1048576: NARROWER than '..Said'. Prove '..Said' where nothing that the law and all that it calls make is longer than what came in: it says more and counts as full. Else prove '..UptoSaid'. A law counts once. -/
mutual
def uptoBulk {H : Type} : DataW H → Nat
  | .lit (.string bytes) => bytes.length + 1
  | .lit _ => 1
  | .nil => 1
  | .ptr d => uptoBulk d + 1
  | .slice elems spare => uptoBulkAll elems + uptoBulkAll spare + 1
  | .agg parts => uptoBulkAll parts + 1
  | .iface _ d => uptoBulk d + 1
  | .map entries => uptoBulkEntries entries + 1
  | .held _ => 1
def uptoBulkAll {H : Type} : List (DataW H) → Nat
  | [] => 0
  | d :: r => uptoBulk d + uptoBulkAll r
def uptoBulkEntries {H : Type} : List (Lit × DataW H) → Nat
  | [] => 0
  | x :: r => uptoBulkEntry x + uptoBulkEntries r
def uptoBulkEntry {H : Type} : Lit × DataW H → Nat
  | (.string bytes, d) => bytes.length + uptoBulk d + 1
  | (_, d) => uptoBulk d + 1
 end
def uptoSmall : (H : Type) → List (DataW H) → Bool := fun _ ds => decide (uptoBulkAll ds ≤ 1048576)
def OpenSpec.upto (s : _root_.Go.ChangeSpec) : _root_.Go.OpenSpec := { _root_.Go.OpenSpec.ofChange s with cond := some uptoSmall }

/-- 'laws.FnSubstDual', WHERE WHAT IT READS IS OF BULK AT MOST 1048576: true; the input reads as it did. -/
def fnSubstDualUptoRow : OpenClaim := { program := "ytoniekjchabjlaadoor", sum := "30a335f985a9289ce38778bcfab4dd455fff2ad9cf9c1ca35d4119702298abdb", func := "loop.example/g00872/laws.FnSubstDual", spec := "fnSubstDual", recurses := true, named := ["loop.example/g00872/impl.arities", "loop.example/g00872/impl.dualOperators"], apart := false, laid := [("loop.example/g00872/impl.arities", laid_loop_example_g00872_impl_arities), ("loop.example/g00872/impl.dualOperators", laid_loop_example_g00872_impl_dualOperators)], narrowed := true }
def FnSubstDualUptoSaid : Prop := fnSubstDualUptoRow.holds Tryd.pinned (OpenSpec.upto fnSubstDualSpec)

/-- 'laws.FnMatch', WHERE WHAT IT READS IS OF BULK AT MOST 1048576: true; the input reads as it did. -/
def fnMatchUptoRow : OpenClaim := { program := "ytoniekjchabjlaadoor", sum := "30a335f985a9289ce38778bcfab4dd455fff2ad9cf9c1ca35d4119702298abdb", func := "loop.example/g00872/laws.FnMatch", spec := "fnMatch", recurses := true, named := ["loop.example/g00872/impl.arities", "loop.example/g00872/impl.dualOperators"], apart := false, laid := [("loop.example/g00872/impl.arities", laid_loop_example_g00872_impl_arities), ("loop.example/g00872/impl.dualOperators", laid_loop_example_g00872_impl_dualOperators)], narrowed := true }
def FnMatchUptoSaid : Prop := fnMatchUptoRow.holds Tryd.pinned (OpenSpec.upto fnMatchSpec)

/-- 'laws.FnComposed', WHERE WHAT IT READS IS OF BULK AT MOST 1048576: true; the input reads as it did. -/
def fnComposedUptoRow : OpenClaim := { program := "ytoniekjchabjlaadoor", sum := "30a335f985a9289ce38778bcfab4dd455fff2ad9cf9c1ca35d4119702298abdb", func := "loop.example/g00872/laws.FnComposed", spec := "fnComposed", recurses := true, named := ["loop.example/g00872/impl.arities", "loop.example/g00872/impl.dualOperators"], apart := false, laid := [("loop.example/g00872/impl.arities", laid_loop_example_g00872_impl_arities), ("loop.example/g00872/impl.dualOperators", laid_loop_example_g00872_impl_dualOperators)], narrowed := true }
def FnComposedUptoSaid : Prop := fnComposedUptoRow.holds Tryd.pinned (OpenSpec.upto fnComposedSpec)

/-- 'laws.FnExactIsBinding', WHERE WHAT IT READS IS OF BULK AT MOST 1048576: true; the input reads as it did. -/
def fnExactIsBindingUptoRow : OpenClaim := { program := "ytoniekjchabjlaadoor", sum := "30a335f985a9289ce38778bcfab4dd455fff2ad9cf9c1ca35d4119702298abdb", func := "loop.example/g00872/laws.FnExactIsBinding", spec := "fnExactIsBinding", named := ["loop.example/g00872/impl.arities"], apart := false, laid := [("loop.example/g00872/impl.arities", laid_loop_example_g00872_impl_arities)], narrowed := true }
def FnExactIsBindingUptoSaid : Prop := fnExactIsBindingUptoRow.holds Tryd.pinned (OpenSpec.upto fnExactIsBindingSpec)

/-- 'laws.FnExactSubstForm', WHERE WHAT IT READS IS OF BULK AT MOST 1048576: true; the input reads as it did. -/
def fnExactSubstFormUptoRow : OpenClaim := { program := "ytoniekjchabjlaadoor", sum := "30a335f985a9289ce38778bcfab4dd455fff2ad9cf9c1ca35d4119702298abdb", func := "loop.example/g00872/laws.FnExactSubstForm", spec := "fnExactSubstForm", named := ["loop.example/g00872/impl.arities", "loop.example/g00872/impl.dualOperators"], apart := false, laid := [("loop.example/g00872/impl.arities", laid_loop_example_g00872_impl_arities), ("loop.example/g00872/impl.dualOperators", laid_loop_example_g00872_impl_dualOperators)], narrowed := true }
def FnExactSubstFormUptoSaid : Prop := fnExactSubstFormUptoRow.holds Tryd.pinned (OpenSpec.upto fnExactSubstFormSpec)

/-- 'laws.FnExactSubstSeq', WHERE WHAT IT READS IS OF BULK AT MOST 1048576: true; the input reads as it did. -/
def fnExactSubstSeqUptoRow : OpenClaim := { program := "ytoniekjchabjlaadoor", sum := "30a335f985a9289ce38778bcfab4dd455fff2ad9cf9c1ca35d4119702298abdb", func := "loop.example/g00872/laws.FnExactSubstSeq", spec := "fnExactSubstSeq", unfollowed := true, recurses := true, named := ["loop.example/g00872/impl.arities", "loop.example/g00872/impl.dualOperators"], apart := false, laid := [("loop.example/g00872/impl.arities", laid_loop_example_g00872_impl_arities), ("loop.example/g00872/impl.dualOperators", laid_loop_example_g00872_impl_dualOperators)], narrowed := true }
def FnExactSubstSeqUptoSaid : Prop := fnExactSubstSeqUptoRow.holds Tryd.pinned (OpenSpec.upto fnExactSubstSeqSpec)

/-- 'laws.FnExactMatchForm', WHERE WHAT IT READS IS OF BULK AT MOST 1048576: true; the input reads as it did. -/
def fnExactMatchFormUptoRow : OpenClaim := { program := "ytoniekjchabjlaadoor", sum := "30a335f985a9289ce38778bcfab4dd455fff2ad9cf9c1ca35d4119702298abdb", func := "loop.example/g00872/laws.FnExactMatchForm", spec := "fnExactMatchForm", named := ["loop.example/g00872/impl.arities", "loop.example/g00872/impl.dualOperators"], apart := false, laid := [("loop.example/g00872/impl.arities", laid_loop_example_g00872_impl_arities), ("loop.example/g00872/impl.dualOperators", laid_loop_example_g00872_impl_dualOperators)], narrowed := true }
def FnExactMatchFormUptoSaid : Prop := fnExactMatchFormUptoRow.holds Tryd.pinned (OpenSpec.upto fnExactMatchFormSpec)

/-- 'laws.FnExactComposedBindings', WHERE WHAT IT READS IS OF BULK AT MOST 1048576: true; the input reads as it did. -/
def fnExactComposedBindingsUptoRow : OpenClaim := { program := "ytoniekjchabjlaadoor", sum := "30a335f985a9289ce38778bcfab4dd455fff2ad9cf9c1ca35d4119702298abdb", func := "loop.example/g00872/laws.FnExactComposedBindings", spec := "fnExactComposedBindings", named := ["loop.example/g00872/impl.arities", "loop.example/g00872/impl.dualOperators"], apart := false, laid := [("loop.example/g00872/impl.arities", laid_loop_example_g00872_impl_arities), ("loop.example/g00872/impl.dualOperators", laid_loop_example_g00872_impl_dualOperators)], narrowed := true }
def FnExactComposedBindingsUptoSaid : Prop := fnExactComposedBindingsUptoRow.holds Tryd.pinned (OpenSpec.upto fnExactComposedBindingsSpec)

end Rows
end Go.Proofs.YtoniekjchabjlaaDoor
