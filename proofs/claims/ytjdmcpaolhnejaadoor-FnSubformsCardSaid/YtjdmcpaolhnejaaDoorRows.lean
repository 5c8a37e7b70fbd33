/-
  NARROWER THAN 'FOR EVERY INPUT', by the rows' own cells (each row's printed sentence says how): FnExactSubformsOf: laid · FnSubforms: laid · FnEnds: laid.
  DERIVED. THE GIVEN ROWS OF THIS SEAT. 3 by the template 'for every input the law returns true; each argument reads behind the call as it read before'; 0 by the template 'total and deterministic' (their statements: YtjdmcpaolhnejaaDoorTotals.lean).
  GIVEN WITH THE SEED: the statements are not yours to turn. If you find one false, say at which input.
  Laid BY PROGRAM, IN A SANDBOX (cutbox-rows.mjs): the forced cells as the released guide's own fill.sh prints them over the translation d619319f29612248… (all of the seat's roots in one cut). By AI agents, Wed Nov 11 2026. No macro, syntax, notation, axiom, sorry.
-/
import Derived.Test.YtjdmcpaolhnejaaDoorChecked
import GoSem.Claim
import GoSem.ClaimJoined
import GoSem.ClaimMapViews
import Derived.JoinedTies
import Derived.KernelRfl
namespace Go.Proofs.YtjdmcpaolhnejaaDoor
/- THE CELL 'sum', in the pinned program and in every row, IS THE sha256 OF THE DUMP (.gsa) THAT YtjdmcpaolhnejaaDoorProg.lean LOADS. Nothing in Lean hashes anything: it is a label: what it is worth is what the hold of that sum in a sandbox is worth. -/
noncomputable def Tryd.pinned : Pinned := { name := "ytjdmcpaolhnejaadoor", sum := "d619319f29612248bc0b0c3733d257bfc9a93f2300bdeed89c357ca248e621d6", checked := Tryd.checked }
namespace Rows
def none {H : Type} : Left H := { results := [], args := [] }

/- WHAT THE LISTED PACKAGE-LEVEL VARIABLES READ AS WHEN THE CALL BEGINS. Each datum BY PROGRAM (the guide's laid-datum.mjs) off the statement by which the dump's own 'gosem.cut.vars' lays the variable. In a bare row this is a premise. The card (YtjdmcpaolhnejaaDoorCards.lean) ties it to the program's text. -/
def laid_loop_example_g00872_impl_arities {H : Type} : DataW H := .agg [.lit (.int .i64 0), .lit (.int .i64 0), .lit (.int .i64 0), .lit (.int .i64 0), .lit (.int .i64 0), .lit (.int .i64 0), .lit (.int .i64 0), .lit (.int .i64 0), .lit (.int .i64 0), .lit (.int .i64 0), .lit (.int .i64 0), .lit (.int .i64 2), .lit (.int .i64 2), .lit (.int .i64 0), .lit (.int .i64 0), .lit (.int .i64 2), .lit (.int .i64 2), .lit (.int .i64 1), .lit (.int .i64 1)]
def laid_loop_example_g00872_impl_dualOperators {H : Type} : DataW H := .agg [.lit (.int .i64 0), .lit (.int .i64 0), .lit (.int .i64 0), .lit (.int .i64 0), .lit (.int .i64 0), .lit (.int .i64 0), .lit (.int .i64 0), .lit (.int .i64 0), .lit (.int .i64 0), .lit (.int .i64 0), .lit (.int .i64 0), .lit (.int .i64 12), .lit (.int .i64 11), .lit (.int .i64 14), .lit (.int .i64 13), .lit (.int .i64 16), .lit (.int .i64 15), .lit (.int .i64 18), .lit (.int .i64 17)]

/-- 'laws.FnExactSubformsOf': WHATEVER THE INPUT: true; the input reads as it did. -/
def fnExactSubformsOfSpec : ChangeSpec := { name := "fnExactSubformsOf", vars := ["loop.example/g00872/impl.arities"], fn := fun _ => fun
  | [d, g1] => { results := [.lit (.bool true)], args := [d], vars := [g1] }
  | _ => none }
def fnExactSubformsOfRow : OpenClaim := { program := "ytjdmcpaolhnejaadoor", sum := "d619319f29612248bc0b0c3733d257bfc9a93f2300bdeed89c357ca248e621d6", func := "loop.example/g00872/laws.FnExactSubformsOf", spec := "fnExactSubformsOf", unfollowed := true, recurses := true, named := ["loop.example/g00872/impl.arities"], apart := false, laid := [("loop.example/g00872/impl.arities", laid_loop_example_g00872_impl_arities)] }
def FnExactSubformsOfSaid : Prop := fnExactSubformsOfRow.holds Tryd.pinned (OpenSpec.ofChange fnExactSubformsOfSpec)

/-- ITS FALSE NEIGHBOUR: 'it returns false'. Refute it at one input. -/
def fnExactSubformsOfWrong : ChangeSpec := { name := "fnExactSubformsOf", vars := ["loop.example/g00872/impl.arities"], fn := fun _ => fun
  | [d, g1] => { results := [.lit (.bool false)], args := [d], vars := [g1] }
  | _ => none }
def FnExactSubformsOfWrongFalsely : Prop := fnExactSubformsOfRow.holds Tryd.pinned (OpenSpec.ofChange fnExactSubformsOfWrong)

/-- 'laws.FnSubforms': WHATEVER THE INPUT: true; the input reads as it did. -/
def fnSubformsSpec : ChangeSpec := { name := "fnSubforms", vars := ["loop.example/g00872/impl.arities"], fn := fun _ => fun
  | [d, g1] => { results := [.lit (.bool true)], args := [d], vars := [g1] }
  | _ => none }
def fnSubformsRow : OpenClaim := { program := "ytjdmcpaolhnejaadoor", sum := "d619319f29612248bc0b0c3733d257bfc9a93f2300bdeed89c357ca248e621d6", func := "loop.example/g00872/laws.FnSubforms", spec := "fnSubforms", unfollowed := true, recurses := true, named := ["loop.example/g00872/impl.arities"], apart := false, laid := [("loop.example/g00872/impl.arities", laid_loop_example_g00872_impl_arities)] }
def FnSubformsSaid : Prop := fnSubformsRow.holds Tryd.pinned (OpenSpec.ofChange fnSubformsSpec)

/-- ITS FALSE NEIGHBOUR: 'it returns false'. Refute it at one input. -/
def fnSubformsWrong : ChangeSpec := { name := "fnSubforms", vars := ["loop.example/g00872/impl.arities"], fn := fun _ => fun
  | [d, g1] => { results := [.lit (.bool false)], args := [d], vars := [g1] }
  | _ => none }
def FnSubformsWrongFalsely : Prop := fnSubformsRow.holds Tryd.pinned (OpenSpec.ofChange fnSubformsWrong)

/-- 'laws.FnEnds': WHATEVER THE INPUT: true; the input reads as it did. -/
def fnEndsSpec : ChangeSpec := { name := "fnEnds", vars := ["loop.example/g00872/impl.arities", "loop.example/g00872/impl.dualOperators"], fn := fun _ => fun
  | [d, g1, g2] => { results := [.lit (.bool true)], args := [d], vars := [g1, g2] }
  | _ => none }
def fnEndsRow : OpenClaim := { program := "ytjdmcpaolhnejaadoor", sum := "d619319f29612248bc0b0c3733d257bfc9a93f2300bdeed89c357ca248e621d6", func := "loop.example/g00872/laws.FnEnds", spec := "fnEnds", unfollowed := true, recurses := true, named := ["loop.example/g00872/impl.arities", "loop.example/g00872/impl.dualOperators"], apart := false, laid := [("loop.example/g00872/impl.arities", laid_loop_example_g00872_impl_arities), ("loop.example/g00872/impl.dualOperators", laid_loop_example_g00872_impl_dualOperators)] }
def FnEndsSaid : Prop := fnEndsRow.holds Tryd.pinned (OpenSpec.ofChange fnEndsSpec)

/-- ITS FALSE NEIGHBOUR: 'it returns false'. Refute it at one input. -/
def fnEndsWrong : ChangeSpec := { name := "fnEnds", vars := ["loop.example/g00872/impl.arities", "loop.example/g00872/impl.dualOperators"], fn := fun _ => fun
  | [d, g1, g2] => { results := [.lit (.bool false)], args := [d], vars := [g1, g2] }
  | _ => none }
def FnEndsWrongFalsely : Prop := fnEndsRow.holds Tryd.pinned (OpenSpec.ofChange fnEndsWrong)

/- THE SECOND FORM. 'bulk': how many values and letters a reading holds, each counted each time it is reached (what is shared counts as often as it is met; a slice's spare places count too). A statement '..UptoSaid' is the law's where the arguments, and the package variables that the reading takes, are together of bulk at most 1048576: NARROWER than '..Said'. Prove '..Said' where nothing that the law and all that it calls make is longer than what came in: it says more and counts as full. Else prove '..UptoSaid'. A law counts once. -/
mutual
def uptoBulk {H : Type} : DataW H → Nat
  | .lit (.string bytes) => bytes.length + 1
  | .lit _ => 1
  | .nil => 1
  | .ptr d => uptoBulk d + 1
  | .slice elems spare => uptoBulkAll elems + uptoBulkAll spare + 1
  | .agg parts => uptoBulkAll parts + 1
  | .iface _ d => uptoBulk d + 1
  | .map entries => uptoBulkEntries entries + 1
  | .held _ => 1
def uptoBulkAll {H : Type} : List (DataW H) → Nat
  | [] => 0
  | d :: r => uptoBulk d + uptoBulkAll r
def uptoBulkEntries {H : Type} : List (Lit × DataW H) → Nat
  | [] => 0
  | x :: r => uptoBulkEntry x + uptoBulkEntries r
def uptoBulkEntry {H : Type} : Lit × DataW H → Nat
  | (.string bytes, d) => bytes.length + uptoBulk d + 1
  | (_, d) => uptoBulk d + 1
 end
def uptoSmall : (H : Type) → List (DataW H) → Bool := fun _ ds => decide (uptoBulkAll ds ≤ 1048576)
def OpenSpec.upto (s : _root_.Go.ChangeSpec) : _root_.Go.OpenSpec := { _root_.Go.OpenSpec.ofChange s with cond := some uptoSmall }

/-- 'laws.FnExactSubformsOf', WHERE WHAT IT READS IS OF BULK AT MOST 1048576: true; the input reads as it did. -/
def fnExactSubformsOfUptoRow : OpenClaim := { program := "ytjdmcpaolhnejaadoor", sum := "d619319f29612248bc0b0c3733d257bfc9a93f2300bdeed89c357ca248e621d6", func := "loop.example/g00872/laws.FnExactSubformsOf", spec := "fnExactSubformsOf", unfollowed := true, recurses := true, named := ["loop.example/g00872/impl.arities"], apart := false, laid := [("loop.example/g00872/impl.arities", laid_loop_example_g00872_impl_arities)], narrowed := true }
def FnExactSubformsOfUptoSaid : Prop := fnExactSubformsOfUptoRow.holds Tryd.pinned (OpenSpec.upto fnExactSubformsOfSpec)

/-- 'laws.FnSubforms', WHERE WHAT IT READS IS OF BULK AT MOST 1048576: true; the input reads as it did. -/
def fnSubformsUptoRow : OpenClaim := { program := "ytjdmcpaolhnejaadoor", sum := "d619319f29612248bc0b0c3733d257bfc9a93f2300bdeed89c357ca248e621d6", func := "loop.example/g00872/laws.FnSubforms", spec := "fnSubforms", unfollowed := true, recurses := true, named := ["loop.example/g00872/impl.arities"], apart := false, laid := [("loop.example/g00872/impl.arities", laid_loop_example_g00872_impl_arities)], narrowed := true }
def FnSubformsUptoSaid : Prop := fnSubformsUptoRow.holds Tryd.pinned (OpenSpec.upto fnSubformsSpec)

/-- 'laws.FnEnds', WHERE WHAT IT READS IS OF BULK AT MOST 1048576: true; the input reads as it did. -/
def fnEndsUptoRow : OpenClaim := { program := "ytjdmcpaolhnejaadoor", sum := "d619319f29612248bc0b0c3733d257bfc9a93f2300bdeed89c357ca248e621d6", func := "loop.example/g00872/laws.FnEnds", spec := "fnEnds", unfollowed := true, recurses := true, named := ["loop.example/g00872/impl.arities", "loop.example/g00872/impl.dualOperators"], apart := false, laid := [("loop.example/g00872/impl.arities", laid_loop_example_g00872_impl_arities), ("loop.example/g00872/impl.dualOperators", laid_loop_example_g00872_impl_dualOperators)], narrowed := true }
def FnEndsUptoSaid : Prop := fnEndsUptoRow.holds Tryd.pinned (OpenSpec.upto fnEndsSpec)

end Rows
end Go.Proofs.YtjdmcpaolhnejaaDoor
