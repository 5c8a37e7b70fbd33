/-
  NARROWER THAN 'FOR EVERY INPUT', by the rows' own cells (each row's printed sentence says how): FnNetOps: laid · FnRenumber: laid · FnExactValidNet: laid · FnExactConclusionSeq: laid · FnExactSourceOf: laid · FnExactTargetOf: laid · FnExactLinksOfKind: laid · FnExactAxiomNet: laid · FnExactUnionNet: laid · FnExactLinkNet: laid · FnExactRenumberNet: laid.
  DERIVED. THE GIVEN ROWS OF THIS SEAT. 11 by the template 'for every input the law returns true; each argument reads behind the call as it read before'; 0 by the template 'total and deterministic' (their statements: YtjfhbofgnagfaaaDoorTotals.lean).
  GIVEN WITH THE SEED: the statements are not yours to turn. If you find one false, say at which input.
  Laid BY PROGRAM, IN A SANDBOX (cutbox-rows.mjs): the forced cells as the released guide's own fill.sh prints them over the translation f42f9a19f3f48fa6… (all of the seat's roots in one cut). By AI agents, Wed Nov 11 2026. No macro, syntax, notation, axiom, sorry.
-/
import Derived.Test.YtjfhbofgnagfaaaDoorChecked
import GoSem.Claim
import GoSem.ClaimJoined
import GoSem.ClaimMapViews
import Derived.JoinedTies
import Derived.KernelRfl
namespace Go.Proofs.YtjfhbofgnagfaaaDoor
/- THE CELL 'sum', in the pinned program and in every row, IS THE sha256 OF THE DUMP (.gsa) THAT YtjfhbofgnagfaaaDoorProg.lean LOADS. Nothing in Lean hashes anything: it is a label: what it is worth is what the hold of that sum in a sandbox is worth. -/
noncomputable def Tryd.pinned : Pinned := { name := "ytjfhbofgnagfaaadoor", sum := "f42f9a19f3f48fa642f8814481f5cd92e258171dbe27baa7883421188841e92a", checked := Tryd.checked }
namespace Rows
def none {H : Type} : Left H := { results := [], args := [] }

/- WHAT THE LISTED PACKAGE-LEVEL VARIABLES READ AS WHEN THE CALL BEGINS. Each datum BY PROGRAM (the guide's laid-datum.mjs) off the statement by which the dump's own 'gosem.cut.vars' lays the variable. In a bare row this is a premise. The card (YtjfhbofgnagfaaaDoorCards.lean) ties it to the program's text. -/
def laid_loop_example_g00872_impl_arities {H : Type} : DataW H := .agg [.lit (.int .i64 0), .lit (.int .i64 0), .lit (.int .i64 0), .lit (.int .i64 0), .lit (.int .i64 0), .lit (.int .i64 0), .lit (.int .i64 0), .lit (.int .i64 0), .lit (.int .i64 0), .lit (.int .i64 0), .lit (.int .i64 0), .lit (.int .i64 2), .lit (.int .i64 2), .lit (.int .i64 0), .lit (.int .i64 0), .lit (.int .i64 2), .lit (.int .i64 2), .lit (.int .i64 1), .lit (.int .i64 1)]
def laid_loop_example_g00872_impl_dualOperators {H : Type} : DataW H := .agg [.lit (.int .i64 0), .lit (.int .i64 0), .lit (.int .i64 0), .lit (.int .i64 0), .lit (.int .i64 0), .lit (.int .i64 0), .lit (.int .i64 0), .lit (.int .i64 0), .lit (.int .i64 0), .lit (.int .i64 0), .lit (.int .i64 0), .lit (.int .i64 12), .lit (.int .i64 11), .lit (.int .i64 14), .lit (.int .i64 13), .lit (.int .i64 16), .lit (.int .i64 15), .lit (.int .i64 18), .lit (.int .i64 17)]

/-- 'laws.FnNetOps': WHATEVER THE INPUT: true; the input reads as it did. -/
def fnNetOpsSpec : ChangeSpec := { name := "fnNetOps", vars := ["loop.example/g00872/impl.arities", "loop.example/g00872/impl.dualOperators"], fn := fun _ => fun
  | [d, g1, g2] => { results := [.lit (.bool true)], args := [d], vars := [g1, g2] }
  | _ => none }
def fnNetOpsRow : OpenClaim := { program := "ytjfhbofgnagfaaadoor", sum := "f42f9a19f3f48fa642f8814481f5cd92e258171dbe27baa7883421188841e92a", func := "loop.example/g00872/laws.FnNetOps", spec := "fnNetOps", recurses := true, named := ["loop.example/g00872/impl.arities", "loop.example/g00872/impl.dualOperators"], apart := false, laid := [("loop.example/g00872/impl.arities", laid_loop_example_g00872_impl_arities), ("loop.example/g00872/impl.dualOperators", laid_loop_example_g00872_impl_dualOperators)] }
def FnNetOpsSaid : Prop := fnNetOpsRow.holds Tryd.pinned (OpenSpec.ofChange fnNetOpsSpec)

/-- ITS FALSE NEIGHBOUR: 'it returns false'. Refute it at one input. -/
def fnNetOpsWrong : ChangeSpec := { name := "fnNetOps", vars := ["loop.example/g00872/impl.arities", "loop.example/g00872/impl.dualOperators"], fn := fun _ => fun
  | [d, g1, g2] => { results := [.lit (.bool false)], args := [d], vars := [g1, g2] }
  | _ => none }
def FnNetOpsWrongFalsely : Prop := fnNetOpsRow.holds Tryd.pinned (OpenSpec.ofChange fnNetOpsWrong)

/-- 'laws.FnRenumber': WHATEVER THE INPUT: true; the input reads as it did. -/
def fnRenumberSpec : ChangeSpec := { name := "fnRenumber", vars := ["loop.example/g00872/impl.arities", "loop.example/g00872/impl.dualOperators"], fn := fun _ => fun
  | [d, g1, g2] => { results := [.lit (.bool true)], args := [d], vars := [g1, g2] }
  | _ => none }
def fnRenumberRow : OpenClaim := { program := "ytjfhbofgnagfaaadoor", sum := "f42f9a19f3f48fa642f8814481f5cd92e258171dbe27baa7883421188841e92a", func := "loop.example/g00872/laws.FnRenumber", spec := "fnRenumber", recurses := true, named := ["loop.example/g00872/impl.arities", "loop.example/g00872/impl.dualOperators"], apart := false, laid := [("loop.example/g00872/impl.arities", laid_loop_example_g00872_impl_arities), ("loop.example/g00872/impl.dualOperators", laid_loop_example_g00872_impl_dualOperators)] }
def FnRenumberSaid : Prop := fnRenumberRow.holds Tryd.pinned (OpenSpec.ofChange fnRenumberSpec)

/-- ITS FALSE NEIGHBOUR: 'it returns false'. Refute it at one input. -/
def fnRenumberWrong : ChangeSpec := { name := "fnRenumber", vars := ["loop.example/g00872/impl.arities", "loop.example/g00872/impl.dualOperators"], fn := fun _ => fun
  | [d, g1, g2] => { results := [.lit (.bool false)], args := [d], vars := [g1, g2] }
  | _ => none }
def FnRenumberWrongFalsely : Prop := fnRenumberRow.holds Tryd.pinned (OpenSpec.ofChange fnRenumberWrong)

/-- 'laws.FnExactValidNet': WHATEVER THE INPUT: true; the input reads as it did. -/
def fnExactValidNetSpec : ChangeSpec := { name := "fnExactValidNet", vars := ["loop.example/g00872/impl.arities", "loop.example/g00872/impl.dualOperators"], fn := fun _ => fun
  | [d, g1, g2] => { results := [.lit (.bool true)], args := [d], vars := [g1, g2] }
  | _ => none }
def fnExactValidNetRow : OpenClaim := { program := "ytjfhbofgnagfaaadoor", sum := "f42f9a19f3f48fa642f8814481f5cd92e258171dbe27baa7883421188841e92a", func := "loop.example/g00872/laws.FnExactValidNet", spec := "fnExactValidNet", named := ["loop.example/g00872/impl.arities", "loop.example/g00872/impl.dualOperators"], apart := false, laid := [("loop.example/g00872/impl.arities", laid_loop_example_g00872_impl_arities), ("loop.example/g00872/impl.dualOperators", laid_loop_example_g00872_impl_dualOperators)] }
def FnExactValidNetSaid : Prop := fnExactValidNetRow.holds Tryd.pinned (OpenSpec.ofChange fnExactValidNetSpec)

/-- ITS FALSE NEIGHBOUR: 'it returns false'. Refute it at one input. -/
def fnExactValidNetWrong : ChangeSpec := { name := "fnExactValidNet", vars := ["loop.example/g00872/impl.arities", "loop.example/g00872/impl.dualOperators"], fn := fun _ => fun
  | [d, g1, g2] => { results := [.lit (.bool false)], args := [d], vars := [g1, g2] }
  | _ => none }
def FnExactValidNetWrongFalsely : Prop := fnExactValidNetRow.holds Tryd.pinned (OpenSpec.ofChange fnExactValidNetWrong)

/-- 'laws.FnExactConclusionSeq': WHATEVER THE INPUT: true; the input reads as it did. -/
def fnExactConclusionSeqSpec : ChangeSpec := { name := "fnExactConclusionSeq", vars := ["loop.example/g00872/impl.arities", "loop.example/g00872/impl.dualOperators"], fn := fun _ => fun
  | [d, g1, g2] => { results := [.lit (.bool true)], args := [d], vars := [g1, g2] }
  | _ => none }
def fnExactConclusionSeqRow : OpenClaim := { program := "ytjfhbofgnagfaaadoor", sum := "f42f9a19f3f48fa642f8814481f5cd92e258171dbe27baa7883421188841e92a", func := "loop.example/g00872/laws.FnExactConclusionSeq", spec := "fnExactConclusionSeq", named := ["loop.example/g00872/impl.arities", "loop.example/g00872/impl.dualOperators"], apart := false, laid := [("loop.example/g00872/impl.arities", laid_loop_example_g00872_impl_arities), ("loop.example/g00872/impl.dualOperators", laid_loop_example_g00872_impl_dualOperators)] }
def FnExactConclusionSeqSaid : Prop := fnExactConclusionSeqRow.holds Tryd.pinned (OpenSpec.ofChange fnExactConclusionSeqSpec)

/-- ITS FALSE NEIGHBOUR: 'it returns false'. Refute it at one input. -/
def fnExactConclusionSeqWrong : ChangeSpec := { name := "fnExactConclusionSeq", vars := ["loop.example/g00872/impl.arities", "loop.example/g00872/impl.dualOperators"], fn := fun _ => fun
  | [d, g1, g2] => { results := [.lit (.bool false)], args := [d], vars := [g1, g2] }
  | _ => none }
def FnExactConclusionSeqWrongFalsely : Prop := fnExactConclusionSeqRow.holds Tryd.pinned (OpenSpec.ofChange fnExactConclusionSeqWrong)

/-- 'laws.FnExactSourceOf': WHATEVER THE INPUT: true; the input reads as it did. -/
def fnExactSourceOfSpec : ChangeSpec := { name := "fnExactSourceOf", vars := ["loop.example/g00872/impl.arities", "loop.example/g00872/impl.dualOperators"], fn := fun _ => fun
  | [d1, d2, g1, g2] => { results := [.lit (.bool true)], args := [d1, d2], vars := [g1, g2] }
  | _ => none }
def fnExactSourceOfRow : OpenClaim := { program := "ytjfhbofgnagfaaadoor", sum := "f42f9a19f3f48fa642f8814481f5cd92e258171dbe27baa7883421188841e92a", func := "loop.example/g00872/laws.FnExactSourceOf", spec := "fnExactSourceOf", unfollowed := true, recurses := true, named := ["loop.example/g00872/impl.arities", "loop.example/g00872/impl.dualOperators"], apart := false, laid := [("loop.example/g00872/impl.arities", laid_loop_example_g00872_impl_arities), ("loop.example/g00872/impl.dualOperators", laid_loop_example_g00872_impl_dualOperators)] }
def FnExactSourceOfSaid : Prop := fnExactSourceOfRow.holds Tryd.pinned (OpenSpec.ofChange fnExactSourceOfSpec)

/-- ITS FALSE NEIGHBOUR: 'it returns false'. Refute it at one input. -/
def fnExactSourceOfWrong : ChangeSpec := { name := "fnExactSourceOf", vars := ["loop.example/g00872/impl.arities", "loop.example/g00872/impl.dualOperators"], fn := fun _ => fun
  | [d1, d2, g1, g2] => { results := [.lit (.bool false)], args := [d1, d2], vars := [g1, g2] }
  | _ => none }
def FnExactSourceOfWrongFalsely : Prop := fnExactSourceOfRow.holds Tryd.pinned (OpenSpec.ofChange fnExactSourceOfWrong)

/-- 'laws.FnExactTargetOf': WHATEVER THE INPUT: true; the input reads as it did. -/
def fnExactTargetOfSpec : ChangeSpec := { name := "fnExactTargetOf", vars := ["loop.example/g00872/impl.arities", "loop.example/g00872/impl.dualOperators"], fn := fun _ => fun
  | [d1, d2, g1, g2] => { results := [.lit (.bool true)], args := [d1, d2], vars := [g1, g2] }
  | _ => none }
def fnExactTargetOfRow : OpenClaim := { program := "ytjfhbofgnagfaaadoor", sum := "f42f9a19f3f48fa642f8814481f5cd92e258171dbe27baa7883421188841e92a", func := "loop.example/g00872/laws.FnExactTargetOf", spec := "fnExactTargetOf", unfollowed := true, recurses := true, named := ["loop.example/g00872/impl.arities", "loop.example/g00872/impl.dualOperators"], apart := false, laid := [("loop.example/g00872/impl.arities", laid_loop_example_g00872_impl_arities), ("loop.example/g00872/impl.dualOperators", laid_loop_example_g00872_impl_dualOperators)] }
def FnExactTargetOfSaid : Prop := fnExactTargetOfRow.holds Tryd.pinned (OpenSpec.ofChange fnExactTargetOfSpec)

/-- ITS FALSE NEIGHBOUR: 'it returns false'. Refute it at one input. -/
def fnExactTargetOfWrong : ChangeSpec := { name := "fnExactTargetOf", vars := ["loop.example/g00872/impl.arities", "loop.example/g00872/impl.dualOperators"], fn := fun _ => fun
  | [d1, d2, g1, g2] => { results := [.lit (.bool false)], args := [d1, d2], vars := [g1, g2] }
  | _ => none }
def FnExactTargetOfWrongFalsely : Prop := fnExactTargetOfRow.holds Tryd.pinned (OpenSpec.ofChange fnExactTargetOfWrong)

/-- 'laws.FnExactLinksOfKind': WHATEVER THE INPUT: true; the input reads as it did. -/
def fnExactLinksOfKindSpec : ChangeSpec := { name := "fnExactLinksOfKind", vars := ["loop.example/g00872/impl.arities", "loop.example/g00872/impl.dualOperators"], fn := fun _ => fun
  | [d1, d2, g1, g2] => { results := [.lit (.bool true)], args := [d1, d2], vars := [g1, g2] }
  | _ => none }
def fnExactLinksOfKindRow : OpenClaim := { program := "ytjfhbofgnagfaaadoor", sum := "f42f9a19f3f48fa642f8814481f5cd92e258171dbe27baa7883421188841e92a", func := "loop.example/g00872/laws.FnExactLinksOfKind", spec := "fnExactLinksOfKind", named := ["loop.example/g00872/impl.arities", "loop.example/g00872/impl.dualOperators"], apart := false, laid := [("loop.example/g00872/impl.arities", laid_loop_example_g00872_impl_arities), ("loop.example/g00872/impl.dualOperators", laid_loop_example_g00872_impl_dualOperators)] }
def FnExactLinksOfKindSaid : Prop := fnExactLinksOfKindRow.holds Tryd.pinned (OpenSpec.ofChange fnExactLinksOfKindSpec)

/-- ITS FALSE NEIGHBOUR: 'it returns false'. Refute it at one input. -/
def fnExactLinksOfKindWrong : ChangeSpec := { name := "fnExactLinksOfKind", vars := ["loop.example/g00872/impl.arities", "loop.example/g00872/impl.dualOperators"], fn := fun _ => fun
  | [d1, d2, g1, g2] => { results := [.lit (.bool false)], args := [d1, d2], vars := [g1, g2] }
  | _ => none }
def FnExactLinksOfKindWrongFalsely : Prop := fnExactLinksOfKindRow.holds Tryd.pinned (OpenSpec.ofChange fnExactLinksOfKindWrong)

/-- 'laws.FnExactAxiomNet': WHATEVER THE INPUT: true; the input reads as it did. -/
def fnExactAxiomNetSpec : ChangeSpec := { name := "fnExactAxiomNet", vars := ["loop.example/g00872/impl.arities", "loop.example/g00872/impl.dualOperators"], fn := fun _ => fun
  | [d, g1, g2] => { results := [.lit (.bool true)], args := [d], vars := [g1, g2] }
  | _ => none }
def fnExactAxiomNetRow : OpenClaim := { program := "ytjfhbofgnagfaaadoor", sum := "f42f9a19f3f48fa642f8814481f5cd92e258171dbe27baa7883421188841e92a", func := "loop.example/g00872/laws.FnExactAxiomNet", spec := "fnExactAxiomNet", named := ["loop.example/g00872/impl.arities", "loop.example/g00872/impl.dualOperators"], apart := false, laid := [("loop.example/g00872/impl.arities", laid_loop_example_g00872_impl_arities), ("loop.example/g00872/impl.dualOperators", laid_loop_example_g00872_impl_dualOperators)] }
def FnExactAxiomNetSaid : Prop := fnExactAxiomNetRow.holds Tryd.pinned (OpenSpec.ofChange fnExactAxiomNetSpec)

/-- ITS FALSE NEIGHBOUR: 'it returns false'. Refute it at one input. -/
def fnExactAxiomNetWrong : ChangeSpec := { name := "fnExactAxiomNet", vars := ["loop.example/g00872/impl.arities", "loop.example/g00872/impl.dualOperators"], fn := fun _ => fun
  | [d, g1, g2] => { results := [.lit (.bool false)], args := [d], vars := [g1, g2] }
  | _ => none }
def FnExactAxiomNetWrongFalsely : Prop := fnExactAxiomNetRow.holds Tryd.pinned (OpenSpec.ofChange fnExactAxiomNetWrong)

/-- 'laws.FnExactUnionNet': WHATEVER THE INPUT: true; the input reads as it did. -/
def fnExactUnionNetSpec : ChangeSpec := { name := "fnExactUnionNet", vars := ["loop.example/g00872/impl.arities", "loop.example/g00872/impl.dualOperators"], fn := fun _ => fun
  | [d1, d2, g1, g2] => { results := [.lit (.bool true)], args := [d1, d2], vars := [g1, g2] }
  | _ => none }
def fnExactUnionNetRow : OpenClaim := { program := "ytjfhbofgnagfaaadoor", sum := "f42f9a19f3f48fa642f8814481f5cd92e258171dbe27baa7883421188841e92a", func := "loop.example/g00872/laws.FnExactUnionNet", spec := "fnExactUnionNet", named := ["loop.example/g00872/impl.arities", "loop.example/g00872/impl.dualOperators"], apart := false, laid := [("loop.example/g00872/impl.arities", laid_loop_example_g00872_impl_arities), ("loop.example/g00872/impl.dualOperators", laid_loop_example_g00872_impl_dualOperators)] }
def FnExactUnionNetSaid : Prop := fnExactUnionNetRow.holds Tryd.pinned (OpenSpec.ofChange fnExactUnionNetSpec)

/-- ITS FALSE NEIGHBOUR: 'it returns false'. Refute it at one input. -/
def fnExactUnionNetWrong : ChangeSpec := { name := "fnExactUnionNet", vars := ["loop.example/g00872/impl.arities", "loop.example/g00872/impl.dualOperators"], fn := fun _ => fun
  | [d1, d2, g1, g2] => { results := [.lit (.bool false)], args := [d1, d2], vars := [g1, g2] }
  | _ => none }
def FnExactUnionNetWrongFalsely : Prop := fnExactUnionNetRow.holds Tryd.pinned (OpenSpec.ofChange fnExactUnionNetWrong)

/-- 'laws.FnExactLinkNet': WHATEVER THE INPUT: true; the input reads as it did. -/
def fnExactLinkNetSpec : ChangeSpec := { name := "fnExactLinkNet", vars := ["loop.example/g00872/impl.arities", "loop.example/g00872/impl.dualOperators"], fn := fun _ => fun
  | [d1, d2, d3, d4, g1, g2] => { results := [.lit (.bool true)], args := [d1, d2, d3, d4], vars := [g1, g2] }
  | _ => none }
def fnExactLinkNetRow : OpenClaim := { program := "ytjfhbofgnagfaaadoor", sum := "f42f9a19f3f48fa642f8814481f5cd92e258171dbe27baa7883421188841e92a", func := "loop.example/g00872/laws.FnExactLinkNet", spec := "fnExactLinkNet", named := ["loop.example/g00872/impl.arities", "loop.example/g00872/impl.dualOperators"], apart := false, laid := [("loop.example/g00872/impl.arities", laid_loop_example_g00872_impl_arities), ("loop.example/g00872/impl.dualOperators", laid_loop_example_g00872_impl_dualOperators)] }
def FnExactLinkNetSaid : Prop := fnExactLinkNetRow.holds Tryd.pinned (OpenSpec.ofChange fnExactLinkNetSpec)

/-- ITS FALSE NEIGHBOUR: 'it returns false'. Refute it at one input. -/
def fnExactLinkNetWrong : ChangeSpec := { name := "fnExactLinkNet", vars := ["loop.example/g00872/impl.arities", "loop.example/g00872/impl.dualOperators"], fn := fun _ => fun
  | [d1, d2, d3, d4, g1, g2] => { results := [.lit (.bool false)], args := [d1, d2, d3, d4], vars := [g1, g2] }
  | _ => none }
def FnExactLinkNetWrongFalsely : Prop := fnExactLinkNetRow.holds Tryd.pinned (OpenSpec.ofChange fnExactLinkNetWrong)

/-- 'laws.FnExactRenumberNet': WHATEVER THE INPUT: true; the input reads as it did. -/
def fnExactRenumberNetSpec : ChangeSpec := { name := "fnExactRenumberNet", vars := ["loop.example/g00872/impl.arities", "loop.example/g00872/impl.dualOperators"], fn := fun _ => fun
  | [d1, d2, d3, g1, g2] => { results := [.lit (.bool true)], args := [d1, d2, d3], vars := [g1, g2] }
  | _ => none }
def fnExactRenumberNetRow : OpenClaim := { program := "ytjfhbofgnagfaaadoor", sum := "f42f9a19f3f48fa642f8814481f5cd92e258171dbe27baa7883421188841e92a", func := "loop.example/g00872/laws.FnExactRenumberNet", spec := "fnExactRenumberNet", recurses := true, named := ["loop.example/g00872/impl.arities", "loop.example/g00872/impl.dualOperators"], apart := false, laid := [("loop.example/g00872/impl.arities", laid_loop_example_g00872_impl_arities), ("loop.example/g00872/impl.dualOperators", laid_loop_example_g00872_impl_dualOperators)] }
def FnExactRenumberNetSaid : Prop := fnExactRenumberNetRow.holds Tryd.pinned (OpenSpec.ofChange fnExactRenumberNetSpec)

/-- ITS FALSE NEIGHBOUR: 'it returns false'. Refute it at one input. -/
def fnExactRenumberNetWrong : ChangeSpec := { name := "fnExactRenumberNet", vars := ["loop.example/g00872/impl.arities", "loop.example/g00872/impl.dualOperators"], fn := fun _ => fun
  | [d1, d2, d3, g1, g2] => { results := [.lit (.bool false)], args := [d1, d2, d3], vars := [g1, g2] }
  | _ => none }
def FnExactRenumberNetWrongFalsely : Prop := fnExactRenumberNetRow.holds Tryd.pinned (OpenSpec.ofChange fnExactRenumberNetWrong)

/- THE SECOND FORM. 'bulk': how many values and letters a reading holds, each counted each time it is reached (what is shared counts as often as it is met; a slice's spare places count too). A statement '..UptoSaid' is the law's where the arguments, and the package variables that the reading takes, are together of bulk at most 1048576: NARROWER than '..Said'. Prove '..Said' where nothing that the law and all that it calls make is longer than what came in: it says more and counts as full. Else prove '..UptoSaid'. A law counts once. -/
mutual
def uptoBulk {H : Type} : DataW H → Nat
  | .lit (.string bytes) => bytes.length + 1
  | .lit _ => 1
  | .nil => 1
  | .ptr d => uptoBulk d + 1
  | .slice elems spare => uptoBulkAll elems + uptoBulkAll spare + 1
  | .agg parts => uptoBulkAll parts + 1
  | .iface _ d => uptoBulk d + 1
  | .map entries => uptoBulkEntries entries + 1
  | .held _ => 1
def uptoBulkAll {H : Type} : List (DataW H) → Nat
  | [] => 0
  | d :: r => uptoBulk d + uptoBulkAll r
def uptoBulkEntries {H : Type} : List (Lit × DataW H) → Nat
  | [] => 0
  | x :: r => uptoBulkEntry x + uptoBulkEntries r
def uptoBulkEntry {H : Type} : Lit × DataW H → Nat
  | (.string bytes, d) => bytes.length + uptoBulk d + 1
  | (_, d) => uptoBulk d + 1
 end
def uptoSmall : (H : Type) → List (DataW H) → Bool := fun _ ds => decide (uptoBulkAll ds ≤ 1048576)
def OpenSpec.upto (s : _root_.Go.ChangeSpec) : _root_.Go.OpenSpec := { _root_.Go.OpenSpec.ofChange s with cond := some uptoSmall }

/-- 'laws.FnNetOps', WHERE WHAT IT READS IS OF BULK AT MOST 1048576: true; the input reads as it did. -/
def fnNetOpsUptoRow : OpenClaim := { program := "ytjfhbofgnagfaaadoor", sum := "f42f9a19f3f48fa642f8814481f5cd92e258171dbe27baa7883421188841e92a", func := "loop.example/g00872/laws.FnNetOps", spec := "fnNetOps", recurses := true, named := ["loop.example/g00872/impl.arities", "loop.example/g00872/impl.dualOperators"], apart := false, laid := [("loop.example/g00872/impl.arities", laid_loop_example_g00872_impl_arities), ("loop.example/g00872/impl.dualOperators", laid_loop_example_g00872_impl_dualOperators)], narrowed := true }
def FnNetOpsUptoSaid : Prop := fnNetOpsUptoRow.holds Tryd.pinned (OpenSpec.upto fnNetOpsSpec)

/-- 'laws.FnRenumber', WHERE WHAT IT READS IS OF BULK AT MOST 1048576: true; the input reads as it did. -/
def fnRenumberUptoRow : OpenClaim := { program := "ytjfhbofgnagfaaadoor", sum := "f42f9a19f3f48fa642f8814481f5cd92e258171dbe27baa7883421188841e92a", func := "loop.example/g00872/laws.FnRenumber", spec := "fnRenumber", recurses := true, named := ["loop.example/g00872/impl.arities", "loop.example/g00872/impl.dualOperators"], apart := false, laid := [("loop.example/g00872/impl.arities", laid_loop_example_g00872_impl_arities), ("loop.example/g00872/impl.dualOperators", laid_loop_example_g00872_impl_dualOperators)], narrowed := true }
def FnRenumberUptoSaid : Prop := fnRenumberUptoRow.holds Tryd.pinned (OpenSpec.upto fnRenumberSpec)

/-- 'laws.FnExactValidNet', WHERE WHAT IT READS IS OF BULK AT MOST 1048576: true; the input reads as it did. -/
def fnExactValidNetUptoRow : OpenClaim := { program := "ytjfhbofgnagfaaadoor", sum := "f42f9a19f3f48fa642f8814481f5cd92e258171dbe27baa7883421188841e92a", func := "loop.example/g00872/laws.FnExactValidNet", spec := "fnExactValidNet", named := ["loop.example/g00872/impl.arities", "loop.example/g00872/impl.dualOperators"], apart := false, laid := [("loop.example/g00872/impl.arities", laid_loop_example_g00872_impl_arities), ("loop.example/g00872/impl.dualOperators", laid_loop_example_g00872_impl_dualOperators)], narrowed := true }
def FnExactValidNetUptoSaid : Prop := fnExactValidNetUptoRow.holds Tryd.pinned (OpenSpec.upto fnExactValidNetSpec)

/-- 'laws.FnExactConclusionSeq', WHERE WHAT IT READS IS OF BULK AT MOST 1048576: true; the input reads as it did. -/
def fnExactConclusionSeqUptoRow : OpenClaim := { program := "ytjfhbofgnagfaaadoor", sum := "f42f9a19f3f48fa642f8814481f5cd92e258171dbe27baa7883421188841e92a", func := "loop.example/g00872/laws.FnExactConclusionSeq", spec := "fnExactConclusionSeq", named := ["loop.example/g00872/impl.arities", "loop.example/g00872/impl.dualOperators"], apart := false, laid := [("loop.example/g00872/impl.arities", laid_loop_example_g00872_impl_arities), ("loop.example/g00872/impl.dualOperators", laid_loop_example_g00872_impl_dualOperators)], narrowed := true }
def FnExactConclusionSeqUptoSaid : Prop := fnExactConclusionSeqUptoRow.holds Tryd.pinned (OpenSpec.upto fnExactConclusionSeqSpec)

/-- 'laws.FnExactSourceOf', WHERE WHAT IT READS IS OF BULK AT MOST 1048576: true; the input reads as it did. -/
def fnExactSourceOfUptoRow : OpenClaim := { program := "ytjfhbofgnagfaaadoor", sum := "f42f9a19f3f48fa642f8814481f5cd92e258171dbe27baa7883421188841e92a", func := "loop.example/g00872/laws.FnExactSourceOf", spec := "fnExactSourceOf", unfollowed := true, recurses := true, named := ["loop.example/g00872/impl.arities", "loop.example/g00872/impl.dualOperators"], apart := false, laid := [("loop.example/g00872/impl.arities", laid_loop_example_g00872_impl_arities), ("loop.example/g00872/impl.dualOperators", laid_loop_example_g00872_impl_dualOperators)], narrowed := true }
def FnExactSourceOfUptoSaid : Prop := fnExactSourceOfUptoRow.holds Tryd.pinned (OpenSpec.upto fnExactSourceOfSpec)

/-- 'laws.FnExactTargetOf', WHERE WHAT IT READS IS OF BULK AT MOST 1048576: true; the input reads as it did. -/
def fnExactTargetOfUptoRow : OpenClaim := { program := "ytjfhbofgnagfaaadoor", sum := "f42f9a19f3f48fa642f8814481f5cd92e258171dbe27baa7883421188841e92a", func := "loop.example/g00872/laws.FnExactTargetOf", spec := "fnExactTargetOf", unfollowed := true, recurses := true, named := ["loop.example/g00872/impl.arities", "loop.example/g00872/impl.dualOperators"], apart := false, laid := [("loop.example/g00872/impl.arities", laid_loop_example_g00872_impl_arities), ("loop.example/g00872/impl.dualOperators", laid_loop_example_g00872_impl_dualOperators)], narrowed := true }
def FnExactTargetOfUptoSaid : Prop := fnExactTargetOfUptoRow.holds Tryd.pinned (OpenSpec.upto fnExactTargetOfSpec)

/-- 'laws.FnExactLinksOfKind', WHERE WHAT IT READS IS OF BULK AT MOST 1048576: true; the input reads as it did. -/
def fnExactLinksOfKindUptoRow : OpenClaim := { program := "ytjfhbofgnagfaaadoor", sum := "f42f9a19f3f48fa642f8814481f5cd92e258171dbe27baa7883421188841e92a", func := "loop.example/g00872/laws.FnExactLinksOfKind", spec := "fnExactLinksOfKind", named := ["loop.example/g00872/impl.arities", "loop.example/g00872/impl.dualOperators"], apart := false, laid := [("loop.example/g00872/impl.arities", laid_loop_example_g00872_impl_arities), ("loop.example/g00872/impl.dualOperators", laid_loop_example_g00872_impl_dualOperators)], narrowed := true }
def FnExactLinksOfKindUptoSaid : Prop := fnExactLinksOfKindUptoRow.holds Tryd.pinned (OpenSpec.upto fnExactLinksOfKindSpec)

/-- 'laws.FnExactAxiomNet', WHERE WHAT IT READS IS OF BULK AT MOST 1048576: true; the input reads as it did. -/
def fnExactAxiomNetUptoRow : OpenClaim := { program := "ytjfhbofgnagfaaadoor", sum := "f42f9a19f3f48fa642f8814481f5cd92e258171dbe27baa7883421188841e92a", func := "loop.example/g00872/laws.FnExactAxiomNet", spec := "fnExactAxiomNet", named := ["loop.example/g00872/impl.arities", "loop.example/g00872/impl.dualOperators"], apart := false, laid := [("loop.example/g00872/impl.arities", laid_loop_example_g00872_impl_arities), ("loop.example/g00872/impl.dualOperators", laid_loop_example_g00872_impl_dualOperators)], narrowed := true }
def FnExactAxiomNetUptoSaid : Prop := fnExactAxiomNetUptoRow.holds Tryd.pinned (OpenSpec.upto fnExactAxiomNetSpec)

/-- 'laws.FnExactUnionNet', WHERE WHAT IT READS IS OF BULK AT MOST 1048576: true; the input reads as it did. -/
def fnExactUnionNetUptoRow : OpenClaim := { program := "ytjfhbofgnagfaaadoor", sum := "f42f9a19f3f48fa642f8814481f5cd92e258171dbe27baa7883421188841e92a", func := "loop.example/g00872/laws.FnExactUnionNet", spec := "fnExactUnionNet", named := ["loop.example/g00872/impl.arities", "loop.example/g00872/impl.dualOperators"], apart := false, laid := [("loop.example/g00872/impl.arities", laid_loop_example_g00872_impl_arities), ("loop.example/g00872/impl.dualOperators", laid_loop_example_g00872_impl_dualOperators)], narrowed := true }
def FnExactUnionNetUptoSaid : Prop := fnExactUnionNetUptoRow.holds Tryd.pinned (OpenSpec.upto fnExactUnionNetSpec)

/-- 'laws.FnExactLinkNet', WHERE WHAT IT READS IS OF BULK AT MOST 1048576: true; the input reads as it did. -/
def fnExactLinkNetUptoRow : OpenClaim := { program := "ytjfhbofgnagfaaadoor", sum := "f42f9a19f3f48fa642f8814481f5cd92e258171dbe27baa7883421188841e92a", func := "loop.example/g00872/laws.FnExactLinkNet", spec := "fnExactLinkNet", named := ["loop.example/g00872/impl.arities", "loop.example/g00872/impl.dualOperators"], apart := false, laid := [("loop.example/g00872/impl.arities", laid_loop_example_g00872_impl_arities), ("loop.example/g00872/impl.dualOperators", laid_loop_example_g00872_impl_dualOperators)], narrowed := true }
def FnExactLinkNetUptoSaid : Prop := fnExactLinkNetUptoRow.holds Tryd.pinned (OpenSpec.upto fnExactLinkNetSpec)

/-- 'laws.FnExactRenumberNet', WHERE WHAT IT READS IS OF BULK AT MOST 1048576: true; the input reads as it did. -/
def fnExactRenumberNetUptoRow : OpenClaim := { program := "ytjfhbofgnagfaaadoor", sum := "f42f9a19f3f48fa642f8814481f5cd92e258171dbe27baa7883421188841e92a", func := "loop.example/g00872/laws.FnExactRenumberNet", spec := "fnExactRenumberNet", recurses := true, named := ["loop.example/g00872/impl.arities", "loop.example/g00872/impl.dualOperators"], apart := false, laid := [("loop.example/g00872/impl.arities", laid_loop_example_g00872_impl_arities), ("loop.example/g00872/impl.dualOperators", laid_loop_example_g00872_impl_dualOperators)], narrowed := true }
def FnExactRenumberNetUptoSaid : Prop := fnExactRenumberNetUptoRow.holds Tryd.pinned (OpenSpec.upto fnExactRenumberNetSpec)

end Rows
end Go.Proofs.YtjfhbofgnagfaaaDoor
