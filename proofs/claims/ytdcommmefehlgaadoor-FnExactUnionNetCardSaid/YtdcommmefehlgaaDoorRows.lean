/-
  NARROWER THAN 'FOR EVERY INPUT', by the rows' own cells (each row's printed sentence says how): FnExactUnionNet: laid · FnExactLinkNet: laid · FnExactKindCounts: laid · FnEnds: laid · FnNetOps: laid · FnRenumber: laid.
  DERIVED. THE GIVEN ROWS OF THIS SEAT. 6 by the template 'for every input the law returns true; each argument reads behind the call as it read before'; 0 by the template 'total and deterministic' (their statements: YtdcommmefehlgaaDoorTotals.lean).
  GIVEN WITH THE SEED: the statements are not yours to turn. If you find one false, say at which input.
  Laid BY PROGRAM, IN A SANDBOX (cutbox-rows.mjs): the forced cells as the released guide's own fill.sh prints them over the translation 9cae5d47daff7fa9… (all of the seat's roots in one cut). By AI agents, Wed Nov 11 2026. No macro, syntax, notation, axiom, sorry.
-/
import Derived.Test.YtdcommmefehlgaaDoorChecked
import GoSem.Claim
import GoSem.ClaimJoined
import GoSem.ClaimMapViews
import Derived.JoinedTies
import Derived.KernelRfl
namespace Go.Proofs.YtdcommmefehlgaaDoor
/- THE CELL 'sum', in the pinned program and in every row, IS THE sha256 OF THE DUMP (.gsa) THAT YtdcommmefehlgaaDoorProg.lean LOADS. Nothing in Lean hashes anything: it is a label: what it is worth is what the hold of that sum in a sandbox is worth. -/
noncomputable def Tryd.pinned : Pinned := { name := "ytdcommmefehlgaadoor", sum := "9cae5d47daff7fa9c36fb1b03ea4571b9cca83cbdef48e351b2a7e6fb0fe6533", checked := Tryd.checked }
namespace Rows
def none {H : Type} : Left H := { results := [], args := [] }

/- WHAT THE LISTED PACKAGE-LEVEL VARIABLES READ AS WHEN THE CALL BEGINS. Each datum BY PROGRAM (the guide's laid-datum.mjs) off the statement by which the dump's own 'gosem.cut.vars' lays the variable. In a bare row this is a premise. The card (YtdcommmefehlgaaDoorCards.lean) ties it to the program's text. -/
def laid_loop_example_g00872_impl_arities {H : Type} : DataW H := .agg [.lit (.int .i64 0), .lit (.int .i64 0), .lit (.int .i64 0), .lit (.int .i64 0), .lit (.int .i64 0), .lit (.int .i64 0), .lit (.int .i64 0), .lit (.int .i64 0), .lit (.int .i64 0), .lit (.int .i64 0), .lit (.int .i64 0), .lit (.int .i64 2), .lit (.int .i64 2), .lit (.int .i64 0), .lit (.int .i64 0), .lit (.int .i64 2), .lit (.int .i64 2), .lit (.int .i64 1), .lit (.int .i64 1)]
def laid_loop_example_g00872_impl_dualOperators {H : Type} : DataW H := .agg [.lit (.int .i64 0), .lit (.int .i64 0), .lit (.int .i64 0), .lit (.int .i64 0), .lit (.int .i64 0), .lit (.int .i64 0), .lit (.int .i64 0), .lit (.int .i64 0), .lit (.int .i64 0), .lit (.int .i64 0), .lit (.int .i64 0), .lit (.int .i64 12), .lit (.int .i64 11), .lit (.int .i64 14), .lit (.int .i64 13), .lit (.int .i64 16), .lit (.int .i64 15), .lit (.int .i64 18), .lit (.int .i64 17)]

/-- 'laws.FnExactUnionNet': WHATEVER THE INPUT: true; the input reads as it did. -/
def fnExactUnionNetSpec : ChangeSpec := { name := "fnExactUnionNet", vars := ["loop.example/g00872/impl.arities", "loop.example/g00872/impl.dualOperators"], fn := fun _ => fun
  | [d1, d2, g1, g2] => { results := [.lit (.bool true)], args := [d1, d2], vars := [g1, g2] }
  | _ => none }
def fnExactUnionNetRow : OpenClaim := { program := "ytdcommmefehlgaadoor", sum := "9cae5d47daff7fa9c36fb1b03ea4571b9cca83cbdef48e351b2a7e6fb0fe6533", func := "loop.example/g00872/laws.FnExactUnionNet", spec := "fnExactUnionNet", named := ["loop.example/g00872/impl.arities", "loop.example/g00872/impl.dualOperators"], apart := false, laid := [("loop.example/g00872/impl.arities", laid_loop_example_g00872_impl_arities), ("loop.example/g00872/impl.dualOperators", laid_loop_example_g00872_impl_dualOperators)] }
def FnExactUnionNetSaid : Prop := fnExactUnionNetRow.holds Tryd.pinned (OpenSpec.ofChange fnExactUnionNetSpec)

/-- ITS FALSE NEIGHBOUR: 'it returns false'. Refute it at one input. -/
def fnExactUnionNetWrong : ChangeSpec := { name := "fnExactUnionNet", vars := ["loop.example/g00872/impl.arities", "loop.example/g00872/impl.dualOperators"], fn := fun _ => fun
  | [d1, d2, g1, g2] => { results := [.lit (.bool false)], args := [d1, d2], vars := [g1, g2] }
  | _ => none }
def FnExactUnionNetWrongFalsely : Prop := fnExactUnionNetRow.holds Tryd.pinned (OpenSpec.ofChange fnExactUnionNetWrong)

/-- 'laws.FnExactLinkNet': WHATEVER THE INPUT: true; the input reads as it did. -/
def fnExactLinkNetSpec : ChangeSpec := { name := "fnExactLinkNet", vars := ["loop.example/g00872/impl.arities", "loop.example/g00872/impl.dualOperators"], fn := fun _ => fun
  | [d1, d2, d3, d4, g1, g2] => { results := [.lit (.bool true)], args := [d1, d2, d3, d4], vars := [g1, g2] }
  | _ => none }
def fnExactLinkNetRow : OpenClaim := { program := "ytdcommmefehlgaadoor", sum := "9cae5d47daff7fa9c36fb1b03ea4571b9cca83cbdef48e351b2a7e6fb0fe6533", func := "loop.example/g00872/laws.FnExactLinkNet", spec := "fnExactLinkNet", named := ["loop.example/g00872/impl.arities", "loop.example/g00872/impl.dualOperators"], apart := false, laid := [("loop.example/g00872/impl.arities", laid_loop_example_g00872_impl_arities), ("loop.example/g00872/impl.dualOperators", laid_loop_example_g00872_impl_dualOperators)] }
def FnExactLinkNetSaid : Prop := fnExactLinkNetRow.holds Tryd.pinned (OpenSpec.ofChange fnExactLinkNetSpec)

/-- ITS FALSE NEIGHBOUR: 'it returns false'. Refute it at one input. -/
def fnExactLinkNetWrong : ChangeSpec := { name := "fnExactLinkNet", vars := ["loop.example/g00872/impl.arities", "loop.example/g00872/impl.dualOperators"], fn := fun _ => fun
  | [d1, d2, d3, d4, g1, g2] => { results := [.lit (.bool false)], args := [d1, d2, d3, d4], vars := [g1, g2] }
  | _ => none }
def FnExactLinkNetWrongFalsely : Prop := fnExactLinkNetRow.holds Tryd.pinned (OpenSpec.ofChange fnExactLinkNetWrong)

/-- 'laws.FnExactKindCounts': WHATEVER THE INPUT: true; the input reads as it did. -/
def fnExactKindCountsSpec : ChangeSpec := { name := "fnExactKindCounts", vars := ["loop.example/g00872/impl.arities", "loop.example/g00872/impl.dualOperators"], fn := fun _ => fun
  | [d, g1, g2] => { results := [.lit (.bool true)], args := [d], vars := [g1, g2] }
  | _ => none }
def fnExactKindCountsRow : OpenClaim := { program := "ytdcommmefehlgaadoor", sum := "9cae5d47daff7fa9c36fb1b03ea4571b9cca83cbdef48e351b2a7e6fb0fe6533", func := "loop.example/g00872/laws.FnExactKindCounts", spec := "fnExactKindCounts", named := ["loop.example/g00872/impl.arities", "loop.example/g00872/impl.dualOperators"], apart := false, laid := [("loop.example/g00872/impl.arities", laid_loop_example_g00872_impl_arities), ("loop.example/g00872/impl.dualOperators", laid_loop_example_g00872_impl_dualOperators)] }
def FnExactKindCountsSaid : Prop := fnExactKindCountsRow.holds Tryd.pinned (OpenSpec.ofChange fnExactKindCountsSpec)

/-- ITS FALSE NEIGHBOUR: 'it returns false'. Refute it at one input. -/
def fnExactKindCountsWrong : ChangeSpec := { name := "fnExactKindCounts", vars := ["loop.example/g00872/impl.arities", "loop.example/g00872/impl.dualOperators"], fn := fun _ => fun
  | [d, g1, g2] => { results := [.lit (.bool false)], args := [d], vars := [g1, g2] }
  | _ => none }
def FnExactKindCountsWrongFalsely : Prop := fnExactKindCountsRow.holds Tryd.pinned (OpenSpec.ofChange fnExactKindCountsWrong)

/-- 'laws.FnEnds': WHATEVER THE INPUT: true; the input reads as it did. -/
def fnEndsSpec : ChangeSpec := { name := "fnEnds", vars := ["loop.example/g00872/impl.arities", "loop.example/g00872/impl.dualOperators"], fn := fun _ => fun
  | [d, g1, g2] => { results := [.lit (.bool true)], args := [d], vars := [g1, g2] }
  | _ => none }
def fnEndsRow : OpenClaim := { program := "ytdcommmefehlgaadoor", sum := "9cae5d47daff7fa9c36fb1b03ea4571b9cca83cbdef48e351b2a7e6fb0fe6533", func := "loop.example/g00872/laws.FnEnds", spec := "fnEnds", unfollowed := true, recurses := true, named := ["loop.example/g00872/impl.arities", "loop.example/g00872/impl.dualOperators"], apart := false, laid := [("loop.example/g00872/impl.arities", laid_loop_example_g00872_impl_arities), ("loop.example/g00872/impl.dualOperators", laid_loop_example_g00872_impl_dualOperators)] }
def FnEndsSaid : Prop := fnEndsRow.holds Tryd.pinned (OpenSpec.ofChange fnEndsSpec)

/-- ITS FALSE NEIGHBOUR: 'it returns false'. Refute it at one input. -/
def fnEndsWrong : ChangeSpec := { name := "fnEnds", vars := ["loop.example/g00872/impl.arities", "loop.example/g00872/impl.dualOperators"], fn := fun _ => fun
  | [d, g1, g2] => { results := [.lit (.bool false)], args := [d], vars := [g1, g2] }
  | _ => none }
def FnEndsWrongFalsely : Prop := fnEndsRow.holds Tryd.pinned (OpenSpec.ofChange fnEndsWrong)

/-- 'laws.FnNetOps': WHATEVER THE INPUT: true; the input reads as it did. -/
def fnNetOpsSpec : ChangeSpec := { name := "fnNetOps", vars := ["loop.example/g00872/impl.arities", "loop.example/g00872/impl.dualOperators"], fn := fun _ => fun
  | [d, g1, g2] => { results := [.lit (.bool true)], args := [d], vars := [g1, g2] }
  | _ => none }
def fnNetOpsRow : OpenClaim := { program := "ytdcommmefehlgaadoor", sum := "9cae5d47daff7fa9c36fb1b03ea4571b9cca83cbdef48e351b2a7e6fb0fe6533", func := "loop.example/g00872/laws.FnNetOps", spec := "fnNetOps", recurses := true, named := ["loop.example/g00872/impl.arities", "loop.example/g00872/impl.dualOperators"], apart := false, laid := [("loop.example/g00872/impl.arities", laid_loop_example_g00872_impl_arities), ("loop.example/g00872/impl.dualOperators", laid_loop_example_g00872_impl_dualOperators)] }
def FnNetOpsSaid : Prop := fnNetOpsRow.holds Tryd.pinned (OpenSpec.ofChange fnNetOpsSpec)

/-- ITS FALSE NEIGHBOUR: 'it returns false'. Refute it at one input. -/
def fnNetOpsWrong : ChangeSpec := { name := "fnNetOps", vars := ["loop.example/g00872/impl.arities", "loop.example/g00872/impl.dualOperators"], fn := fun _ => fun
  | [d, g1, g2] => { results := [.lit (.bool false)], args := [d], vars := [g1, g2] }
  | _ => none }
def FnNetOpsWrongFalsely : Prop := fnNetOpsRow.holds Tryd.pinned (OpenSpec.ofChange fnNetOpsWrong)

/-- 'laws.FnRenumber': WHATEVER THE INPUT: true; the input reads as it did. -/
def fnRenumberSpec : ChangeSpec := { name := "fnRenumber", vars := ["loop.example/g00872/impl.arities", "loop.example/g00872/impl.dualOperators"], fn := fun _ => fun
  | [d, g1, g2] => { results := [.lit (.bool true)], args := [d], vars := [g1, g2] }
  | _ => none }
def fnRenumberRow : OpenClaim := { program := "ytdcommmefehlgaadoor", sum := "9cae5d47daff7fa9c36fb1b03ea4571b9cca83cbdef48e351b2a7e6fb0fe6533", func := "loop.example/g00872/laws.FnRenumber", spec := "fnRenumber", recurses := true, named := ["loop.example/g00872/impl.arities", "loop.example/g00872/impl.dualOperators"], apart := false, laid := [("loop.example/g00872/impl.arities", laid_loop_example_g00872_impl_arities), ("loop.example/g00872/impl.dualOperators", laid_loop_example_g00872_impl_dualOperators)] }
def FnRenumberSaid : Prop := fnRenumberRow.holds Tryd.pinned (OpenSpec.ofChange fnRenumberSpec)

/-- ITS FALSE NEIGHBOUR: 'it returns false'. Refute it at one input. -/
def fnRenumberWrong : ChangeSpec := { name := "fnRenumber", vars := ["loop.example/g00872/impl.arities", "loop.example/g00872/impl.dualOperators"], fn := fun _ => fun
  | [d, g1, g2] => { results := [.lit (.bool false)], args := [d], vars := [g1, g2] }
  | _ => none }
def FnRenumberWrongFalsely : Prop := fnRenumberRow.holds Tryd.pinned (OpenSpec.ofChange fnRenumberWrong)

/- THE SECOND FORM. 'bulk': how many values and letters a reading holds, each counted each time it is reached (what is shared counts as often as it is met; a slice's spare places count too). A statement '..UptoSaid' is the law's where the arguments, and the package variables that the reading takes, are together of bulk at most 1048576: NARROWER than '..Said'. Prove '..Said' where nothing that the law and all that it calls make is longer than what came in: it says more and counts as full. Else prove '..UptoSaid'. A law counts once. -/
mutual
def uptoBulk {H : Type} : DataW H → Nat
  | .lit (.string bytes) => bytes.length + 1
  | .lit _ => 1
  | .nil => 1
  | .ptr d => uptoBulk d + 1
  | .slice elems spare => uptoBulkAll elems + uptoBulkAll spare + 1
  | .agg parts => uptoBulkAll parts + 1
  | .iface _ d => uptoBulk d + 1
  | .map entries => uptoBulkEntries entries + 1
  | .held _ => 1
def uptoBulkAll {H : Type} : List (DataW H) → Nat
  | [] => 0
  | d :: r => uptoBulk d + uptoBulkAll r
def uptoBulkEntries {H : Type} : List (Lit × DataW H) → Nat
  | [] => 0
  | x :: r => uptoBulkEntry x + uptoBulkEntries r
def uptoBulkEntry {H : Type} : Lit × DataW H → Nat
  | (.string bytes, d) => bytes.length + uptoBulk d + 1
  | (_, d) => uptoBulk d + 1
 end
def uptoSmall : (H : Type) → List (DataW H) → Bool := fun _ ds => decide (uptoBulkAll ds ≤ 1048576)
def OpenSpec.upto (s : _root_.Go.ChangeSpec) : _root_.Go.OpenSpec := { _root_.Go.OpenSpec.ofChange s with cond := some uptoSmall }

/-- 'laws.FnExactUnionNet', WHERE WHAT IT READS IS OF BULK AT MOST 1048576: true; the input reads as it did. -/
def fnExactUnionNetUptoRow : OpenClaim := { program := "ytdcommmefehlgaadoor", sum := "9cae5d47daff7fa9c36fb1b03ea4571b9cca83cbdef48e351b2a7e6fb0fe6533", func := "loop.example/g00872/laws.FnExactUnionNet", spec := "fnExactUnionNet", named := ["loop.example/g00872/impl.arities", "loop.example/g00872/impl.dualOperators"], apart := false, laid := [("loop.example/g00872/impl.arities", laid_loop_example_g00872_impl_arities), ("loop.example/g00872/impl.dualOperators", laid_loop_example_g00872_impl_dualOperators)], narrowed := true }
def FnExactUnionNetUptoSaid : Prop := fnExactUnionNetUptoRow.holds Tryd.pinned (OpenSpec.upto fnExactUnionNetSpec)

/-- 'laws.FnExactLinkNet', WHERE WHAT IT READS IS OF BULK AT MOST 1048576: true; the input reads as it did. -/
def fnExactLinkNetUptoRow : OpenClaim := { program := "ytdcommmefehlgaadoor", sum := "9cae5d47daff7fa9c36fb1b03ea4571b9cca83cbdef48e351b2a7e6fb0fe6533", func := "loop.example/g00872/laws.FnExactLinkNet", spec := "fnExactLinkNet", named := ["loop.example/g00872/impl.arities", "loop.example/g00872/impl.dualOperators"], apart := false, laid := [("loop.example/g00872/impl.arities", laid_loop_example_g00872_impl_arities), ("loop.example/g00872/impl.dualOperators", laid_loop_example_g00872_impl_dualOperators)], narrowed := true }
def FnExactLinkNetUptoSaid : Prop := fnExactLinkNetUptoRow.holds Tryd.pinned (OpenSpec.upto fnExactLinkNetSpec)

/-- 'laws.FnExactKindCounts', WHERE WHAT IT READS IS OF BULK AT MOST 1048576: true; the input reads as it did. -/
def fnExactKindCountsUptoRow : OpenClaim := { program := "ytdcommmefehlgaadoor", sum := "9cae5d47daff7fa9c36fb1b03ea4571b9cca83cbdef48e351b2a7e6fb0fe6533", func := "loop.example/g00872/laws.FnExactKindCounts", spec := "fnExactKindCounts", named := ["loop.example/g00872/impl.arities", "loop.example/g00872/impl.dualOperators"], apart := false, laid := [("loop.example/g00872/impl.arities", laid_loop_example_g00872_impl_arities), ("loop.example/g00872/impl.dualOperators", laid_loop_example_g00872_impl_dualOperators)], narrowed := true }
def FnExactKindCountsUptoSaid : Prop := fnExactKindCountsUptoRow.holds Tryd.pinned (OpenSpec.upto fnExactKindCountsSpec)

/-- 'laws.FnEnds', WHERE WHAT IT READS IS OF BULK AT MOST 1048576: true; the input reads as it did. -/
def fnEndsUptoRow : OpenClaim := { program := "ytdcommmefehlgaadoor", sum := "9cae5d47daff7fa9c36fb1b03ea4571b9cca83cbdef48e351b2a7e6fb0fe6533", func := "loop.example/g00872/laws.FnEnds", spec := "fnEnds", unfollowed := true, recurses := true, named := ["loop.example/g00872/impl.arities", "loop.example/g00872/impl.dualOperators"], apart := false, laid := [("loop.example/g00872/impl.arities", laid_loop_example_g00872_impl_arities), ("loop.example/g00872/impl.dualOperators", laid_loop_example_g00872_impl_dualOperators)], narrowed := true }
def FnEndsUptoSaid : Prop := fnEndsUptoRow.holds Tryd.pinned (OpenSpec.upto fnEndsSpec)

/-- 'laws.FnNetOps', WHERE WHAT IT READS IS OF BULK AT MOST 1048576: true; the input reads as it did. -/
def fnNetOpsUptoRow : OpenClaim := { program := "ytdcommmefehlgaadoor", sum := "9cae5d47daff7fa9c36fb1b03ea4571b9cca83cbdef48e351b2a7e6fb0fe6533", func := "loop.example/g00872/laws.FnNetOps", spec := "fnNetOps", recurses := true, named := ["loop.example/g00872/impl.arities", "loop.example/g00872/impl.dualOperators"], apart := false, laid := [("loop.example/g00872/impl.arities", laid_loop_example_g00872_impl_arities), ("loop.example/g00872/impl.dualOperators", laid_loop_example_g00872_impl_dualOperators)], narrowed := true }
def FnNetOpsUptoSaid : Prop := fnNetOpsUptoRow.holds Tryd.pinned (OpenSpec.upto fnNetOpsSpec)

/-- 'laws.FnRenumber', WHERE WHAT IT READS IS OF BULK AT MOST 1048576: true; the input reads as it did. -/
def fnRenumberUptoRow : OpenClaim := { program := "ytdcommmefehlgaadoor", sum := "9cae5d47daff7fa9c36fb1b03ea4571b9cca83cbdef48e351b2a7e6fb0fe6533", func := "loop.example/g00872/laws.FnRenumber", spec := "fnRenumber", recurses := true, named := ["loop.example/g00872/impl.arities", "loop.example/g00872/impl.dualOperators"], apart := false, laid := [("loop.example/g00872/impl.arities", laid_loop_example_g00872_impl_arities), ("loop.example/g00872/impl.dualOperators", laid_loop_example_g00872_impl_dualOperators)], narrowed := true }
def FnRenumberUptoSaid : Prop := fnRenumberUptoRow.holds Tryd.pinned (OpenSpec.upto fnRenumberSpec)

end Rows
end Go.Proofs.YtdcommmefehlgaaDoor
