/-
  NARROWER THAN 'FOR EVERY INPUT', by the rows' own cells (each row's printed sentence says how): FnExactGraphOfNet: laid · FnExactCorrectByContraction: laid · FnExactFailingSwitching: laid · FnExactCorrectBySwitchings: laid.
  DERIVED. THE GIVEN ROWS OF THIS SEAT. 4 by the template 'for every input the law returns true; each argument reads behind the call as it read before'; 0 by the template 'total and deterministic' (their statements: YtlcapifgpcimpaaDoorTotals.lean).
  GIVEN WITH THE SEED: the statements are not yours to turn. If you find one false, say at which input.
  Laid BY PROGRAM, IN A SANDBOX (cutbox-rows.mjs): the forced cells as the released guide's own fill.sh prints them over the translation c0eca2af54db23e4… (all of the seat's roots in one cut). By AI agents, Wed Nov 11 2026. No macro, syntax, notation, axiom, sorry.
-/
import Derived.Test.YtlcapifgpcimpaaDoorChecked
import GoSem.Claim
import GoSem.ClaimJoined
import GoSem.ClaimMapViews
import Derived.JoinedTies
import Derived.KernelRfl
namespace Go.Proofs.YtlcapifgpcimpaaDoor
/- THE CELL 'sum', in the pinned program and in every row, IS THE sha256 OF THE DUMP (.gsa) THAT YtlcapifgpcimpaaDoorProg.lean LOADS. Nothing in Lean hashes anything: it is a label: what it is worth is what the hold of that sum in a sandbox is worth. -/
noncomputable def Tryd.pinned : Pinned := { name := "ytlcapifgpcimpaadoor", sum := "c0eca2af54db23e4c6fc97bb818ef42f926d9e2d3756a6ba857e920214cfdcfe", checked := Tryd.checked }
namespace Rows
def none {H : Type} : Left H := { results := [], args := [] }

/- WHAT THE LISTED PACKAGE-LEVEL VARIABLES READ AS WHEN THE CALL BEGINS. Each datum BY PROGRAM (the guide's laid-datum.mjs) off the statement by which the dump's own 'gosem.cut.vars' lays the variable. In a bare row this is a premise. The card (YtlcapifgpcimpaaDoorCards.lean) ties it to the program's text. -/
def laid_loop_example_g00872_impl_arities {H : Type} : DataW H := .agg [.lit (.int .i64 0), .lit (.int .i64 0), .lit (.int .i64 0), .lit (.int .i64 0), .lit (.int .i64 0), .lit (.int .i64 0), .lit (.int .i64 0), .lit (.int .i64 0), .lit (.int .i64 0), .lit (.int .i64 0), .lit (.int .i64 0), .lit (.int .i64 2), .lit (.int .i64 2), .lit (.int .i64 0), .lit (.int .i64 0), .lit (.int .i64 2), .lit (.int .i64 2), .lit (.int .i64 1), .lit (.int .i64 1)]
def laid_loop_example_g00872_impl_dualOperators {H : Type} : DataW H := .agg [.lit (.int .i64 0), .lit (.int .i64 0), .lit (.int .i64 0), .lit (.int .i64 0), .lit (.int .i64 0), .lit (.int .i64 0), .lit (.int .i64 0), .lit (.int .i64 0), .lit (.int .i64 0), .lit (.int .i64 0), .lit (.int .i64 0), .lit (.int .i64 12), .lit (.int .i64 11), .lit (.int .i64 14), .lit (.int .i64 13), .lit (.int .i64 16), .lit (.int .i64 15), .lit (.int .i64 18), .lit (.int .i64 17)]

/-- 'laws.FnExactGraphOfNet': WHATEVER THE INPUT: true; the input reads as it did. -/
def fnExactGraphOfNetSpec : ChangeSpec := { name := "fnExactGraphOfNet", vars := ["loop.example/g00872/impl.arities", "loop.example/g00872/impl.dualOperators"], fn := fun _ => fun
  | [d, g1, g2] => { results := [.lit (.bool true)], args := [d], vars := [g1, g2] }
  | _ => none }
def fnExactGraphOfNetRow : OpenClaim := { program := "ytlcapifgpcimpaadoor", sum := "c0eca2af54db23e4c6fc97bb818ef42f926d9e2d3756a6ba857e920214cfdcfe", func := "loop.example/g00872/laws.FnExactGraphOfNet", spec := "fnExactGraphOfNet", unfollowed := true, recurses := true, named := ["loop.example/g00872/impl.arities", "loop.example/g00872/impl.dualOperators"], apart := false, laid := [("loop.example/g00872/impl.arities", laid_loop_example_g00872_impl_arities), ("loop.example/g00872/impl.dualOperators", laid_loop_example_g00872_impl_dualOperators)] }
def FnExactGraphOfNetSaid : Prop := fnExactGraphOfNetRow.holds Tryd.pinned (OpenSpec.ofChange fnExactGraphOfNetSpec)

/-- ITS FALSE NEIGHBOUR: 'it returns false'. Refute it at one input. -/
def fnExactGraphOfNetWrong : ChangeSpec := { name := "fnExactGraphOfNet", vars := ["loop.example/g00872/impl.arities", "loop.example/g00872/impl.dualOperators"], fn := fun _ => fun
  | [d, g1, g2] => { results := [.lit (.bool false)], args := [d], vars := [g1, g2] }
  | _ => none }
def FnExactGraphOfNetWrongFalsely : Prop := fnExactGraphOfNetRow.holds Tryd.pinned (OpenSpec.ofChange fnExactGraphOfNetWrong)

/-- 'laws.FnExactCorrectByContraction': WHATEVER THE INPUT: true; the input reads as it did. -/
def fnExactCorrectByContractionSpec : ChangeSpec := { name := "fnExactCorrectByContraction", vars := ["loop.example/g00872/impl.arities", "loop.example/g00872/impl.dualOperators"], fn := fun _ => fun
  | [d, g1, g2] => { results := [.lit (.bool true)], args := [d], vars := [g1, g2] }
  | _ => none }
def fnExactCorrectByContractionRow : OpenClaim := { program := "ytlcapifgpcimpaadoor", sum := "c0eca2af54db23e4c6fc97bb818ef42f926d9e2d3756a6ba857e920214cfdcfe", func := "loop.example/g00872/laws.FnExactCorrectByContraction", spec := "fnExactCorrectByContraction", unfollowed := true, recurses := true, named := ["loop.example/g00872/impl.arities", "loop.example/g00872/impl.dualOperators"], apart := false, laid := [("loop.example/g00872/impl.arities", laid_loop_example_g00872_impl_arities), ("loop.example/g00872/impl.dualOperators", laid_loop_example_g00872_impl_dualOperators)] }
def FnExactCorrectByContractionSaid : Prop := fnExactCorrectByContractionRow.holds Tryd.pinned (OpenSpec.ofChange fnExactCorrectByContractionSpec)

/-- ITS FALSE NEIGHBOUR: 'it returns false'. Refute it at one input. -/
def fnExactCorrectByContractionWrong : ChangeSpec := { name := "fnExactCorrectByContraction", vars := ["loop.example/g00872/impl.arities", "loop.example/g00872/impl.dualOperators"], fn := fun _ => fun
  | [d, g1, g2] => { results := [.lit (.bool false)], args := [d], vars := [g1, g2] }
  | _ => none }
def FnExactCorrectByContractionWrongFalsely : Prop := fnExactCorrectByContractionRow.holds Tryd.pinned (OpenSpec.ofChange fnExactCorrectByContractionWrong)

/-- 'laws.FnExactFailingSwitching': WHATEVER THE INPUT: true; the input reads as it did. -/
def fnExactFailingSwitchingSpec : ChangeSpec := { name := "fnExactFailingSwitching", vars := ["loop.example/g00872/impl.arities", "loop.example/g00872/impl.dualOperators"], fn := fun _ => fun
  | [d, g1, g2] => { results := [.lit (.bool true)], args := [d], vars := [g1, g2] }
  | _ => none }
def fnExactFailingSwitchingRow : OpenClaim := { program := "ytlcapifgpcimpaadoor", sum := "c0eca2af54db23e4c6fc97bb818ef42f926d9e2d3756a6ba857e920214cfdcfe", func := "loop.example/g00872/laws.FnExactFailingSwitching", spec := "fnExactFailingSwitching", unfollowed := true, recurses := true, named := ["loop.example/g00872/impl.arities", "loop.example/g00872/impl.dualOperators"], apart := false, laid := [("loop.example/g00872/impl.arities", laid_loop_example_g00872_impl_arities), ("loop.example/g00872/impl.dualOperators", laid_loop_example_g00872_impl_dualOperators)] }
def FnExactFailingSwitchingSaid : Prop := fnExactFailingSwitchingRow.holds Tryd.pinned (OpenSpec.ofChange fnExactFailingSwitchingSpec)

/-- ITS FALSE NEIGHBOUR: 'it returns false'. Refute it at one input. -/
def fnExactFailingSwitchingWrong : ChangeSpec := { name := "fnExactFailingSwitching", vars := ["loop.example/g00872/impl.arities", "loop.example/g00872/impl.dualOperators"], fn := fun _ => fun
  | [d, g1, g2] => { results := [.lit (.bool false)], args := [d], vars := [g1, g2] }
  | _ => none }
def FnExactFailingSwitchingWrongFalsely : Prop := fnExactFailingSwitchingRow.holds Tryd.pinned (OpenSpec.ofChange fnExactFailingSwitchingWrong)

/-- 'laws.FnExactCorrectBySwitchings': WHATEVER THE INPUT: true; the input reads as it did. -/
def fnExactCorrectBySwitchingsSpec : ChangeSpec := { name := "fnExactCorrectBySwitchings", vars := ["loop.example/g00872/impl.arities", "loop.example/g00872/impl.dualOperators"], fn := fun _ => fun
  | [d, g1, g2] => { results := [.lit (.bool true)], args := [d], vars := [g1, g2] }
  | _ => none }
def fnExactCorrectBySwitchingsRow : OpenClaim := { program := "ytlcapifgpcimpaadoor", sum := "c0eca2af54db23e4c6fc97bb818ef42f926d9e2d3756a6ba857e920214cfdcfe", func := "loop.example/g00872/laws.FnExactCorrectBySwitchings", spec := "fnExactCorrectBySwitchings", unfollowed := true, recurses := true, named := ["loop.example/g00872/impl.arities", "loop.example/g00872/impl.dualOperators"], apart := false, laid := [("loop.example/g00872/impl.arities", laid_loop_example_g00872_impl_arities), ("loop.example/g00872/impl.dualOperators", laid_loop_example_g00872_impl_dualOperators)] }
def FnExactCorrectBySwitchingsSaid : Prop := fnExactCorrectBySwitchingsRow.holds Tryd.pinned (OpenSpec.ofChange fnExactCorrectBySwitchingsSpec)

/-- ITS FALSE NEIGHBOUR: 'it returns false'. Refute it at one input. -/
def fnExactCorrectBySwitchingsWrong : ChangeSpec := { name := "fnExactCorrectBySwitchings", vars := ["loop.example/g00872/impl.arities", "loop.example/g00872/impl.dualOperators"], fn := fun _ => fun
  | [d, g1, g2] => { results := [.lit (.bool false)], args := [d], vars := [g1, g2] }
  | _ => none }
def FnExactCorrectBySwitchingsWrongFalsely : Prop := fnExactCorrectBySwitchingsRow.holds Tryd.pinned (OpenSpec.ofChange fnExactCorrectBySwitchingsWrong)

/- THE SECOND FORM. 'bulk': how many values and letters a reading holds, each counted each time it is reached (what is shared counts as often as it is met; a slice's spare places count too). A statement '..UptoSaid' is the law's where the arguments, and the package variables that the reading takes, are together of bulk at most 1048576: NARROWER than '..Said'. Prove '..Said' where nothing that the law and all that it calls make is longer than what came in: it says more and counts as full. Else prove '..UptoSaid'. A law counts once. -/
mutual
def uptoBulk {H : Type} : DataW H → Nat
  | .lit (.string bytes) => bytes.length + 1
  | .lit _ => 1
  | .nil => 1
  | .ptr d => uptoBulk d + 1
  | .slice elems spare => uptoBulkAll elems + uptoBulkAll spare + 1
  | .agg parts => uptoBulkAll parts + 1
  | .iface _ d => uptoBulk d + 1
  | .map entries => uptoBulkEntries entries + 1
  | .held _ => 1
def uptoBulkAll {H : Type} : List (DataW H) → Nat
  | [] => 0
  | d :: r => uptoBulk d + uptoBulkAll r
def uptoBulkEntries {H : Type} : List (Lit × DataW H) → Nat
  | [] => 0
  | x :: r => uptoBulkEntry x + uptoBulkEntries r
def uptoBulkEntry {H : Type} : Lit × DataW H → Nat
  | (.string bytes, d) => bytes.length + uptoBulk d + 1
  | (_, d) => uptoBulk d + 1
 end
def uptoSmall : (H : Type) → List (DataW H) → Bool := fun _ ds => decide (uptoBulkAll ds ≤ 1048576)
def OpenSpec.upto (s : _root_.Go.ChangeSpec) : _root_.Go.OpenSpec := { _root_.Go.OpenSpec.ofChange s with cond := some uptoSmall }

/-- 'laws.FnExactGraphOfNet', WHERE WHAT IT READS IS OF BULK AT MOST 1048576: true; the input reads as it did. -/
def fnExactGraphOfNetUptoRow : OpenClaim := { program := "ytlcapifgpcimpaadoor", sum := "c0eca2af54db23e4c6fc97bb818ef42f926d9e2d3756a6ba857e920214cfdcfe", func := "loop.example/g00872/laws.FnExactGraphOfNet", spec := "fnExactGraphOfNet", unfollowed := true, recurses := true, named := ["loop.example/g00872/impl.arities", "loop.example/g00872/impl.dualOperators"], apart := false, laid := [("loop.example/g00872/impl.arities", laid_loop_example_g00872_impl_arities), ("loop.example/g00872/impl.dualOperators", laid_loop_example_g00872_impl_dualOperators)], narrowed := true }
def FnExactGraphOfNetUptoSaid : Prop := fnExactGraphOfNetUptoRow.holds Tryd.pinned (OpenSpec.upto fnExactGraphOfNetSpec)

/-- 'laws.FnExactCorrectByContraction', WHERE WHAT IT READS IS OF BULK AT MOST 1048576: true; the input reads as it did. -/
def fnExactCorrectByContractionUptoRow : OpenClaim := { program := "ytlcapifgpcimpaadoor", sum := "c0eca2af54db23e4c6fc97bb818ef42f926d9e2d3756a6ba857e920214cfdcfe", func := "loop.example/g00872/laws.FnExactCorrectByContraction", spec := "fnExactCorrectByContraction", unfollowed := true, recurses := true, named := ["loop.example/g00872/impl.arities", "loop.example/g00872/impl.dualOperators"], apart := false, laid := [("loop.example/g00872/impl.arities", laid_loop_example_g00872_impl_arities), ("loop.example/g00872/impl.dualOperators", laid_loop_example_g00872_impl_dualOperators)], narrowed := true }
def FnExactCorrectByContractionUptoSaid : Prop := fnExactCorrectByContractionUptoRow.holds Tryd.pinned (OpenSpec.upto fnExactCorrectByContractionSpec)

/-- 'laws.FnExactFailingSwitching', WHERE WHAT IT READS IS OF BULK AT MOST 1048576: true; the input reads as it did. -/
def fnExactFailingSwitchingUptoRow : OpenClaim := { program := "ytlcapifgpcimpaadoor", sum := "c0eca2af54db23e4c6fc97bb818ef42f926d9e2d3756a6ba857e920214cfdcfe", func := "loop.example/g00872/laws.FnExactFailingSwitching", spec := "fnExactFailingSwitching", unfollowed := true, recurses := true, named := ["loop.example/g00872/impl.arities", "loop.example/g00872/impl.dualOperators"], apart := false, laid := [("loop.example/g00872/impl.arities", laid_loop_example_g00872_impl_arities), ("loop.example/g00872/impl.dualOperators", laid_loop_example_g00872_impl_dualOperators)], narrowed := true }
def FnExactFailingSwitchingUptoSaid : Prop := fnExactFailingSwitchingUptoRow.holds Tryd.pinned (OpenSpec.upto fnExactFailingSwitchingSpec)

/-- 'laws.FnExactCorrectBySwitchings', WHERE WHAT IT READS IS OF BULK AT MOST 1048576: true; the input reads as it did. -/
def fnExactCorrectBySwitchingsUptoRow : OpenClaim := { program := "ytlcapifgpcimpaadoor", sum := "c0eca2af54db23e4c6fc97bb818ef42f926d9e2d3756a6ba857e920214cfdcfe", func := "loop.example/g00872/laws.FnExactCorrectBySwitchings", spec := "fnExactCorrectBySwitchings", unfollowed := true, recurses := true, named := ["loop.example/g00872/impl.arities", "loop.example/g00872/impl.dualOperators"], apart := false, laid := [("loop.example/g00872/impl.arities", laid_loop_example_g00872_impl_arities), ("loop.example/g00872/impl.dualOperators", laid_loop_example_g00872_impl_dualOperators)], narrowed := true }
def FnExactCorrectBySwitchingsUptoSaid : Prop := fnExactCorrectBySwitchingsUptoRow.holds Tryd.pinned (OpenSpec.upto fnExactCorrectBySwitchingsSpec)

end Rows
end Go.Proofs.YtlcapifgpcimpaaDoor
