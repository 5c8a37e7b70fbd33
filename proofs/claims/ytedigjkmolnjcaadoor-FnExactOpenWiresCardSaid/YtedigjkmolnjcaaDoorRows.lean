/-
  NARROWER THAN 'FOR EVERY INPUT', by the rows' own cells (each row's printed sentence says how): FnExactIsFiringSequence: laid · FnExactReadyLinks: laid · FnExactPartsAfter: laid · FnExactOpenWires: laid · FnExactFiringOrder: laid · FnExactLastFiringOrder: laid · FnExactStuckLinks: laid · FnExactCorrectByParsing: laid.
  DERIVED. THE GIVEN ROWS OF THIS SEAT. 8 by the template 'for every input the law returns true; each argument reads behind the call as it read before'; 0 by the template 'total and deterministic' (their statements: YtedigjkmolnjcaaDoorTotals.lean).
  GIVEN WITH THE SEED: the statements are not yours to turn. If you find one false, say at which input.
  Laid BY PROGRAM, IN A SANDBOX (cutbox-rows.mjs): the forced cells as the released guide's own fill.sh prints them over the translation 1151085cd2be3c6e… (all of the seat's roots in one cut). By AI agents, Wed Nov 11 2026. No macro, syntax, notation, axiom, sorry.
-/
import Derived.Test.YtedigjkmolnjcaaDoorChecked
import GoSem.Claim
import GoSem.ClaimJoined
import GoSem.ClaimMapViews
import Derived.JoinedTies
import Derived.KernelRfl
namespace Go.Proofs.YtedigjkmolnjcaaDoor
/- THE CELL 'sum', in the pinned program and in every row, IS THE sha256 OF THE DUMP (.gsa) THAT YtedigjkmolnjcaaDoorProg.lean LOADS. Nothing in Lean hashes anything: it is a label: what it is worth is what the hold of that sum in a sandbox is worth. -/
noncomputable def Tryd.pinned : Pinned := { name := "ytedigjkmolnjcaadoor", sum := "1151085cd2be3c6e5f68b0100b0a6a602ba5ad4af1b03456dc09fc9d2353874b", checked := Tryd.checked }
namespace Rows
def none {H : Type} : Left H := { results := [], args := [] }

/- WHAT THE LISTED PACKAGE-LEVEL VARIABLES READ AS WHEN THE CALL BEGINS. Each datum BY PROGRAM (the guide's laid-datum.mjs) off the statement by which the dump's own 'gosem.cut.vars' lays the variable. In a bare row this is a premise. The card (YtedigjkmolnjcaaDoorCards.lean) ties it to the program's text. -/
def laid_loop_example_g00872_impl_arities {H : Type} : DataW H := .agg [.lit (.int .i64 0), .lit (.int .i64 0), .lit (.int .i64 0), .lit (.int .i64 0), .lit (.int .i64 0), .lit (.int .i64 0), .lit (.int .i64 0), .lit (.int .i64 0), .lit (.int .i64 0), .lit (.int .i64 0), .lit (.int .i64 0), .lit (.int .i64 2), .lit (.int .i64 2), .lit (.int .i64 0), .lit (.int .i64 0), .lit (.int .i64 2), .lit (.int .i64 2), .lit (.int .i64 1), .lit (.int .i64 1)]
def laid_loop_example_g00872_impl_dualOperators {H : Type} : DataW H := .agg [.lit (.int .i64 0), .lit (.int .i64 0), .lit (.int .i64 0), .lit (.int .i64 0), .lit (.int .i64 0), .lit (.int .i64 0), .lit (.int .i64 0), .lit (.int .i64 0), .lit (.int .i64 0), .lit (.int .i64 0), .lit (.int .i64 0), .lit (.int .i64 12), .lit (.int .i64 11), .lit (.int .i64 14), .lit (.int .i64 13), .lit (.int .i64 16), .lit (.int .i64 15), .lit (.int .i64 18), .lit (.int .i64 17)]

/-- 'laws.FnExactIsFiringSequence': WHATEVER THE INPUT: true; the input reads as it did. -/
def fnExactIsFiringSequenceSpec : ChangeSpec := { name := "fnExactIsFiringSequence", vars := ["loop.example/g00872/impl.arities", "loop.example/g00872/impl.dualOperators"], fn := fun _ => fun
  | [d1, d2, g1, g2] => { results := [.lit (.bool true)], args := [d1, d2], vars := [g1, g2] }
  | _ => none }
def fnExactIsFiringSequenceRow : OpenClaim := { program := "ytedigjkmolnjcaadoor", sum := "1151085cd2be3c6e5f68b0100b0a6a602ba5ad4af1b03456dc09fc9d2353874b", func := "loop.example/g00872/laws.FnExactIsFiringSequence", spec := "fnExactIsFiringSequence", unfollowed := true, recurses := true, named := ["loop.example/g00872/impl.arities", "loop.example/g00872/impl.dualOperators"], apart := false, laid := [("loop.example/g00872/impl.arities", laid_loop_example_g00872_impl_arities), ("loop.example/g00872/impl.dualOperators", laid_loop_example_g00872_impl_dualOperators)] }
def FnExactIsFiringSequenceSaid : Prop := fnExactIsFiringSequenceRow.holds Tryd.pinned (OpenSpec.ofChange fnExactIsFiringSequenceSpec)

/-- ITS FALSE NEIGHBOUR: 'it returns false'. Refute it at one input. -/
def fnExactIsFiringSequenceWrong : ChangeSpec := { name := "fnExactIsFiringSequence", vars := ["loop.example/g00872/impl.arities", "loop.example/g00872/impl.dualOperators"], fn := fun _ => fun
  | [d1, d2, g1, g2] => { results := [.lit (.bool false)], args := [d1, d2], vars := [g1, g2] }
  | _ => none }
def FnExactIsFiringSequenceWrongFalsely : Prop := fnExactIsFiringSequenceRow.holds Tryd.pinned (OpenSpec.ofChange fnExactIsFiringSequenceWrong)

/-- 'laws.FnExactReadyLinks': WHATEVER THE INPUT: true; the input reads as it did. -/
def fnExactReadyLinksSpec : ChangeSpec := { name := "fnExactReadyLinks", vars := ["loop.example/g00872/impl.arities", "loop.example/g00872/impl.dualOperators"], fn := fun _ => fun
  | [d1, d2, g1, g2] => { results := [.lit (.bool true)], args := [d1, d2], vars := [g1, g2] }
  | _ => none }
def fnExactReadyLinksRow : OpenClaim := { program := "ytedigjkmolnjcaadoor", sum := "1151085cd2be3c6e5f68b0100b0a6a602ba5ad4af1b03456dc09fc9d2353874b", func := "loop.example/g00872/laws.FnExactReadyLinks", spec := "fnExactReadyLinks", unfollowed := true, recurses := true, named := ["loop.example/g00872/impl.arities", "loop.example/g00872/impl.dualOperators"], apart := false, laid := [("loop.example/g00872/impl.arities", laid_loop_example_g00872_impl_arities), ("loop.example/g00872/impl.dualOperators", laid_loop_example_g00872_impl_dualOperators)] }
def FnExactReadyLinksSaid : Prop := fnExactReadyLinksRow.holds Tryd.pinned (OpenSpec.ofChange fnExactReadyLinksSpec)

/-- ITS FALSE NEIGHBOUR: 'it returns false'. Refute it at one input. -/
def fnExactReadyLinksWrong : ChangeSpec := { name := "fnExactReadyLinks", vars := ["loop.example/g00872/impl.arities", "loop.example/g00872/impl.dualOperators"], fn := fun _ => fun
  | [d1, d2, g1, g2] => { results := [.lit (.bool false)], args := [d1, d2], vars := [g1, g2] }
  | _ => none }
def FnExactReadyLinksWrongFalsely : Prop := fnExactReadyLinksRow.holds Tryd.pinned (OpenSpec.ofChange fnExactReadyLinksWrong)

/-- 'laws.FnExactPartsAfter': WHATEVER THE INPUT: true; the input reads as it did. -/
def fnExactPartsAfterSpec : ChangeSpec := { name := "fnExactPartsAfter", vars := ["loop.example/g00872/impl.arities", "loop.example/g00872/impl.dualOperators"], fn := fun _ => fun
  | [d1, d2, g1, g2] => { results := [.lit (.bool true)], args := [d1, d2], vars := [g1, g2] }
  | _ => none }
def fnExactPartsAfterRow : OpenClaim := { program := "ytedigjkmolnjcaadoor", sum := "1151085cd2be3c6e5f68b0100b0a6a602ba5ad4af1b03456dc09fc9d2353874b", func := "loop.example/g00872/laws.FnExactPartsAfter", spec := "fnExactPartsAfter", unfollowed := true, recurses := true, named := ["loop.example/g00872/impl.arities", "loop.example/g00872/impl.dualOperators"], apart := false, laid := [("loop.example/g00872/impl.arities", laid_loop_example_g00872_impl_arities), ("loop.example/g00872/impl.dualOperators", laid_loop_example_g00872_impl_dualOperators)] }
def FnExactPartsAfterSaid : Prop := fnExactPartsAfterRow.holds Tryd.pinned (OpenSpec.ofChange fnExactPartsAfterSpec)

/-- ITS FALSE NEIGHBOUR: 'it returns false'. Refute it at one input. -/
def fnExactPartsAfterWrong : ChangeSpec := { name := "fnExactPartsAfter", vars := ["loop.example/g00872/impl.arities", "loop.example/g00872/impl.dualOperators"], fn := fun _ => fun
  | [d1, d2, g1, g2] => { results := [.lit (.bool false)], args := [d1, d2], vars := [g1, g2] }
  | _ => none }
def FnExactPartsAfterWrongFalsely : Prop := fnExactPartsAfterRow.holds Tryd.pinned (OpenSpec.ofChange fnExactPartsAfterWrong)

/-- 'laws.FnExactOpenWires': WHATEVER THE INPUT: true; the input reads as it did. -/
def fnExactOpenWiresSpec : ChangeSpec := { name := "fnExactOpenWires", vars := ["loop.example/g00872/impl.arities", "loop.example/g00872/impl.dualOperators"], fn := fun _ => fun
  | [d1, d2, g1, g2] => { results := [.lit (.bool true)], args := [d1, d2], vars := [g1, g2] }
  | _ => none }
def fnExactOpenWiresRow : OpenClaim := { program := "ytedigjkmolnjcaadoor", sum := "1151085cd2be3c6e5f68b0100b0a6a602ba5ad4af1b03456dc09fc9d2353874b", func := "loop.example/g00872/laws.FnExactOpenWires", spec := "fnExactOpenWires", unfollowed := true, recurses := true, named := ["loop.example/g00872/impl.arities", "loop.example/g00872/impl.dualOperators"], apart := false, laid := [("loop.example/g00872/impl.arities", laid_loop_example_g00872_impl_arities), ("loop.example/g00872/impl.dualOperators", laid_loop_example_g00872_impl_dualOperators)] }
def FnExactOpenWiresSaid : Prop := fnExactOpenWiresRow.holds Tryd.pinned (OpenSpec.ofChange fnExactOpenWiresSpec)

/-- ITS FALSE NEIGHBOUR: 'it returns false'. Refute it at one input. -/
def fnExactOpenWiresWrong : ChangeSpec := { name := "fnExactOpenWires", vars := ["loop.example/g00872/impl.arities", "loop.example/g00872/impl.dualOperators"], fn := fun _ => fun
  | [d1, d2, g1, g2] => { results := [.lit (.bool false)], args := [d1, d2], vars := [g1, g2] }
  | _ => none }
def FnExactOpenWiresWrongFalsely : Prop := fnExactOpenWiresRow.holds Tryd.pinned (OpenSpec.ofChange fnExactOpenWiresWrong)

/-- 'laws.FnExactFiringOrder': WHATEVER THE INPUT: true; the input reads as it did. -/
def fnExactFiringOrderSpec : ChangeSpec := { name := "fnExactFiringOrder", vars := ["loop.example/g00872/impl.arities", "loop.example/g00872/impl.dualOperators"], fn := fun _ => fun
  | [d, g1, g2] => { results := [.lit (.bool true)], args := [d], vars := [g1, g2] }
  | _ => none }
def fnExactFiringOrderRow : OpenClaim := { program := "ytedigjkmolnjcaadoor", sum := "1151085cd2be3c6e5f68b0100b0a6a602ba5ad4af1b03456dc09fc9d2353874b", func := "loop.example/g00872/laws.FnExactFiringOrder", spec := "fnExactFiringOrder", unfollowed := true, recurses := true, named := ["loop.example/g00872/impl.arities", "loop.example/g00872/impl.dualOperators"], apart := false, laid := [("loop.example/g00872/impl.arities", laid_loop_example_g00872_impl_arities), ("loop.example/g00872/impl.dualOperators", laid_loop_example_g00872_impl_dualOperators)] }
def FnExactFiringOrderSaid : Prop := fnExactFiringOrderRow.holds Tryd.pinned (OpenSpec.ofChange fnExactFiringOrderSpec)

/-- ITS FALSE NEIGHBOUR: 'it returns false'. Refute it at one input. -/
def fnExactFiringOrderWrong : ChangeSpec := { name := "fnExactFiringOrder", vars := ["loop.example/g00872/impl.arities", "loop.example/g00872/impl.dualOperators"], fn := fun _ => fun
  | [d, g1, g2] => { results := [.lit (.bool false)], args := [d], vars := [g1, g2] }
  | _ => none }
def FnExactFiringOrderWrongFalsely : Prop := fnExactFiringOrderRow.holds Tryd.pinned (OpenSpec.ofChange fnExactFiringOrderWrong)

/-- 'laws.FnExactLastFiringOrder': WHATEVER THE INPUT: true; the input reads as it did. -/
def fnExactLastFiringOrderSpec : ChangeSpec := { name := "fnExactLastFiringOrder", vars := ["loop.example/g00872/impl.arities", "loop.example/g00872/impl.dualOperators"], fn := fun _ => fun
  | [d, g1, g2] => { results := [.lit (.bool true)], args := [d], vars := [g1, g2] }
  | _ => none }
def fnExactLastFiringOrderRow : OpenClaim := { program := "ytedigjkmolnjcaadoor", sum := "1151085cd2be3c6e5f68b0100b0a6a602ba5ad4af1b03456dc09fc9d2353874b", func := "loop.example/g00872/laws.FnExactLastFiringOrder", spec := "fnExactLastFiringOrder", unfollowed := true, recurses := true, named := ["loop.example/g00872/impl.arities", "loop.example/g00872/impl.dualOperators"], apart := false, laid := [("loop.example/g00872/impl.arities", laid_loop_example_g00872_impl_arities), ("loop.example/g00872/impl.dualOperators", laid_loop_example_g00872_impl_dualOperators)] }
def FnExactLastFiringOrderSaid : Prop := fnExactLastFiringOrderRow.holds Tryd.pinned (OpenSpec.ofChange fnExactLastFiringOrderSpec)

/-- ITS FALSE NEIGHBOUR: 'it returns false'. Refute it at one input. -/
def fnExactLastFiringOrderWrong : ChangeSpec := { name := "fnExactLastFiringOrder", vars := ["loop.example/g00872/impl.arities", "loop.example/g00872/impl.dualOperators"], fn := fun _ => fun
  | [d, g1, g2] => { results := [.lit (.bool false)], args := [d], vars := [g1, g2] }
  | _ => none }
def FnExactLastFiringOrderWrongFalsely : Prop := fnExactLastFiringOrderRow.holds Tryd.pinned (OpenSpec.ofChange fnExactLastFiringOrderWrong)

/-- 'laws.FnExactStuckLinks': WHATEVER THE INPUT: true; the input reads as it did. -/
def fnExactStuckLinksSpec : ChangeSpec := { name := "fnExactStuckLinks", vars := ["loop.example/g00872/impl.arities", "loop.example/g00872/impl.dualOperators"], fn := fun _ => fun
  | [d, g1, g2] => { results := [.lit (.bool true)], args := [d], vars := [g1, g2] }
  | _ => none }
def fnExactStuckLinksRow : OpenClaim := { program := "ytedigjkmolnjcaadoor", sum := "1151085cd2be3c6e5f68b0100b0a6a602ba5ad4af1b03456dc09fc9d2353874b", func := "loop.example/g00872/laws.FnExactStuckLinks", spec := "fnExactStuckLinks", unfollowed := true, recurses := true, named := ["loop.example/g00872/impl.arities", "loop.example/g00872/impl.dualOperators"], apart := false, laid := [("loop.example/g00872/impl.arities", laid_loop_example_g00872_impl_arities), ("loop.example/g00872/impl.dualOperators", laid_loop_example_g00872_impl_dualOperators)] }
def FnExactStuckLinksSaid : Prop := fnExactStuckLinksRow.holds Tryd.pinned (OpenSpec.ofChange fnExactStuckLinksSpec)

/-- ITS FALSE NEIGHBOUR: 'it returns false'. Refute it at one input. -/
def fnExactStuckLinksWrong : ChangeSpec := { name := "fnExactStuckLinks", vars := ["loop.example/g00872/impl.arities", "loop.example/g00872/impl.dualOperators"], fn := fun _ => fun
  | [d, g1, g2] => { results := [.lit (.bool false)], args := [d], vars := [g1, g2] }
  | _ => none }
def FnExactStuckLinksWrongFalsely : Prop := fnExactStuckLinksRow.holds Tryd.pinned (OpenSpec.ofChange fnExactStuckLinksWrong)

/-- 'laws.FnExactCorrectByParsing': WHATEVER THE INPUT: true; the input reads as it did. -/
def fnExactCorrectByParsingSpec : ChangeSpec := { name := "fnExactCorrectByParsing", vars := ["loop.example/g00872/impl.arities", "loop.example/g00872/impl.dualOperators"], fn := fun _ => fun
  | [d, g1, g2] => { results := [.lit (.bool true)], args := [d], vars := [g1, g2] }
  | _ => none }
def fnExactCorrectByParsingRow : OpenClaim := { program := "ytedigjkmolnjcaadoor", sum := "1151085cd2be3c6e5f68b0100b0a6a602ba5ad4af1b03456dc09fc9d2353874b", func := "loop.example/g00872/laws.FnExactCorrectByParsing", spec := "fnExactCorrectByParsing", unfollowed := true, recurses := true, named := ["loop.example/g00872/impl.arities", "loop.example/g00872/impl.dualOperators"], apart := false, laid := [("loop.example/g00872/impl.arities", laid_loop_example_g00872_impl_arities), ("loop.example/g00872/impl.dualOperators", laid_loop_example_g00872_impl_dualOperators)] }
def FnExactCorrectByParsingSaid : Prop := fnExactCorrectByParsingRow.holds Tryd.pinned (OpenSpec.ofChange fnExactCorrectByParsingSpec)

/-- ITS FALSE NEIGHBOUR: 'it returns false'. Refute it at one input. -/
def fnExactCorrectByParsingWrong : ChangeSpec := { name := "fnExactCorrectByParsing", vars := ["loop.example/g00872/impl.arities", "loop.example/g00872/impl.dualOperators"], fn := fun _ => fun
  | [d, g1, g2] => { results := [.lit (.bool false)], args := [d], vars := [g1, g2] }
  | _ => none }
def FnExactCorrectByParsingWrongFalsely : Prop := fnExactCorrectByParsingRow.holds Tryd.pinned (OpenSpec.ofChange fnExactCorrectByParsingWrong)

/- THE SECOND FORM. 'bulk': how many values and letters a reading holds, each counted each time it is reached (what is shared counts as often as it is met; a slice's spare places count too). A statement '..UptoSaid' is the law's where the arguments, and the package variables that the reading takes, are together of bulk at most 1048576: NARROWER than '..Said'. Prove '..Said' where nothing that the law and all that it calls make is longer than what came in: it says more and counts as full. Else prove '..UptoSaid'. A law counts once. -/
mutual
def uptoBulk {H : Type} : DataW H → Nat
  | .lit (.string bytes) => bytes.length + 1
  | .lit _ => 1
  | .nil => 1
  | .ptr d => uptoBulk d + 1
  | .slice elems spare => uptoBulkAll elems + uptoBulkAll spare + 1
  | .agg parts => uptoBulkAll parts + 1
  | .iface _ d => uptoBulk d + 1
  | .map entries => uptoBulkEntries entries + 1
  | .held _ => 1
def uptoBulkAll {H : Type} : List (DataW H) → Nat
  | [] => 0
  | d :: r => uptoBulk d + uptoBulkAll r
def uptoBulkEntries {H : Type} : List (Lit × DataW H) → Nat
  | [] => 0
  | x :: r => uptoBulkEntry x + uptoBulkEntries r
def uptoBulkEntry {H : Type} : Lit × DataW H → Nat
  | (.string bytes, d) => bytes.length + uptoBulk d + 1
  | (_, d) => uptoBulk d + 1
 end
def uptoSmall : (H : Type) → List (DataW H) → Bool := fun _ ds => decide (uptoBulkAll ds ≤ 1048576)
def OpenSpec.upto (s : _root_.Go.ChangeSpec) : _root_.Go.OpenSpec := { _root_.Go.OpenSpec.ofChange s with cond := some uptoSmall }

/-- 'laws.FnExactIsFiringSequence', WHERE WHAT IT READS IS OF BULK AT MOST 1048576: true; the input reads as it did. -/
def fnExactIsFiringSequenceUptoRow : OpenClaim := { program := "ytedigjkmolnjcaadoor", sum := "1151085cd2be3c6e5f68b0100b0a6a602ba5ad4af1b03456dc09fc9d2353874b", func := "loop.example/g00872/laws.FnExactIsFiringSequence", spec := "fnExactIsFiringSequence", unfollowed := true, recurses := true, named := ["loop.example/g00872/impl.arities", "loop.example/g00872/impl.dualOperators"], apart := false, laid := [("loop.example/g00872/impl.arities", laid_loop_example_g00872_impl_arities), ("loop.example/g00872/impl.dualOperators", laid_loop_example_g00872_impl_dualOperators)], narrowed := true }
def FnExactIsFiringSequenceUptoSaid : Prop := fnExactIsFiringSequenceUptoRow.holds Tryd.pinned (OpenSpec.upto fnExactIsFiringSequenceSpec)

/-- 'laws.FnExactReadyLinks', WHERE WHAT IT READS IS OF BULK AT MOST 1048576: true; the input reads as it did. -/
def fnExactReadyLinksUptoRow : OpenClaim := { program := "ytedigjkmolnjcaadoor", sum := "1151085cd2be3c6e5f68b0100b0a6a602ba5ad4af1b03456dc09fc9d2353874b", func := "loop.example/g00872/laws.FnExactReadyLinks", spec := "fnExactReadyLinks", unfollowed := true, recurses := true, named := ["loop.example/g00872/impl.arities", "loop.example/g00872/impl.dualOperators"], apart := false, laid := [("loop.example/g00872/impl.arities", laid_loop_example_g00872_impl_arities), ("loop.example/g00872/impl.dualOperators", laid_loop_example_g00872_impl_dualOperators)], narrowed := true }
def FnExactReadyLinksUptoSaid : Prop := fnExactReadyLinksUptoRow.holds Tryd.pinned (OpenSpec.upto fnExactReadyLinksSpec)

/-- 'laws.FnExactPartsAfter', WHERE WHAT IT READS IS OF BULK AT MOST 1048576: true; the input reads as it did. -/
def fnExactPartsAfterUptoRow : OpenClaim := { program := "ytedigjkmolnjcaadoor", sum := "1151085cd2be3c6e5f68b0100b0a6a602ba5ad4af1b03456dc09fc9d2353874b", func := "loop.example/g00872/laws.FnExactPartsAfter", spec := "fnExactPartsAfter", unfollowed := true, recurses := true, named := ["loop.example/g00872/impl.arities", "loop.example/g00872/impl.dualOperators"], apart := false, laid := [("loop.example/g00872/impl.arities", laid_loop_example_g00872_impl_arities), ("loop.example/g00872/impl.dualOperators", laid_loop_example_g00872_impl_dualOperators)], narrowed := true }
def FnExactPartsAfterUptoSaid : Prop := fnExactPartsAfterUptoRow.holds Tryd.pinned (OpenSpec.upto fnExactPartsAfterSpec)

/-- 'laws.FnExactOpenWires', WHERE WHAT IT READS IS OF BULK AT MOST 1048576: true; the input reads as it did. -/
def fnExactOpenWiresUptoRow : OpenClaim := { program := "ytedigjkmolnjcaadoor", sum := "1151085cd2be3c6e5f68b0100b0a6a602ba5ad4af1b03456dc09fc9d2353874b", func := "loop.example/g00872/laws.FnExactOpenWires", spec := "fnExactOpenWires", unfollowed := true, recurses := true, named := ["loop.example/g00872/impl.arities", "loop.example/g00872/impl.dualOperators"], apart := false, laid := [("loop.example/g00872/impl.arities", laid_loop_example_g00872_impl_arities), ("loop.example/g00872/impl.dualOperators", laid_loop_example_g00872_impl_dualOperators)], narrowed := true }
def FnExactOpenWiresUptoSaid : Prop := fnExactOpenWiresUptoRow.holds Tryd.pinned (OpenSpec.upto fnExactOpenWiresSpec)

/-- 'laws.FnExactFiringOrder', WHERE WHAT IT READS IS OF BULK AT MOST 1048576: true; the input reads as it did. -/
def fnExactFiringOrderUptoRow : OpenClaim := { program := "ytedigjkmolnjcaadoor", sum := "1151085cd2be3c6e5f68b0100b0a6a602ba5ad4af1b03456dc09fc9d2353874b", func := "loop.example/g00872/laws.FnExactFiringOrder", spec := "fnExactFiringOrder", unfollowed := true, recurses := true, named := ["loop.example/g00872/impl.arities", "loop.example/g00872/impl.dualOperators"], apart := false, laid := [("loop.example/g00872/impl.arities", laid_loop_example_g00872_impl_arities), ("loop.example/g00872/impl.dualOperators", laid_loop_example_g00872_impl_dualOperators)], narrowed := true }
def FnExactFiringOrderUptoSaid : Prop := fnExactFiringOrderUptoRow.holds Tryd.pinned (OpenSpec.upto fnExactFiringOrderSpec)

/-- 'laws.FnExactLastFiringOrder', WHERE WHAT IT READS IS OF BULK AT MOST 1048576: true; the input reads as it did. -/
def fnExactLastFiringOrderUptoRow : OpenClaim := { program := "ytedigjkmolnjcaadoor", sum := "1151085cd2be3c6e5f68b0100b0a6a602ba5ad4af1b03456dc09fc9d2353874b", func := "loop.example/g00872/laws.FnExactLastFiringOrder", spec := "fnExactLastFiringOrder", unfollowed := true, recurses := true, named := ["loop.example/g00872/impl.arities", "loop.example/g00872/impl.dualOperators"], apart := false, laid := [("loop.example/g00872/impl.arities", laid_loop_example_g00872_impl_arities), ("loop.example/g00872/impl.dualOperators", laid_loop_example_g00872_impl_dualOperators)], narrowed := true }
def FnExactLastFiringOrderUptoSaid : Prop := fnExactLastFiringOrderUptoRow.holds Tryd.pinned (OpenSpec.upto fnExactLastFiringOrderSpec)

/-- 'laws.FnExactStuckLinks', WHERE WHAT IT READS IS OF BULK AT MOST 1048576: true; the input reads as it did. -/
def fnExactStuckLinksUptoRow : OpenClaim := { program := "ytedigjkmolnjcaadoor", sum := "1151085cd2be3c6e5f68b0100b0a6a602ba5ad4af1b03456dc09fc9d2353874b", func := "loop.example/g00872/laws.FnExactStuckLinks", spec := "fnExactStuckLinks", unfollowed := true, recurses := true, named := ["loop.example/g00872/impl.arities", "loop.example/g00872/impl.dualOperators"], apart := false, laid := [("loop.example/g00872/impl.arities", laid_loop_example_g00872_impl_arities), ("loop.example/g00872/impl.dualOperators", laid_loop_example_g00872_impl_dualOperators)], narrowed := true }
def FnExactStuckLinksUptoSaid : Prop := fnExactStuckLinksUptoRow.holds Tryd.pinned (OpenSpec.upto fnExactStuckLinksSpec)

/-- 'laws.FnExactCorrectByParsing', WHERE WHAT IT READS IS OF BULK AT MOST 1048576: true; the input reads as it did. -/
def fnExactCorrectByParsingUptoRow : OpenClaim := { program := "ytedigjkmolnjcaadoor", sum := "1151085cd2be3c6e5f68b0100b0a6a602ba5ad4af1b03456dc09fc9d2353874b", func := "loop.example/g00872/laws.FnExactCorrectByParsing", spec := "fnExactCorrectByParsing", unfollowed := true, recurses := true, named := ["loop.example/g00872/impl.arities", "loop.example/g00872/impl.dualOperators"], apart := false, laid := [("loop.example/g00872/impl.arities", laid_loop_example_g00872_impl_arities), ("loop.example/g00872/impl.dualOperators", laid_loop_example_g00872_impl_dualOperators)], narrowed := true }
def FnExactCorrectByParsingUptoSaid : Prop := fnExactCorrectByParsingUptoRow.holds Tryd.pinned (OpenSpec.upto fnExactCorrectByParsingSpec)

end Rows
end Go.Proofs.YtedigjkmolnjcaaDoor
