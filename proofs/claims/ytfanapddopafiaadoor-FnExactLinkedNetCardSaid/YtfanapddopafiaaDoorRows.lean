/-
  NARROWER THAN 'FOR EVERY INPUT', by the rows' own cells (each row's printed sentence says how): FnExactLeafWires: laid · FnExactTreeText: laid · FnExactMatesOf: laid · FnExactLinkedNet: laid · FnExactNetOutline: laid.
  DERIVED. THE GIVEN ROWS OF THIS SEAT. 5 by the template 'for every input the law returns true; each argument reads behind the call as it read before'; 0 by the template 'total and deterministic' (their statements: YtfanapddopafiaaDoorTotals.lean).
  GIVEN WITH THE SEED: the statements are not yours to turn. If you find one false, say at which input.
  Laid BY PROGRAM, IN A SANDBOX (cutbox-rows.mjs): the forced cells as the released guide's own fill.sh prints them over the translation 34d3802d5224ad66… (all of the seat's roots in one cut). By AI agents, Wed Nov 11 2026. No macro, syntax, notation, axiom, sorry.
-/
import Derived.Test.YtfanapddopafiaaDoorChecked
import GoSem.Claim
import GoSem.ClaimJoined
import GoSem.ClaimMapViews
import Derived.JoinedTies
import Derived.KernelRfl
namespace Go.Proofs.YtfanapddopafiaaDoor
/- THE CELL 'sum', in the pinned program and in every row, IS THE sha256 OF THE DUMP (.gsa) THAT YtfanapddopafiaaDoorProg.lean LOADS. Nothing in Lean hashes anything: it is a label: what it is worth is what the hold of that sum in a sandbox is worth. -/
noncomputable def Tryd.pinned : Pinned := { name := "ytfanapddopafiaadoor", sum := "34d3802d5224ad664c68a20b9050247ddb53d4c4ff93ac1b31d127ce5e5a3e80", checked := Tryd.checked }
namespace Rows
def none {H : Type} : Left H := { results := [], args := [] }

/- WHAT THE LISTED PACKAGE-LEVEL VARIABLES READ AS WHEN THE CALL BEGINS. Each datum BY PROGRAM (the guide's laid-datum.mjs) off the statement by which the dump's own 'gosem.cut.vars' lays the variable. In a bare row this is a premise. The card (YtfanapddopafiaaDoorCards.lean) ties it to the program's text. -/
def laid_loop_example_g00872_impl_arities {H : Type} : DataW H := .agg [.lit (.int .i64 0), .lit (.int .i64 0), .lit (.int .i64 0), .lit (.int .i64 0), .lit (.int .i64 0), .lit (.int .i64 0), .lit (.int .i64 0), .lit (.int .i64 0), .lit (.int .i64 0), .lit (.int .i64 0), .lit (.int .i64 0), .lit (.int .i64 2), .lit (.int .i64 2), .lit (.int .i64 0), .lit (.int .i64 0), .lit (.int .i64 2), .lit (.int .i64 2), .lit (.int .i64 1), .lit (.int .i64 1)]
def laid_loop_example_g00872_impl_dualOperators {H : Type} : DataW H := .agg [.lit (.int .i64 0), .lit (.int .i64 0), .lit (.int .i64 0), .lit (.int .i64 0), .lit (.int .i64 0), .lit (.int .i64 0), .lit (.int .i64 0), .lit (.int .i64 0), .lit (.int .i64 0), .lit (.int .i64 0), .lit (.int .i64 0), .lit (.int .i64 12), .lit (.int .i64 11), .lit (.int .i64 14), .lit (.int .i64 13), .lit (.int .i64 16), .lit (.int .i64 15), .lit (.int .i64 18), .lit (.int .i64 17)]
def laid_math_bits_deBruijn32tab {H : Type} : DataW H := .agg [.lit (.int .u8 0), .lit (.int .u8 1), .lit (.int .u8 28), .lit (.int .u8 2), .lit (.int .u8 29), .lit (.int .u8 14), .lit (.int .u8 24), .lit (.int .u8 3), .lit (.int .u8 30), .lit (.int .u8 22), .lit (.int .u8 20), .lit (.int .u8 15), .lit (.int .u8 25), .lit (.int .u8 17), .lit (.int .u8 4), .lit (.int .u8 8), .lit (.int .u8 31), .lit (.int .u8 27), .lit (.int .u8 13), .lit (.int .u8 23), .lit (.int .u8 21), .lit (.int .u8 19), .lit (.int .u8 16), .lit (.int .u8 7), .lit (.int .u8 26), .lit (.int .u8 12), .lit (.int .u8 18), .lit (.int .u8 6), .lit (.int .u8 11), .lit (.int .u8 5), .lit (.int .u8 10), .lit (.int .u8 9)]
def laid_math_bits_deBruijn64tab {H : Type} : DataW H := .agg [.lit (.int .u8 0), .lit (.int .u8 1), .lit (.int .u8 56), .lit (.int .u8 2), .lit (.int .u8 57), .lit (.int .u8 49), .lit (.int .u8 28), .lit (.int .u8 3), .lit (.int .u8 61), .lit (.int .u8 58), .lit (.int .u8 42), .lit (.int .u8 50), .lit (.int .u8 38), .lit (.int .u8 29), .lit (.int .u8 17), .lit (.int .u8 4), .lit (.int .u8 62), .lit (.int .u8 47), .lit (.int .u8 59), .lit (.int .u8 36), .lit (.int .u8 45), .lit (.int .u8 43), .lit (.int .u8 51), .lit (.int .u8 22), .lit (.int .u8 53), .lit (.int .u8 39), .lit (.int .u8 33), .lit (.int .u8 30), .lit (.int .u8 24), .lit (.int .u8 18), .lit (.int .u8 12), .lit (.int .u8 5), .lit (.int .u8 63), .lit (.int .u8 55), .lit (.int .u8 48), .lit (.int .u8 27), .lit (.int .u8 60), .lit (.int .u8 41), .lit (.int .u8 37), .lit (.int .u8 16), .lit (.int .u8 46), .lit (.int .u8 35), .lit (.int .u8 44), .lit (.int .u8 21), .lit (.int .u8 52), .lit (.int .u8 32), .lit (.int .u8 23), .lit (.int .u8 11), .lit (.int .u8 54), .lit (.int .u8 26), .lit (.int .u8 40), .lit (.int .u8 15), .lit (.int .u8 34), .lit (.int .u8 20), .lit (.int .u8 31), .lit (.int .u8 10), .lit (.int .u8 25), .lit (.int .u8 14), .lit (.int .u8 19), .lit (.int .u8 9), .lit (.int .u8 13), .lit (.int .u8 8), .lit (.int .u8 7), .lit (.int .u8 6)]
def laid_internal_strconv_uint64pow10 {H : Type} : DataW H := .agg [.lit (.int .u64 1), .lit (.int .u64 10), .lit (.int .u64 100), .lit (.int .u64 1000), .lit (.int .u64 10000), .lit (.int .u64 100000), .lit (.int .u64 1000000), .lit (.int .u64 10000000), .lit (.int .u64 100000000), .lit (.int .u64 1000000000), .lit (.int .u64 10000000000), .lit (.int .u64 100000000000), .lit (.int .u64 1000000000000), .lit (.int .u64 10000000000000), .lit (.int .u64 100000000000000), .lit (.int .u64 1000000000000000), .lit (.int .u64 10000000000000000), .lit (.int .u64 100000000000000000), .lit (.int .u64 1000000000000000000), .lit (.int .u64 10000000000000000000)]
def laid_loop_example_g00872_impl_linkWords {H : Type} : DataW H := .agg [.lit (.string []), .lit (.string [97, 120]), .lit (.string [99, 117, 116]), .lit (.string [116, 101, 110, 115, 111, 114]), .lit (.string [112, 97, 114])]

/-- 'laws.FnExactLeafWires': WHATEVER THE INPUT: true; the input reads as it did. -/
def fnExactLeafWiresSpec : ChangeSpec := { name := "fnExactLeafWires", vars := ["loop.example/g00872/impl.arities", "loop.example/g00872/impl.dualOperators"], fn := fun _ => fun
  | [d, g1, g2] => { results := [.lit (.bool true)], args := [d], vars := [g1, g2] }
  | _ => none }
def fnExactLeafWiresRow : OpenClaim := { program := "ytfanapddopafiaadoor", sum := "34d3802d5224ad664c68a20b9050247ddb53d4c4ff93ac1b31d127ce5e5a3e80", func := "loop.example/g00872/laws.FnExactLeafWires", spec := "fnExactLeafWires", unfollowed := true, recurses := true, named := ["loop.example/g00872/impl.arities", "loop.example/g00872/impl.dualOperators"], apart := false, laid := [("loop.example/g00872/impl.arities", laid_loop_example_g00872_impl_arities), ("loop.example/g00872/impl.dualOperators", laid_loop_example_g00872_impl_dualOperators)] }
def FnExactLeafWiresSaid : Prop := fnExactLeafWiresRow.holds Tryd.pinned (OpenSpec.ofChange fnExactLeafWiresSpec)

/-- ITS FALSE NEIGHBOUR: 'it returns false'. Refute it at one input. -/
def fnExactLeafWiresWrong : ChangeSpec := { name := "fnExactLeafWires", vars := ["loop.example/g00872/impl.arities", "loop.example/g00872/impl.dualOperators"], fn := fun _ => fun
  | [d, g1, g2] => { results := [.lit (.bool false)], args := [d], vars := [g1, g2] }
  | _ => none }
def FnExactLeafWiresWrongFalsely : Prop := fnExactLeafWiresRow.holds Tryd.pinned (OpenSpec.ofChange fnExactLeafWiresWrong)

/-- 'laws.FnExactTreeText': WHATEVER THE INPUT: true; the input reads as it did. -/
def fnExactTreeTextSpec : ChangeSpec := { name := "fnExactTreeText", vars := ["loop.example/g00872/impl.arities", "loop.example/g00872/impl.dualOperators"], fn := fun _ => fun
  | [d1, d2, g1, g2] => { results := [.lit (.bool true)], args := [d1, d2], vars := [g1, g2] }
  | _ => none }
def fnExactTreeTextRow : OpenClaim := { program := "ytfanapddopafiaadoor", sum := "34d3802d5224ad664c68a20b9050247ddb53d4c4ff93ac1b31d127ce5e5a3e80", func := "loop.example/g00872/laws.FnExactTreeText", spec := "fnExactTreeText", inPlace := ["internal/abi.NoEscape", "internal/bytealg.MakeNoZero"], recurses := true, named := ["loop.example/g00872/impl.arities", "loop.example/g00872/impl.dualOperators", "internal/strconv.uint64pow10", "math/bits.deBruijn32tab", "math/bits.deBruijn64tab"], apart := false, laid := [("math/bits.deBruijn32tab", laid_math_bits_deBruijn32tab), ("math/bits.deBruijn64tab", laid_math_bits_deBruijn64tab), ("internal/strconv.uint64pow10", laid_internal_strconv_uint64pow10), ("loop.example/g00872/impl.arities", laid_loop_example_g00872_impl_arities), ("loop.example/g00872/impl.dualOperators", laid_loop_example_g00872_impl_dualOperators)] }
def FnExactTreeTextSaid : Prop := fnExactTreeTextRow.holds Tryd.pinned (OpenSpec.ofChange fnExactTreeTextSpec)

/-- ITS FALSE NEIGHBOUR: 'it returns false'. Refute it at one input. -/
def fnExactTreeTextWrong : ChangeSpec := { name := "fnExactTreeText", vars := ["loop.example/g00872/impl.arities", "loop.example/g00872/impl.dualOperators"], fn := fun _ => fun
  | [d1, d2, g1, g2] => { results := [.lit (.bool false)], args := [d1, d2], vars := [g1, g2] }
  | _ => none }
def FnExactTreeTextWrongFalsely : Prop := fnExactTreeTextRow.holds Tryd.pinned (OpenSpec.ofChange fnExactTreeTextWrong)

/-- 'laws.FnExactMatesOf': WHATEVER THE INPUT: true; the input reads as it did. -/
def fnExactMatesOfSpec : ChangeSpec := { name := "fnExactMatesOf", vars := ["loop.example/g00872/impl.arities", "loop.example/g00872/impl.dualOperators"], fn := fun _ => fun
  | [d, g1, g2] => { results := [.lit (.bool true)], args := [d], vars := [g1, g2] }
  | _ => none }
def fnExactMatesOfRow : OpenClaim := { program := "ytfanapddopafiaadoor", sum := "34d3802d5224ad664c68a20b9050247ddb53d4c4ff93ac1b31d127ce5e5a3e80", func := "loop.example/g00872/laws.FnExactMatesOf", spec := "fnExactMatesOf", unfollowed := true, recurses := true, named := ["loop.example/g00872/impl.arities", "loop.example/g00872/impl.dualOperators"], apart := false, laid := [("loop.example/g00872/impl.arities", laid_loop_example_g00872_impl_arities), ("loop.example/g00872/impl.dualOperators", laid_loop_example_g00872_impl_dualOperators)] }
def FnExactMatesOfSaid : Prop := fnExactMatesOfRow.holds Tryd.pinned (OpenSpec.ofChange fnExactMatesOfSpec)

/-- ITS FALSE NEIGHBOUR: 'it returns false'. Refute it at one input. -/
def fnExactMatesOfWrong : ChangeSpec := { name := "fnExactMatesOf", vars := ["loop.example/g00872/impl.arities", "loop.example/g00872/impl.dualOperators"], fn := fun _ => fun
  | [d, g1, g2] => { results := [.lit (.bool false)], args := [d], vars := [g1, g2] }
  | _ => none }
def FnExactMatesOfWrongFalsely : Prop := fnExactMatesOfRow.holds Tryd.pinned (OpenSpec.ofChange fnExactMatesOfWrong)

/-- 'laws.FnExactLinkedNet': WHATEVER THE INPUT: true; the input reads as it did. -/
def fnExactLinkedNetSpec : ChangeSpec := { name := "fnExactLinkedNet", vars := ["loop.example/g00872/impl.arities", "loop.example/g00872/impl.dualOperators"], fn := fun _ => fun
  | [d1, d2, g1, g2] => { results := [.lit (.bool true)], args := [d1, d2], vars := [g1, g2] }
  | _ => none }
def fnExactLinkedNetRow : OpenClaim := { program := "ytfanapddopafiaadoor", sum := "34d3802d5224ad664c68a20b9050247ddb53d4c4ff93ac1b31d127ce5e5a3e80", func := "loop.example/g00872/laws.FnExactLinkedNet", spec := "fnExactLinkedNet", named := ["loop.example/g00872/impl.arities", "loop.example/g00872/impl.dualOperators"], apart := false, laid := [("loop.example/g00872/impl.arities", laid_loop_example_g00872_impl_arities), ("loop.example/g00872/impl.dualOperators", laid_loop_example_g00872_impl_dualOperators)] }
def FnExactLinkedNetSaid : Prop := fnExactLinkedNetRow.holds Tryd.pinned (OpenSpec.ofChange fnExactLinkedNetSpec)

/-- ITS FALSE NEIGHBOUR: 'it returns false'. Refute it at one input. -/
def fnExactLinkedNetWrong : ChangeSpec := { name := "fnExactLinkedNet", vars := ["loop.example/g00872/impl.arities", "loop.example/g00872/impl.dualOperators"], fn := fun _ => fun
  | [d1, d2, g1, g2] => { results := [.lit (.bool false)], args := [d1, d2], vars := [g1, g2] }
  | _ => none }
def FnExactLinkedNetWrongFalsely : Prop := fnExactLinkedNetRow.holds Tryd.pinned (OpenSpec.ofChange fnExactLinkedNetWrong)

/-- 'laws.FnExactNetOutline': WHATEVER THE INPUT: true; the input reads as it did. -/
def fnExactNetOutlineSpec : ChangeSpec := { name := "fnExactNetOutline", vars := ["loop.example/g00872/impl.arities", "loop.example/g00872/impl.dualOperators", "loop.example/g00872/impl.linkWords"], fn := fun _ => fun
  | [d, g1, g2, g3] => { results := [.lit (.bool true)], args := [d], vars := [g1, g2, g3] }
  | _ => none }
def fnExactNetOutlineRow : OpenClaim := { program := "ytfanapddopafiaadoor", sum := "34d3802d5224ad664c68a20b9050247ddb53d4c4ff93ac1b31d127ce5e5a3e80", func := "loop.example/g00872/laws.FnExactNetOutline", spec := "fnExactNetOutline", inPlace := ["internal/abi.NoEscape", "internal/bytealg.MakeNoZero"], unfollowed := true, recurses := true, named := ["loop.example/g00872/impl.arities", "loop.example/g00872/impl.dualOperators", "loop.example/g00872/impl.linkWords", "internal/strconv.uint64pow10", "math/bits.deBruijn32tab", "math/bits.deBruijn64tab"], apart := false, laid := [("math/bits.deBruijn32tab", laid_math_bits_deBruijn32tab), ("math/bits.deBruijn64tab", laid_math_bits_deBruijn64tab), ("internal/strconv.uint64pow10", laid_internal_strconv_uint64pow10), ("loop.example/g00872/impl.arities", laid_loop_example_g00872_impl_arities), ("loop.example/g00872/impl.dualOperators", laid_loop_example_g00872_impl_dualOperators), ("loop.example/g00872/impl.linkWords", laid_loop_example_g00872_impl_linkWords)] }
def FnExactNetOutlineSaid : Prop := fnExactNetOutlineRow.holds Tryd.pinned (OpenSpec.ofChange fnExactNetOutlineSpec)

/-- ITS FALSE NEIGHBOUR: 'it returns false'. Refute it at one input. -/
def fnExactNetOutlineWrong : ChangeSpec := { name := "fnExactNetOutline", vars := ["loop.example/g00872/impl.arities", "loop.example/g00872/impl.dualOperators", "loop.example/g00872/impl.linkWords"], fn := fun _ => fun
  | [d, g1, g2, g3] => { results := [.lit (.bool false)], args := [d], vars := [g1, g2, g3] }
  | _ => none }
def FnExactNetOutlineWrongFalsely : Prop := fnExactNetOutlineRow.holds Tryd.pinned (OpenSpec.ofChange fnExactNetOutlineWrong)

/- THE SECOND FORM. 'bulk': how many values and letters a reading holds, each counted each time it is reached (what is shared counts as often as it is met; a slice's spare places count too). A statement '..UptoSaid' is the law's where the arguments, and the package variables that the reading takes, are together of bulk at most 1048576: NARROWER than '..Said'. Prove '..Said' where nothing that the law and all that it calls make is longer than what came in: it says more and counts as full. Else prove '..UptoSaid'. A law counts once. -/
mutual
def uptoBulk {H : Type} : DataW H → Nat
  | .lit (.string bytes) => bytes.length + 1
  | .lit _ => 1
  | .nil => 1
  | .ptr d => uptoBulk d + 1
  | .slice elems spare => uptoBulkAll elems + uptoBulkAll spare + 1
  | .agg parts => uptoBulkAll parts + 1
  | .iface _ d => uptoBulk d + 1
  | .map entries => uptoBulkEntries entries + 1
  | .held _ => 1
def uptoBulkAll {H : Type} : List (DataW H) → Nat
  | [] => 0
  | d :: r => uptoBulk d + uptoBulkAll r
def uptoBulkEntries {H : Type} : List (Lit × DataW H) → Nat
  | [] => 0
  | x :: r => uptoBulkEntry x + uptoBulkEntries r
def uptoBulkEntry {H : Type} : Lit × DataW H → Nat
  | (.string bytes, d) => bytes.length + uptoBulk d + 1
  | (_, d) => uptoBulk d + 1
 end
def uptoSmall : (H : Type) → List (DataW H) → Bool := fun _ ds => decide (uptoBulkAll ds ≤ 1048576)
def OpenSpec.upto (s : _root_.Go.ChangeSpec) : _root_.Go.OpenSpec := { _root_.Go.OpenSpec.ofChange s with cond := some uptoSmall }

/-- 'laws.FnExactLeafWires', WHERE WHAT IT READS IS OF BULK AT MOST 1048576: true; the input reads as it did. -/
def fnExactLeafWiresUptoRow : OpenClaim := { program := "ytfanapddopafiaadoor", sum := "34d3802d5224ad664c68a20b9050247ddb53d4c4ff93ac1b31d127ce5e5a3e80", func := "loop.example/g00872/laws.FnExactLeafWires", spec := "fnExactLeafWires", unfollowed := true, recurses := true, named := ["loop.example/g00872/impl.arities", "loop.example/g00872/impl.dualOperators"], apart := false, laid := [("loop.example/g00872/impl.arities", laid_loop_example_g00872_impl_arities), ("loop.example/g00872/impl.dualOperators", laid_loop_example_g00872_impl_dualOperators)], narrowed := true }
def FnExactLeafWiresUptoSaid : Prop := fnExactLeafWiresUptoRow.holds Tryd.pinned (OpenSpec.upto fnExactLeafWiresSpec)

/-- 'laws.FnExactTreeText', WHERE WHAT IT READS IS OF BULK AT MOST 1048576: true; the input reads as it did. -/
def fnExactTreeTextUptoRow : OpenClaim := { program := "ytfanapddopafiaadoor", sum := "34d3802d5224ad664c68a20b9050247ddb53d4c4ff93ac1b31d127ce5e5a3e80", func := "loop.example/g00872/laws.FnExactTreeText", spec := "fnExactTreeText", inPlace := ["internal/abi.NoEscape", "internal/bytealg.MakeNoZero"], recurses := true, named := ["loop.example/g00872/impl.arities", "loop.example/g00872/impl.dualOperators", "internal/strconv.uint64pow10", "math/bits.deBruijn32tab", "math/bits.deBruijn64tab"], apart := false, laid := [("math/bits.deBruijn32tab", laid_math_bits_deBruijn32tab), ("math/bits.deBruijn64tab", laid_math_bits_deBruijn64tab), ("internal/strconv.uint64pow10", laid_internal_strconv_uint64pow10), ("loop.example/g00872/impl.arities", laid_loop_example_g00872_impl_arities), ("loop.example/g00872/impl.dualOperators", laid_loop_example_g00872_impl_dualOperators)], narrowed := true }
def FnExactTreeTextUptoSaid : Prop := fnExactTreeTextUptoRow.holds Tryd.pinned (OpenSpec.upto fnExactTreeTextSpec)

/-- 'laws.FnExactMatesOf', WHERE WHAT IT READS IS OF BULK AT MOST 1048576: true; the input reads as it did. -/
def fnExactMatesOfUptoRow : OpenClaim := { program := "ytfanapddopafiaadoor", sum := "34d3802d5224ad664c68a20b9050247ddb53d4c4ff93ac1b31d127ce5e5a3e80", func := "loop.example/g00872/laws.FnExactMatesOf", spec := "fnExactMatesOf", unfollowed := true, recurses := true, named := ["loop.example/g00872/impl.arities", "loop.example/g00872/impl.dualOperators"], apart := false, laid := [("loop.example/g00872/impl.arities", laid_loop_example_g00872_impl_arities), ("loop.example/g00872/impl.dualOperators", laid_loop_example_g00872_impl_dualOperators)], narrowed := true }
def FnExactMatesOfUptoSaid : Prop := fnExactMatesOfUptoRow.holds Tryd.pinned (OpenSpec.upto fnExactMatesOfSpec)

/-- 'laws.FnExactLinkedNet', WHERE WHAT IT READS IS OF BULK AT MOST 1048576: true; the input reads as it did. -/
def fnExactLinkedNetUptoRow : OpenClaim := { program := "ytfanapddopafiaadoor", sum := "34d3802d5224ad664c68a20b9050247ddb53d4c4ff93ac1b31d127ce5e5a3e80", func := "loop.example/g00872/laws.FnExactLinkedNet", spec := "fnExactLinkedNet", named := ["loop.example/g00872/impl.arities", "loop.example/g00872/impl.dualOperators"], apart := false, laid := [("loop.example/g00872/impl.arities", laid_loop_example_g00872_impl_arities), ("loop.example/g00872/impl.dualOperators", laid_loop_example_g00872_impl_dualOperators)], narrowed := true }
def FnExactLinkedNetUptoSaid : Prop := fnExactLinkedNetUptoRow.holds Tryd.pinned (OpenSpec.upto fnExactLinkedNetSpec)

/-- 'laws.FnExactNetOutline', WHERE WHAT IT READS IS OF BULK AT MOST 1048576: true; the input reads as it did. -/
def fnExactNetOutlineUptoRow : OpenClaim := { program := "ytfanapddopafiaadoor", sum := "34d3802d5224ad664c68a20b9050247ddb53d4c4ff93ac1b31d127ce5e5a3e80", func := "loop.example/g00872/laws.FnExactNetOutline", spec := "fnExactNetOutline", inPlace := ["internal/abi.NoEscape", "internal/bytealg.MakeNoZero"], unfollowed := true, recurses := true, named := ["loop.example/g00872/impl.arities", "loop.example/g00872/impl.dualOperators", "loop.example/g00872/impl.linkWords", "internal/strconv.uint64pow10", "math/bits.deBruijn32tab", "math/bits.deBruijn64tab"], apart := false, laid := [("math/bits.deBruijn32tab", laid_math_bits_deBruijn32tab), ("math/bits.deBruijn64tab", laid_math_bits_deBruijn64tab), ("internal/strconv.uint64pow10", laid_internal_strconv_uint64pow10), ("loop.example/g00872/impl.arities", laid_loop_example_g00872_impl_arities), ("loop.example/g00872/impl.dualOperators", laid_loop_example_g00872_impl_dualOperators), ("loop.example/g00872/impl.linkWords", laid_loop_example_g00872_impl_linkWords)], narrowed := true }
def FnExactNetOutlineUptoSaid : Prop := fnExactNetOutlineUptoRow.holds Tryd.pinned (OpenSpec.upto fnExactNetOutlineSpec)

end Rows
end Go.Proofs.YtfanapddopafiaaDoor
