/-
  NARROWER THAN 'FOR EVERY INPUT', by the rows' own cells (each row's printed sentence says how): FnSeqText: laid · FnProofText: laid · FnExactReadStep: laid · FnExactReadProof: laid · FnExactSequentLines: laid · FnExactOutline: laid.
  DERIVED. THE GIVEN ROWS OF THIS SEAT. 6 by the template 'for every input the law returns true; each argument reads behind the call as it read before'; 0 by the template 'total and deterministic' (their statements: YtjhagklpnpabeaaGreatDoorTotals.lean).
  GIVEN WITH THE SEED: the statements are not yours to turn. If you find one false, say at which input.
  Laid BY PROGRAM, IN A SANDBOX (cutbox-rows.mjs): the forced cells as the released guide's own fill.sh prints them over the translation 91faa9c7aa75edc8… (all of the seat's roots in one cut). By AI agents, Wed Nov 11 2026. No macro, syntax, notation, axiom, sorry.
-/
import Derived.Test.YtjhagklpnpabeaaGreatDoorChecked
import GoSem.PinnedTables
import GoSem.Claim
import GoSem.ClaimJoined
import GoSem.ClaimMapViews
import Derived.JoinedTies
import Derived.KernelRfl
namespace Go.Proofs.YtjhagklpnpabeaaGreatDoor
/- THE CELL 'sum', in the pinned program and in every row, IS THE sha256 OF THE DUMP (.gsa) THAT YtjhagklpnpabeaaGreatDoorProg.lean LOADS. Nothing in Lean hashes anything: it is a label: what it is worth is what the hold of that sum in a sandbox is worth. -/
noncomputable def Tryz.pinned : Pinned := { name := "ytjhagklpnpabeaagreatdoor", sum := "91faa9c7aa75edc800048fd84eb63f6f1ff958c10146ee5097e29ec341131b4b", checked := Tryz.checked }
namespace Rows
def none {H : Type} : Left H := { results := [], args := [] }

/- WHAT THE LISTED PACKAGE-LEVEL VARIABLES READ AS WHEN THE CALL BEGINS. Each datum BY PROGRAM (the guide's laid-datum.mjs) off the statement by which the dump's own 'gosem.cut.vars' lays the variable. In a bare row this is a premise. The card (YtjhagklpnpabeaaGreatDoorCards.lean) ties it to the program's text. -/
def laid_unicode_utf8_acceptRanges {H : Type} : DataW H := .agg [.agg [.lit (.int .u8 128), .lit (.int .u8 191)], .agg [.lit (.int .u8 160), .lit (.int .u8 191)], .agg [.lit (.int .u8 128), .lit (.int .u8 159)], .agg [.lit (.int .u8 144), .lit (.int .u8 191)], .agg [.lit (.int .u8 128), .lit (.int .u8 143)], .agg [.lit (.int .u8 0), .lit (.int .u8 0)], .agg [.lit (.int .u8 0), .lit (.int .u8 0)], .agg [.lit (.int .u8 0), .lit (.int .u8 0)], .agg [.lit (.int .u8 0), .lit (.int .u8 0)], .agg [.lit (.int .u8 0), .lit (.int .u8 0)], .agg [.lit (.int .u8 0), .lit (.int .u8 0)], .agg [.lit (.int .u8 0), .lit (.int .u8 0)], .agg [.lit (.int .u8 0), .lit (.int .u8 0)], .agg [.lit (.int .u8 0), .lit (.int .u8 0)], .agg [.lit (.int .u8 0), .lit (.int .u8 0)], .agg [.lit (.int .u8 0), .lit (.int .u8 0)]]
def laid_loop_example_g00872_impl_arities {H : Type} : DataW H := .agg [.lit (.int .i64 0), .lit (.int .i64 0), .lit (.int .i64 0), .lit (.int .i64 0), .lit (.int .i64 0), .lit (.int .i64 0), .lit (.int .i64 0), .lit (.int .i64 0), .lit (.int .i64 0), .lit (.int .i64 0), .lit (.int .i64 0), .lit (.int .i64 2), .lit (.int .i64 2), .lit (.int .i64 0), .lit (.int .i64 0), .lit (.int .i64 2), .lit (.int .i64 2), .lit (.int .i64 1), .lit (.int .i64 1)]
def laid_loop_example_g00872_impl_dualOperators {H : Type} : DataW H := .agg [.lit (.int .i64 0), .lit (.int .i64 0), .lit (.int .i64 0), .lit (.int .i64 0), .lit (.int .i64 0), .lit (.int .i64 0), .lit (.int .i64 0), .lit (.int .i64 0), .lit (.int .i64 0), .lit (.int .i64 0), .lit (.int .i64 0), .lit (.int .i64 12), .lit (.int .i64 11), .lit (.int .i64 14), .lit (.int .i64 13), .lit (.int .i64 16), .lit (.int .i64 15), .lit (.int .i64 18), .lit (.int .i64 17)]
/-- One of Go's own tables, pinned by name: the form's constant. -/
def laid_unicode_utf8_first : DataW Unit := Go.Pinned.utf8First
def laid_math_bits_deBruijn32tab {H : Type} : DataW H := .agg [.lit (.int .u8 0), .lit (.int .u8 1), .lit (.int .u8 28), .lit (.int .u8 2), .lit (.int .u8 29), .lit (.int .u8 14), .lit (.int .u8 24), .lit (.int .u8 3), .lit (.int .u8 30), .lit (.int .u8 22), .lit (.int .u8 20), .lit (.int .u8 15), .lit (.int .u8 25), .lit (.int .u8 17), .lit (.int .u8 4), .lit (.int .u8 8), .lit (.int .u8 31), .lit (.int .u8 27), .lit (.int .u8 13), .lit (.int .u8 23), .lit (.int .u8 21), .lit (.int .u8 19), .lit (.int .u8 16), .lit (.int .u8 7), .lit (.int .u8 26), .lit (.int .u8 12), .lit (.int .u8 18), .lit (.int .u8 6), .lit (.int .u8 11), .lit (.int .u8 5), .lit (.int .u8 10), .lit (.int .u8 9)]
def laid_math_bits_deBruijn64tab {H : Type} : DataW H := .agg [.lit (.int .u8 0), .lit (.int .u8 1), .lit (.int .u8 56), .lit (.int .u8 2), .lit (.int .u8 57), .lit (.int .u8 49), .lit (.int .u8 28), .lit (.int .u8 3), .lit (.int .u8 61), .lit (.int .u8 58), .lit (.int .u8 42), .lit (.int .u8 50), .lit (.int .u8 38), .lit (.int .u8 29), .lit (.int .u8 17), .lit (.int .u8 4), .lit (.int .u8 62), .lit (.int .u8 47), .lit (.int .u8 59), .lit (.int .u8 36), .lit (.int .u8 45), .lit (.int .u8 43), .lit (.int .u8 51), .lit (.int .u8 22), .lit (.int .u8 53), .lit (.int .u8 39), .lit (.int .u8 33), .lit (.int .u8 30), .lit (.int .u8 24), .lit (.int .u8 18), .lit (.int .u8 12), .lit (.int .u8 5), .lit (.int .u8 63), .lit (.int .u8 55), .lit (.int .u8 48), .lit (.int .u8 27), .lit (.int .u8 60), .lit (.int .u8 41), .lit (.int .u8 37), .lit (.int .u8 16), .lit (.int .u8 46), .lit (.int .u8 35), .lit (.int .u8 44), .lit (.int .u8 21), .lit (.int .u8 52), .lit (.int .u8 32), .lit (.int .u8 23), .lit (.int .u8 11), .lit (.int .u8 54), .lit (.int .u8 26), .lit (.int .u8 40), .lit (.int .u8 15), .lit (.int .u8 34), .lit (.int .u8 20), .lit (.int .u8 31), .lit (.int .u8 10), .lit (.int .u8 25), .lit (.int .u8 14), .lit (.int .u8 19), .lit (.int .u8 9), .lit (.int .u8 13), .lit (.int .u8 8), .lit (.int .u8 7), .lit (.int .u8 6)]
def laid_internal_strconv_uint64pow10 {H : Type} : DataW H := .agg [.lit (.int .u64 1), .lit (.int .u64 10), .lit (.int .u64 100), .lit (.int .u64 1000), .lit (.int .u64 10000), .lit (.int .u64 100000), .lit (.int .u64 1000000), .lit (.int .u64 10000000), .lit (.int .u64 100000000), .lit (.int .u64 1000000000), .lit (.int .u64 10000000000), .lit (.int .u64 100000000000), .lit (.int .u64 1000000000000), .lit (.int .u64 10000000000000), .lit (.int .u64 100000000000000), .lit (.int .u64 1000000000000000), .lit (.int .u64 10000000000000000), .lit (.int .u64 100000000000000000), .lit (.int .u64 1000000000000000000), .lit (.int .u64 10000000000000000000)]
def laid_strconv_ErrRange {H : Type} : DataW H := .iface "*errors.errorString" (.ptr (.agg [.lit (.string [118, 97, 108, 117, 101, 32, 111, 117, 116, 32, 111, 102, 32, 114, 97, 110, 103, 101])]))
def laid_strconv_ErrSyntax {H : Type} : DataW H := .iface "*errors.errorString" (.ptr (.agg [.lit (.string [105, 110, 118, 97, 108, 105, 100, 32, 115, 121, 110, 116, 97, 120])]))
def laid_loop_example_g00872_impl_ruleWords {H : Type} : DataW H := .agg [.lit (.string []), .lit (.string [97, 120]), .lit (.string [99, 117, 116]), .lit (.string [116, 101, 110, 115, 111, 114]), .lit (.string [112, 97, 114]), .lit (.string [111, 110, 101]), .lit (.string [98, 111, 116]), .lit (.string [119, 105, 116, 104]), .lit (.string [112, 108, 117, 115, 108]), .lit (.string [112, 108, 117, 115, 114]), .lit (.string [112, 114, 111, 109]), .lit (.string [100, 101, 114]), .lit (.string [119, 101, 97, 107]), .lit (.string [99, 111, 110]), .lit (.string [115, 119, 97, 112])]

/-- 'laws.FnSeqText': WHATEVER THE INPUT: true; the input reads as it did. -/
def fnSeqTextSpec : ChangeSpec := { name := "fnSeqText", vars := ["loop.example/g00872/impl.arities", "loop.example/g00872/impl.dualOperators"], fn := fun _ => fun
  | [d, g1, g2] => { results := [.lit (.bool true)], args := [d], vars := [g1, g2] }
  | _ => none }
def fnSeqTextRow : OpenClaim := { program := "ytjhagklpnpabeaagreatdoor", sum := "91faa9c7aa75edc800048fd84eb63f6f1ff958c10146ee5097e29ec341131b4b", func := "loop.example/g00872/laws.FnSeqText", spec := "fnSeqText", inPlace := ["internal/abi.NoEscape", "internal/bytealg.MakeNoZero", "internal/bytealg.CountString", "internal/bytealg.IndexByteString", "internal/bytealg.IndexString"], unfollowed := true, recurses := true, named := ["loop.example/g00872/impl.arities", "unicode/utf8.first", "unicode/utf8.acceptRanges", "internal/bytealg.MaxLen", "loop.example/g00872/impl.dualOperators"], apart := false, laid := [("unicode/utf8.acceptRanges", laid_unicode_utf8_acceptRanges), ("loop.example/g00872/impl.arities", laid_loop_example_g00872_impl_arities), ("loop.example/g00872/impl.dualOperators", laid_loop_example_g00872_impl_dualOperators), ("unicode/utf8.first", laid_unicode_utf8_first)] }
def FnSeqTextSaid : Prop := fnSeqTextRow.holds Tryz.pinned (OpenSpec.ofChange fnSeqTextSpec)

/-- ITS FALSE NEIGHBOUR: 'it returns false'. Refute it at one input. -/
def fnSeqTextWrong : ChangeSpec := { name := "fnSeqText", vars := ["loop.example/g00872/impl.arities", "loop.example/g00872/impl.dualOperators"], fn := fun _ => fun
  | [d, g1, g2] => { results := [.lit (.bool false)], args := [d], vars := [g1, g2] }
  | _ => none }
def FnSeqTextWrongFalsely : Prop := fnSeqTextRow.holds Tryz.pinned (OpenSpec.ofChange fnSeqTextWrong)

/-- 'laws.FnProofText': WHATEVER THE INPUT: true; the input reads as it did. -/
def fnProofTextSpec : ChangeSpec := { name := "fnProofText", vars := ["loop.example/g00872/impl.ruleWords", "loop.example/g00872/impl.arities", "loop.example/g00872/impl.dualOperators"], fn := fun _ => fun
  | [d, g1, g2, g3] => { results := [.lit (.bool true)], args := [d], vars := [g1, g2, g3] }
  | _ => none }
def fnProofTextRow : OpenClaim := { program := "ytjhagklpnpabeaagreatdoor", sum := "91faa9c7aa75edc800048fd84eb63f6f1ff958c10146ee5097e29ec341131b4b", func := "loop.example/g00872/laws.FnProofText", spec := "fnProofText", inPlace := ["internal/abi.NoEscape", "internal/bytealg.MakeNoZero", "internal/bytealg.IndexByteString"], unfollowed := true, recurses := true, named := ["loop.example/g00872/impl.ruleWords", "internal/strconv.uint64pow10", "math/bits.deBruijn32tab", "math/bits.deBruijn64tab", "loop.example/g00872/impl.arities", "strconv.ErrSyntax", "strconv.ErrRange", "loop.example/g00872/impl.dualOperators"], apart := false, laid := [("math/bits.deBruijn32tab", laid_math_bits_deBruijn32tab), ("math/bits.deBruijn64tab", laid_math_bits_deBruijn64tab), ("internal/strconv.uint64pow10", laid_internal_strconv_uint64pow10), ("strconv.ErrRange", laid_strconv_ErrRange), ("strconv.ErrSyntax", laid_strconv_ErrSyntax), ("loop.example/g00872/impl.arities", laid_loop_example_g00872_impl_arities), ("loop.example/g00872/impl.dualOperators", laid_loop_example_g00872_impl_dualOperators), ("loop.example/g00872/impl.ruleWords", laid_loop_example_g00872_impl_ruleWords)] }
def FnProofTextSaid : Prop := fnProofTextRow.holds Tryz.pinned (OpenSpec.ofChange fnProofTextSpec)

/-- ITS FALSE NEIGHBOUR: 'it returns false'. Refute it at one input. -/
def fnProofTextWrong : ChangeSpec := { name := "fnProofText", vars := ["loop.example/g00872/impl.ruleWords", "loop.example/g00872/impl.arities", "loop.example/g00872/impl.dualOperators"], fn := fun _ => fun
  | [d, g1, g2, g3] => { results := [.lit (.bool false)], args := [d], vars := [g1, g2, g3] }
  | _ => none }
def FnProofTextWrongFalsely : Prop := fnProofTextRow.holds Tryz.pinned (OpenSpec.ofChange fnProofTextWrong)

/-- 'laws.FnExactReadStep': WHATEVER THE INPUT: true; the input reads as it did. -/
def fnExactReadStepSpec : ChangeSpec := { name := "fnExactReadStep", vars := ["loop.example/g00872/impl.ruleWords", "loop.example/g00872/impl.dualOperators", "loop.example/g00872/impl.arities"], fn := fun _ => fun
  | [d, g1, g2, g3] => { results := [.lit (.bool true)], args := [d], vars := [g1, g2, g3] }
  | _ => none }
def fnExactReadStepRow : OpenClaim := { program := "ytjhagklpnpabeaagreatdoor", sum := "91faa9c7aa75edc800048fd84eb63f6f1ff958c10146ee5097e29ec341131b4b", func := "loop.example/g00872/laws.FnExactReadStep", spec := "fnExactReadStep", inPlace := ["internal/bytealg.IndexByteString", "internal/abi.NoEscape", "internal/bytealg.MakeNoZero"], unfollowed := true, recurses := true, named := ["loop.example/g00872/impl.ruleWords", "strconv.ErrSyntax", "strconv.ErrRange", "internal/strconv.uint64pow10", "math/bits.deBruijn32tab", "math/bits.deBruijn64tab", "loop.example/g00872/impl.dualOperators", "loop.example/g00872/impl.arities"], apart := false, laid := [("math/bits.deBruijn32tab", laid_math_bits_deBruijn32tab), ("math/bits.deBruijn64tab", laid_math_bits_deBruijn64tab), ("internal/strconv.uint64pow10", laid_internal_strconv_uint64pow10), ("strconv.ErrRange", laid_strconv_ErrRange), ("strconv.ErrSyntax", laid_strconv_ErrSyntax), ("loop.example/g00872/impl.arities", laid_loop_example_g00872_impl_arities), ("loop.example/g00872/impl.dualOperators", laid_loop_example_g00872_impl_dualOperators), ("loop.example/g00872/impl.ruleWords", laid_loop_example_g00872_impl_ruleWords)] }
def FnExactReadStepSaid : Prop := fnExactReadStepRow.holds Tryz.pinned (OpenSpec.ofChange fnExactReadStepSpec)

/-- ITS FALSE NEIGHBOUR: 'it returns false'. Refute it at one input. -/
def fnExactReadStepWrong : ChangeSpec := { name := "fnExactReadStep", vars := ["loop.example/g00872/impl.ruleWords", "loop.example/g00872/impl.dualOperators", "loop.example/g00872/impl.arities"], fn := fun _ => fun
  | [d, g1, g2, g3] => { results := [.lit (.bool false)], args := [d], vars := [g1, g2, g3] }
  | _ => none }
def FnExactReadStepWrongFalsely : Prop := fnExactReadStepRow.holds Tryz.pinned (OpenSpec.ofChange fnExactReadStepWrong)

/-- 'laws.FnExactReadProof': WHATEVER THE INPUT: true; the input reads as it did. -/
def fnExactReadProofSpec : ChangeSpec := { name := "fnExactReadProof", vars := ["loop.example/g00872/impl.ruleWords", "loop.example/g00872/impl.dualOperators", "loop.example/g00872/impl.arities"], fn := fun _ => fun
  | [d, g1, g2, g3] => { results := [.lit (.bool true)], args := [d], vars := [g1, g2, g3] }
  | _ => none }
def fnExactReadProofRow : OpenClaim := { program := "ytjhagklpnpabeaagreatdoor", sum := "91faa9c7aa75edc800048fd84eb63f6f1ff958c10146ee5097e29ec341131b4b", func := "loop.example/g00872/laws.FnExactReadProof", spec := "fnExactReadProof", inPlace := ["internal/bytealg.IndexByteString", "internal/abi.NoEscape", "internal/bytealg.MakeNoZero"], unfollowed := true, recurses := true, named := ["loop.example/g00872/impl.ruleWords", "strconv.ErrSyntax", "strconv.ErrRange", "internal/strconv.uint64pow10", "math/bits.deBruijn32tab", "math/bits.deBruijn64tab", "loop.example/g00872/impl.dualOperators", "loop.example/g00872/impl.arities"], apart := false, laid := [("math/bits.deBruijn32tab", laid_math_bits_deBruijn32tab), ("math/bits.deBruijn64tab", laid_math_bits_deBruijn64tab), ("internal/strconv.uint64pow10", laid_internal_strconv_uint64pow10), ("strconv.ErrRange", laid_strconv_ErrRange), ("strconv.ErrSyntax", laid_strconv_ErrSyntax), ("loop.example/g00872/impl.arities", laid_loop_example_g00872_impl_arities), ("loop.example/g00872/impl.dualOperators", laid_loop_example_g00872_impl_dualOperators), ("loop.example/g00872/impl.ruleWords", laid_loop_example_g00872_impl_ruleWords)] }
def FnExactReadProofSaid : Prop := fnExactReadProofRow.holds Tryz.pinned (OpenSpec.ofChange fnExactReadProofSpec)

/-- ITS FALSE NEIGHBOUR: 'it returns false'. Refute it at one input. -/
def fnExactReadProofWrong : ChangeSpec := { name := "fnExactReadProof", vars := ["loop.example/g00872/impl.ruleWords", "loop.example/g00872/impl.dualOperators", "loop.example/g00872/impl.arities"], fn := fun _ => fun
  | [d, g1, g2, g3] => { results := [.lit (.bool false)], args := [d], vars := [g1, g2, g3] }
  | _ => none }
def FnExactReadProofWrongFalsely : Prop := fnExactReadProofRow.holds Tryz.pinned (OpenSpec.ofChange fnExactReadProofWrong)

/-- 'laws.FnExactSequentLines': WHATEVER THE INPUT: true; the input reads as it did. -/
def fnExactSequentLinesSpec : ChangeSpec := { name := "fnExactSequentLines", vars := ["loop.example/g00872/impl.arities"], fn := fun _ => fun
  | [d, g1] => { results := [.lit (.bool true)], args := [d], vars := [g1] }
  | _ => none }
def fnExactSequentLinesRow : OpenClaim := { program := "ytjhagklpnpabeaagreatdoor", sum := "91faa9c7aa75edc800048fd84eb63f6f1ff958c10146ee5097e29ec341131b4b", func := "loop.example/g00872/laws.FnExactSequentLines", spec := "fnExactSequentLines", inPlace := ["internal/abi.NoEscape", "internal/bytealg.MakeNoZero"], unfollowed := true, recurses := true, named := ["loop.example/g00872/impl.arities", "internal/strconv.uint64pow10", "math/bits.deBruijn32tab", "math/bits.deBruijn64tab"], apart := false, laid := [("math/bits.deBruijn32tab", laid_math_bits_deBruijn32tab), ("math/bits.deBruijn64tab", laid_math_bits_deBruijn64tab), ("internal/strconv.uint64pow10", laid_internal_strconv_uint64pow10), ("loop.example/g00872/impl.arities", laid_loop_example_g00872_impl_arities)] }
def FnExactSequentLinesSaid : Prop := fnExactSequentLinesRow.holds Tryz.pinned (OpenSpec.ofChange fnExactSequentLinesSpec)

/-- ITS FALSE NEIGHBOUR: 'it returns false'. Refute it at one input. -/
def fnExactSequentLinesWrong : ChangeSpec := { name := "fnExactSequentLines", vars := ["loop.example/g00872/impl.arities"], fn := fun _ => fun
  | [d, g1] => { results := [.lit (.bool false)], args := [d], vars := [g1] }
  | _ => none }
def FnExactSequentLinesWrongFalsely : Prop := fnExactSequentLinesRow.holds Tryz.pinned (OpenSpec.ofChange fnExactSequentLinesWrong)

/-- 'laws.FnExactOutline': WHATEVER THE INPUT: true; the input reads as it did. -/
def fnExactOutlineSpec : ChangeSpec := { name := "fnExactOutline", vars := ["loop.example/g00872/impl.arities", "loop.example/g00872/impl.ruleWords"], fn := fun _ => fun
  | [d, g1, g2] => { results := [.lit (.bool true)], args := [d], vars := [g1, g2] }
  | _ => none }
def fnExactOutlineRow : OpenClaim := { program := "ytjhagklpnpabeaagreatdoor", sum := "91faa9c7aa75edc800048fd84eb63f6f1ff958c10146ee5097e29ec341131b4b", func := "loop.example/g00872/laws.FnExactOutline", spec := "fnExactOutline", inPlace := ["internal/abi.NoEscape", "internal/bytealg.MakeNoZero"], unfollowed := true, recurses := true, named := ["loop.example/g00872/impl.arities", "loop.example/g00872/impl.ruleWords"], apart := false, laid := [("loop.example/g00872/impl.arities", laid_loop_example_g00872_impl_arities), ("loop.example/g00872/impl.ruleWords", laid_loop_example_g00872_impl_ruleWords)] }
def FnExactOutlineSaid : Prop := fnExactOutlineRow.holds Tryz.pinned (OpenSpec.ofChange fnExactOutlineSpec)

/-- ITS FALSE NEIGHBOUR: 'it returns false'. Refute it at one input. -/
def fnExactOutlineWrong : ChangeSpec := { name := "fnExactOutline", vars := ["loop.example/g00872/impl.arities", "loop.example/g00872/impl.ruleWords"], fn := fun _ => fun
  | [d, g1, g2] => { results := [.lit (.bool false)], args := [d], vars := [g1, g2] }
  | _ => none }
def FnExactOutlineWrongFalsely : Prop := fnExactOutlineRow.holds Tryz.pinned (OpenSpec.ofChange fnExactOutlineWrong)

/- THE SECOND FORM. 'bulk': how many values and letters a reading holds, each counted each time it is reached (what is shared counts as often as it is met; a slice's spare places count too). A statement '..UptoSaid' is the law's where the arguments, and the package variables that the reading takes, are together of bulk at most 1048576: NARROWER than '..Said'. Prove '..Said' where nothing that the law and all that it calls make is longer than what came in: it says more and counts as full. Else prove '..UptoSaid'. A law counts once. -/
mutual
def uptoBulk {H : Type} : DataW H → Nat
  | .lit (.string bytes) => bytes.length + 1
  | .lit _ => 1
  | .nil => 1
  | .ptr d => uptoBulk d + 1
  | .slice elems spare => uptoBulkAll elems + uptoBulkAll spare + 1
  | .agg parts => uptoBulkAll parts + 1
  | .iface _ d => uptoBulk d + 1
  | .map entries => uptoBulkEntries entries + 1
  | .held _ => 1
def uptoBulkAll {H : Type} : List (DataW H) → Nat
  | [] => 0
  | d :: r => uptoBulk d + uptoBulkAll r
def uptoBulkEntries {H : Type} : List (Lit × DataW H) → Nat
  | [] => 0
  | x :: r => uptoBulkEntry x + uptoBulkEntries r
def uptoBulkEntry {H : Type} : Lit × DataW H → Nat
  | (.string bytes, d) => bytes.length + uptoBulk d + 1
  | (_, d) => uptoBulk d + 1
 end
def uptoSmall : (H : Type) → List (DataW H) → Bool := fun _ ds => decide (uptoBulkAll ds ≤ 1048576)
def OpenSpec.upto (s : _root_.Go.ChangeSpec) : _root_.Go.OpenSpec := { _root_.Go.OpenSpec.ofChange s with cond := some uptoSmall }

/-- 'laws.FnSeqText', WHERE WHAT IT READS IS OF BULK AT MOST 1048576: true; the input reads as it did. -/
def fnSeqTextUptoRow : OpenClaim := { program := "ytjhagklpnpabeaagreatdoor", sum := "91faa9c7aa75edc800048fd84eb63f6f1ff958c10146ee5097e29ec341131b4b", func := "loop.example/g00872/laws.FnSeqText", spec := "fnSeqText", inPlace := ["internal/abi.NoEscape", "internal/bytealg.MakeNoZero", "internal/bytealg.CountString", "internal/bytealg.IndexByteString", "internal/bytealg.IndexString"], unfollowed := true, recurses := true, named := ["loop.example/g00872/impl.arities", "unicode/utf8.first", "unicode/utf8.acceptRanges", "internal/bytealg.MaxLen", "loop.example/g00872/impl.dualOperators"], apart := false, laid := [("unicode/utf8.acceptRanges", laid_unicode_utf8_acceptRanges), ("loop.example/g00872/impl.arities", laid_loop_example_g00872_impl_arities), ("loop.example/g00872/impl.dualOperators", laid_loop_example_g00872_impl_dualOperators), ("unicode/utf8.first", laid_unicode_utf8_first)], narrowed := true }
def FnSeqTextUptoSaid : Prop := fnSeqTextUptoRow.holds Tryz.pinned (OpenSpec.upto fnSeqTextSpec)

/-- 'laws.FnProofText', WHERE WHAT IT READS IS OF BULK AT MOST 1048576: true; the input reads as it did. -/
def fnProofTextUptoRow : OpenClaim := { program := "ytjhagklpnpabeaagreatdoor", sum := "91faa9c7aa75edc800048fd84eb63f6f1ff958c10146ee5097e29ec341131b4b", func := "loop.example/g00872/laws.FnProofText", spec := "fnProofText", inPlace := ["internal/abi.NoEscape", "internal/bytealg.MakeNoZero", "internal/bytealg.IndexByteString"], unfollowed := true, recurses := true, named := ["loop.example/g00872/impl.ruleWords", "internal/strconv.uint64pow10", "math/bits.deBruijn32tab", "math/bits.deBruijn64tab", "loop.example/g00872/impl.arities", "strconv.ErrSyntax", "strconv.ErrRange", "loop.example/g00872/impl.dualOperators"], apart := false, laid := [("math/bits.deBruijn32tab", laid_math_bits_deBruijn32tab), ("math/bits.deBruijn64tab", laid_math_bits_deBruijn64tab), ("internal/strconv.uint64pow10", laid_internal_strconv_uint64pow10), ("strconv.ErrRange", laid_strconv_ErrRange), ("strconv.ErrSyntax", laid_strconv_ErrSyntax), ("loop.example/g00872/impl.arities", laid_loop_example_g00872_impl_arities), ("loop.example/g00872/impl.dualOperators", laid_loop_example_g00872_impl_dualOperators), ("loop.example/g00872/impl.ruleWords", laid_loop_example_g00872_impl_ruleWords)], narrowed := true }
def FnProofTextUptoSaid : Prop := fnProofTextUptoRow.holds Tryz.pinned (OpenSpec.upto fnProofTextSpec)

/-- 'laws.FnExactReadStep', WHERE WHAT IT READS IS OF BULK AT MOST 1048576: true; the input reads as it did. -/
def fnExactReadStepUptoRow : OpenClaim := { program := "ytjhagklpnpabeaagreatdoor", sum := "91faa9c7aa75edc800048fd84eb63f6f1ff958c10146ee5097e29ec341131b4b", func := "loop.example/g00872/laws.FnExactReadStep", spec := "fnExactReadStep", inPlace := ["internal/bytealg.IndexByteString", "internal/abi.NoEscape", "internal/bytealg.MakeNoZero"], unfollowed := true, recurses := true, named := ["loop.example/g00872/impl.ruleWords", "strconv.ErrSyntax", "strconv.ErrRange", "internal/strconv.uint64pow10", "math/bits.deBruijn32tab", "math/bits.deBruijn64tab", "loop.example/g00872/impl.dualOperators", "loop.example/g00872/impl.arities"], apart := false, laid := [("math/bits.deBruijn32tab", laid_math_bits_deBruijn32tab), ("math/bits.deBruijn64tab", laid_math_bits_deBruijn64tab), ("internal/strconv.uint64pow10", laid_internal_strconv_uint64pow10), ("strconv.ErrRange", laid_strconv_ErrRange), ("strconv.ErrSyntax", laid_strconv_ErrSyntax), ("loop.example/g00872/impl.arities", laid_loop_example_g00872_impl_arities), ("loop.example/g00872/impl.dualOperators", laid_loop_example_g00872_impl_dualOperators), ("loop.example/g00872/impl.ruleWords", laid_loop_example_g00872_impl_ruleWords)], narrowed := true }
def FnExactReadStepUptoSaid : Prop := fnExactReadStepUptoRow.holds Tryz.pinned (OpenSpec.upto fnExactReadStepSpec)

/-- 'laws.FnExactReadProof', WHERE WHAT IT READS IS OF BULK AT MOST 1048576: true; the input reads as it did. -/
def fnExactReadProofUptoRow : OpenClaim := { program := "ytjhagklpnpabeaagreatdoor", sum := "91faa9c7aa75edc800048fd84eb63f6f1ff958c10146ee5097e29ec341131b4b", func := "loop.example/g00872/laws.FnExactReadProof", spec := "fnExactReadProof", inPlace := ["internal/bytealg.IndexByteString", "internal/abi.NoEscape", "internal/bytealg.MakeNoZero"], unfollowed := true, recurses := true, named := ["loop.example/g00872/impl.ruleWords", "strconv.ErrSyntax", "strconv.ErrRange", "internal/strconv.uint64pow10", "math/bits.deBruijn32tab", "math/bits.deBruijn64tab", "loop.example/g00872/impl.dualOperators", "loop.example/g00872/impl.arities"], apart := false, laid := [("math/bits.deBruijn32tab", laid_math_bits_deBruijn32tab), ("math/bits.deBruijn64tab", laid_math_bits_deBruijn64tab), ("internal/strconv.uint64pow10", laid_internal_strconv_uint64pow10), ("strconv.ErrRange", laid_strconv_ErrRange), ("strconv.ErrSyntax", laid_strconv_ErrSyntax), ("loop.example/g00872/impl.arities", laid_loop_example_g00872_impl_arities), ("loop.example/g00872/impl.dualOperators", laid_loop_example_g00872_impl_dualOperators), ("loop.example/g00872/impl.ruleWords", laid_loop_example_g00872_impl_ruleWords)], narrowed := true }
def FnExactReadProofUptoSaid : Prop := fnExactReadProofUptoRow.holds Tryz.pinned (OpenSpec.upto fnExactReadProofSpec)

/-- 'laws.FnExactSequentLines', WHERE WHAT IT READS IS OF BULK AT MOST 1048576: true; the input reads as it did. -/
def fnExactSequentLinesUptoRow : OpenClaim := { program := "ytjhagklpnpabeaagreatdoor", sum := "91faa9c7aa75edc800048fd84eb63f6f1ff958c10146ee5097e29ec341131b4b", func := "loop.example/g00872/laws.FnExactSequentLines", spec := "fnExactSequentLines", inPlace := ["internal/abi.NoEscape", "internal/bytealg.MakeNoZero"], unfollowed := true, recurses := true, named := ["loop.example/g00872/impl.arities", "internal/strconv.uint64pow10", "math/bits.deBruijn32tab", "math/bits.deBruijn64tab"], apart := false, laid := [("math/bits.deBruijn32tab", laid_math_bits_deBruijn32tab), ("math/bits.deBruijn64tab", laid_math_bits_deBruijn64tab), ("internal/strconv.uint64pow10", laid_internal_strconv_uint64pow10), ("loop.example/g00872/impl.arities", laid_loop_example_g00872_impl_arities)], narrowed := true }
def FnExactSequentLinesUptoSaid : Prop := fnExactSequentLinesUptoRow.holds Tryz.pinned (OpenSpec.upto fnExactSequentLinesSpec)

/-- 'laws.FnExactOutline', WHERE WHAT IT READS IS OF BULK AT MOST 1048576: true; the input reads as it did. -/
def fnExactOutlineUptoRow : OpenClaim := { program := "ytjhagklpnpabeaagreatdoor", sum := "91faa9c7aa75edc800048fd84eb63f6f1ff958c10146ee5097e29ec341131b4b", func := "loop.example/g00872/laws.FnExactOutline", spec := "fnExactOutline", inPlace := ["internal/abi.NoEscape", "internal/bytealg.MakeNoZero"], unfollowed := true, recurses := true, named := ["loop.example/g00872/impl.arities", "loop.example/g00872/impl.ruleWords"], apart := false, laid := [("loop.example/g00872/impl.arities", laid_loop_example_g00872_impl_arities), ("loop.example/g00872/impl.ruleWords", laid_loop_example_g00872_impl_ruleWords)], narrowed := true }
def FnExactOutlineUptoSaid : Prop := fnExactOutlineUptoRow.holds Tryz.pinned (OpenSpec.upto fnExactOutlineSpec)

end Rows
end Go.Proofs.YtjhagklpnpabeaaGreatDoor
