/-
  NARROWER THAN 'FOR EVERY INPUT', by the rows' own cells (each row's printed sentence says how): FnProofText: laid · FnExpanded: laid · FnArranged: laid · FnCombined: laid · FnExactReadStep: laid · FnExactReadProof: laid · FnExactIdentityProof: laid · FnExactExpandedProof: laid · FnExactExtendedProof: laid · FnExactCombinedProof: laid.
  DERIVED. THE GIVEN ROWS OF THIS SEAT. 10 by the template 'for every input the law returns true; each argument reads behind the call as it read before'; 0 by the template 'total and deterministic' (their statements: YtjgmgaccmcepdaaGreatDoorTotals.lean).
  GIVEN WITH THE SEED: the statements are not yours to turn. If you find one false, say at which input.
  Laid BY PROGRAM, IN A SANDBOX (cutbox-rows.mjs): the forced cells as the released guide's own fill.sh prints them over the translation 6af6883fec241092… (all of the seat's roots in one cut). By AI agents, Wed Nov 11 2026. No macro, syntax, notation, axiom, sorry.
-/
import Derived.Test.YtjgmgaccmcepdaaGreatDoorChecked
import GoSem.Claim
import GoSem.ClaimJoined
import GoSem.ClaimMapViews
import Derived.JoinedTies
import Derived.KernelRfl
namespace Go.Proofs.YtjgmgaccmcepdaaGreatDoor
/- THE CELL 'sum', in the pinned program and in every row, IS THE sha256 OF THE DUMP (.gsa) THAT YtjgmgaccmcepdaaGreatDoorProg.lean LOADS. Nothing in Lean hashes anything: it is a label: what it is worth is what the hold of that sum in a sandbox is worth. -/
noncomputable def Tryz.pinned : Pinned := { name := "ytjgmgaccmcepdaagreatdoor", sum := "6af6883fec241092196f170fef93debcb27a93b1621aa835e677ef0439838900", checked := Tryz.checked }
namespace Rows
def none {H : Type} : Left H := { results := [], args := [] }

/- WHAT THE LISTED PACKAGE-LEVEL VARIABLES READ AS WHEN THE CALL BEGINS. Each datum BY PROGRAM (the guide's laid-datum.mjs) off the statement by which the dump's own 'gosem.cut.vars' lays the variable. In a bare row this is a premise. The card (YtjgmgaccmcepdaaGreatDoorCards.lean) ties it to the program's text. -/
def laid_math_bits_deBruijn32tab {H : Type} : DataW H := .agg [.lit (.int .u8 0), .lit (.int .u8 1), .lit (.int .u8 28), .lit (.int .u8 2), .lit (.int .u8 29), .lit (.int .u8 14), .lit (.int .u8 24), .lit (.int .u8 3), .lit (.int .u8 30), .lit (.int .u8 22), .lit (.int .u8 20), .lit (.int .u8 15), .lit (.int .u8 25), .lit (.int .u8 17), .lit (.int .u8 4), .lit (.int .u8 8), .lit (.int .u8 31), .lit (.int .u8 27), .lit (.int .u8 13), .lit (.int .u8 23), .lit (.int .u8 21), .lit (.int .u8 19), .lit (.int .u8 16), .lit (.int .u8 7), .lit (.int .u8 26), .lit (.int .u8 12), .lit (.int .u8 18), .lit (.int .u8 6), .lit (.int .u8 11), .lit (.int .u8 5), .lit (.int .u8 10), .lit (.int .u8 9)]
def laid_math_bits_deBruijn64tab {H : Type} : DataW H := .agg [.lit (.int .u8 0), .lit (.int .u8 1), .lit (.int .u8 56), .lit (.int .u8 2), .lit (.int .u8 57), .lit (.int .u8 49), .lit (.int .u8 28), .lit (.int .u8 3), .lit (.int .u8 61), .lit (.int .u8 58), .lit (.int .u8 42), .lit (.int .u8 50), .lit (.int .u8 38), .lit (.int .u8 29), .lit (.int .u8 17), .lit (.int .u8 4), .lit (.int .u8 62), .lit (.int .u8 47), .lit (.int .u8 59), .lit (.int .u8 36), .lit (.int .u8 45), .lit (.int .u8 43), .lit (.int .u8 51), .lit (.int .u8 22), .lit (.int .u8 53), .lit (.int .u8 39), .lit (.int .u8 33), .lit (.int .u8 30), .lit (.int .u8 24), .lit (.int .u8 18), .lit (.int .u8 12), .lit (.int .u8 5), .lit (.int .u8 63), .lit (.int .u8 55), .lit (.int .u8 48), .lit (.int .u8 27), .lit (.int .u8 60), .lit (.int .u8 41), .lit (.int .u8 37), .lit (.int .u8 16), .lit (.int .u8 46), .lit (.int .u8 35), .lit (.int .u8 44), .lit (.int .u8 21), .lit (.int .u8 52), .lit (.int .u8 32), .lit (.int .u8 23), .lit (.int .u8 11), .lit (.int .u8 54), .lit (.int .u8 26), .lit (.int .u8 40), .lit (.int .u8 15), .lit (.int .u8 34), .lit (.int .u8 20), .lit (.int .u8 31), .lit (.int .u8 10), .lit (.int .u8 25), .lit (.int .u8 14), .lit (.int .u8 19), .lit (.int .u8 9), .lit (.int .u8 13), .lit (.int .u8 8), .lit (.int .u8 7), .lit (.int .u8 6)]
def laid_internal_strconv_uint64pow10 {H : Type} : DataW H := .agg [.lit (.int .u64 1), .lit (.int .u64 10), .lit (.int .u64 100), .lit (.int .u64 1000), .lit (.int .u64 10000), .lit (.int .u64 100000), .lit (.int .u64 1000000), .lit (.int .u64 10000000), .lit (.int .u64 100000000), .lit (.int .u64 1000000000), .lit (.int .u64 10000000000), .lit (.int .u64 100000000000), .lit (.int .u64 1000000000000), .lit (.int .u64 10000000000000), .lit (.int .u64 100000000000000), .lit (.int .u64 1000000000000000), .lit (.int .u64 10000000000000000), .lit (.int .u64 100000000000000000), .lit (.int .u64 1000000000000000000), .lit (.int .u64 10000000000000000000)]
def laid_strconv_ErrRange {H : Type} : DataW H := .iface "*errors.errorString" (.ptr (.agg [.lit (.string [118, 97, 108, 117, 101, 32, 111, 117, 116, 32, 111, 102, 32, 114, 97, 110, 103, 101])]))
def laid_strconv_ErrSyntax {H : Type} : DataW H := .iface "*errors.errorString" (.ptr (.agg [.lit (.string [105, 110, 118, 97, 108, 105, 100, 32, 115, 121, 110, 116, 97, 120])]))
def laid_loop_example_g00872_impl_arities {H : Type} : DataW H := .agg [.lit (.int .i64 0), .lit (.int .i64 0), .lit (.int .i64 0), .lit (.int .i64 0), .lit (.int .i64 0), .lit (.int .i64 0), .lit (.int .i64 0), .lit (.int .i64 0), .lit (.int .i64 0), .lit (.int .i64 0), .lit (.int .i64 0), .lit (.int .i64 2), .lit (.int .i64 2), .lit (.int .i64 0), .lit (.int .i64 0), .lit (.int .i64 2), .lit (.int .i64 2), .lit (.int .i64 1), .lit (.int .i64 1)]
def laid_loop_example_g00872_impl_dualOperators {H : Type} : DataW H := .agg [.lit (.int .i64 0), .lit (.int .i64 0), .lit (.int .i64 0), .lit (.int .i64 0), .lit (.int .i64 0), .lit (.int .i64 0), .lit (.int .i64 0), .lit (.int .i64 0), .lit (.int .i64 0), .lit (.int .i64 0), .lit (.int .i64 0), .lit (.int .i64 12), .lit (.int .i64 11), .lit (.int .i64 14), .lit (.int .i64 13), .lit (.int .i64 16), .lit (.int .i64 15), .lit (.int .i64 18), .lit (.int .i64 17)]
def laid_loop_example_g00872_impl_ruleWords {H : Type} : DataW H := .agg [.lit (.string []), .lit (.string [97, 120]), .lit (.string [99, 117, 116]), .lit (.string [116, 101, 110, 115, 111, 114]), .lit (.string [112, 97, 114]), .lit (.string [111, 110, 101]), .lit (.string [98, 111, 116]), .lit (.string [119, 105, 116, 104]), .lit (.string [112, 108, 117, 115, 108]), .lit (.string [112, 108, 117, 115, 114]), .lit (.string [112, 114, 111, 109]), .lit (.string [100, 101, 114]), .lit (.string [119, 101, 97, 107]), .lit (.string [99, 111, 110]), .lit (.string [115, 119, 97, 112])]

/-- 'laws.FnProofText': WHATEVER THE INPUT: true; the input reads as it did. -/
def fnProofTextSpec : ChangeSpec := { name := "fnProofText", vars := ["loop.example/g00872/impl.ruleWords", "loop.example/g00872/impl.arities", "loop.example/g00872/impl.dualOperators"], fn := fun _ => fun
  | [d, g1, g2, g3] => { results := [.lit (.bool true)], args := [d], vars := [g1, g2, g3] }
  | _ => none }
def fnProofTextRow : OpenClaim := { program := "ytjgmgaccmcepdaagreatdoor", sum := "6af6883fec241092196f170fef93debcb27a93b1621aa835e677ef0439838900", func := "loop.example/g00872/laws.FnProofText", spec := "fnProofText", inPlace := ["internal/abi.NoEscape", "internal/bytealg.MakeNoZero", "internal/bytealg.IndexByteString"], unfollowed := true, recurses := true, named := ["loop.example/g00872/impl.ruleWords", "internal/strconv.uint64pow10", "math/bits.deBruijn32tab", "math/bits.deBruijn64tab", "loop.example/g00872/impl.arities", "strconv.ErrSyntax", "strconv.ErrRange", "loop.example/g00872/impl.dualOperators"], apart := false, laid := [("math/bits.deBruijn32tab", laid_math_bits_deBruijn32tab), ("math/bits.deBruijn64tab", laid_math_bits_deBruijn64tab), ("internal/strconv.uint64pow10", laid_internal_strconv_uint64pow10), ("strconv.ErrRange", laid_strconv_ErrRange), ("strconv.ErrSyntax", laid_strconv_ErrSyntax), ("loop.example/g00872/impl.arities", laid_loop_example_g00872_impl_arities), ("loop.example/g00872/impl.dualOperators", laid_loop_example_g00872_impl_dualOperators), ("loop.example/g00872/impl.ruleWords", laid_loop_example_g00872_impl_ruleWords)] }
def FnProofTextSaid : Prop := fnProofTextRow.holds Tryz.pinned (OpenSpec.ofChange fnProofTextSpec)

/-- ITS FALSE NEIGHBOUR: 'it returns false'. Refute it at one input. -/
def fnProofTextWrong : ChangeSpec := { name := "fnProofText", vars := ["loop.example/g00872/impl.ruleWords", "loop.example/g00872/impl.arities", "loop.example/g00872/impl.dualOperators"], fn := fun _ => fun
  | [d, g1, g2, g3] => { results := [.lit (.bool false)], args := [d], vars := [g1, g2, g3] }
  | _ => none }
def FnProofTextWrongFalsely : Prop := fnProofTextRow.holds Tryz.pinned (OpenSpec.ofChange fnProofTextWrong)

/-- 'laws.FnExpanded': WHATEVER THE INPUT: true; the input reads as it did. -/
def fnExpandedSpec : ChangeSpec := { name := "fnExpanded", vars := ["loop.example/g00872/impl.arities", "loop.example/g00872/impl.dualOperators"], fn := fun _ => fun
  | [d, g1, g2] => { results := [.lit (.bool true)], args := [d], vars := [g1, g2] }
  | _ => none }
def fnExpandedRow : OpenClaim := { program := "ytjgmgaccmcepdaagreatdoor", sum := "6af6883fec241092196f170fef93debcb27a93b1621aa835e677ef0439838900", func := "loop.example/g00872/laws.FnExpanded", spec := "fnExpanded", unfollowed := true, recurses := true, named := ["loop.example/g00872/impl.arities", "loop.example/g00872/impl.dualOperators"], apart := false, laid := [("loop.example/g00872/impl.arities", laid_loop_example_g00872_impl_arities), ("loop.example/g00872/impl.dualOperators", laid_loop_example_g00872_impl_dualOperators)] }
def FnExpandedSaid : Prop := fnExpandedRow.holds Tryz.pinned (OpenSpec.ofChange fnExpandedSpec)

/-- ITS FALSE NEIGHBOUR: 'it returns false'. Refute it at one input. -/
def fnExpandedWrong : ChangeSpec := { name := "fnExpanded", vars := ["loop.example/g00872/impl.arities", "loop.example/g00872/impl.dualOperators"], fn := fun _ => fun
  | [d, g1, g2] => { results := [.lit (.bool false)], args := [d], vars := [g1, g2] }
  | _ => none }
def FnExpandedWrongFalsely : Prop := fnExpandedRow.holds Tryz.pinned (OpenSpec.ofChange fnExpandedWrong)

/-- 'laws.FnArranged': WHATEVER THE INPUT: true; the input reads as it did. -/
def fnArrangedSpec : ChangeSpec := { name := "fnArranged", vars := ["loop.example/g00872/impl.arities"], fn := fun _ => fun
  | [d, g1] => { results := [.lit (.bool true)], args := [d], vars := [g1] }
  | _ => none }
def fnArrangedRow : OpenClaim := { program := "ytjgmgaccmcepdaagreatdoor", sum := "6af6883fec241092196f170fef93debcb27a93b1621aa835e677ef0439838900", func := "loop.example/g00872/laws.FnArranged", spec := "fnArranged", unfollowed := true, recurses := true, named := ["loop.example/g00872/impl.arities"], apart := false, laid := [("loop.example/g00872/impl.arities", laid_loop_example_g00872_impl_arities)] }
def FnArrangedSaid : Prop := fnArrangedRow.holds Tryz.pinned (OpenSpec.ofChange fnArrangedSpec)

/-- ITS FALSE NEIGHBOUR: 'it returns false'. Refute it at one input. -/
def fnArrangedWrong : ChangeSpec := { name := "fnArranged", vars := ["loop.example/g00872/impl.arities"], fn := fun _ => fun
  | [d, g1] => { results := [.lit (.bool false)], args := [d], vars := [g1] }
  | _ => none }
def FnArrangedWrongFalsely : Prop := fnArrangedRow.holds Tryz.pinned (OpenSpec.ofChange fnArrangedWrong)

/-- 'laws.FnCombined': WHATEVER THE INPUT: true; the input reads as it did. -/
def fnCombinedSpec : ChangeSpec := { name := "fnCombined", vars := ["loop.example/g00872/impl.arities"], fn := fun _ => fun
  | [d, g1] => { results := [.lit (.bool true)], args := [d], vars := [g1] }
  | _ => none }
def fnCombinedRow : OpenClaim := { program := "ytjgmgaccmcepdaagreatdoor", sum := "6af6883fec241092196f170fef93debcb27a93b1621aa835e677ef0439838900", func := "loop.example/g00872/laws.FnCombined", spec := "fnCombined", unfollowed := true, recurses := true, named := ["loop.example/g00872/impl.arities"], apart := false, laid := [("loop.example/g00872/impl.arities", laid_loop_example_g00872_impl_arities)] }
def FnCombinedSaid : Prop := fnCombinedRow.holds Tryz.pinned (OpenSpec.ofChange fnCombinedSpec)

/-- ITS FALSE NEIGHBOUR: 'it returns false'. Refute it at one input. -/
def fnCombinedWrong : ChangeSpec := { name := "fnCombined", vars := ["loop.example/g00872/impl.arities"], fn := fun _ => fun
  | [d, g1] => { results := [.lit (.bool false)], args := [d], vars := [g1] }
  | _ => none }
def FnCombinedWrongFalsely : Prop := fnCombinedRow.holds Tryz.pinned (OpenSpec.ofChange fnCombinedWrong)

/-- 'laws.FnExactReadStep': WHATEVER THE INPUT: true; the input reads as it did. -/
def fnExactReadStepSpec : ChangeSpec := { name := "fnExactReadStep", vars := ["loop.example/g00872/impl.ruleWords", "loop.example/g00872/impl.dualOperators", "loop.example/g00872/impl.arities"], fn := fun _ => fun
  | [d, g1, g2, g3] => { results := [.lit (.bool true)], args := [d], vars := [g1, g2, g3] }
  | _ => none }
def fnExactReadStepRow : OpenClaim := { program := "ytjgmgaccmcepdaagreatdoor", sum := "6af6883fec241092196f170fef93debcb27a93b1621aa835e677ef0439838900", func := "loop.example/g00872/laws.FnExactReadStep", spec := "fnExactReadStep", inPlace := ["internal/bytealg.IndexByteString", "internal/abi.NoEscape", "internal/bytealg.MakeNoZero"], unfollowed := true, recurses := true, named := ["loop.example/g00872/impl.ruleWords", "strconv.ErrSyntax", "strconv.ErrRange", "internal/strconv.uint64pow10", "math/bits.deBruijn32tab", "math/bits.deBruijn64tab", "loop.example/g00872/impl.dualOperators", "loop.example/g00872/impl.arities"], apart := false, laid := [("math/bits.deBruijn32tab", laid_math_bits_deBruijn32tab), ("math/bits.deBruijn64tab", laid_math_bits_deBruijn64tab), ("internal/strconv.uint64pow10", laid_internal_strconv_uint64pow10), ("strconv.ErrRange", laid_strconv_ErrRange), ("strconv.ErrSyntax", laid_strconv_ErrSyntax), ("loop.example/g00872/impl.arities", laid_loop_example_g00872_impl_arities), ("loop.example/g00872/impl.dualOperators", laid_loop_example_g00872_impl_dualOperators), ("loop.example/g00872/impl.ruleWords", laid_loop_example_g00872_impl_ruleWords)] }
def FnExactReadStepSaid : Prop := fnExactReadStepRow.holds Tryz.pinned (OpenSpec.ofChange fnExactReadStepSpec)

/-- ITS FALSE NEIGHBOUR: 'it returns false'. Refute it at one input. -/
def fnExactReadStepWrong : ChangeSpec := { name := "fnExactReadStep", vars := ["loop.example/g00872/impl.ruleWords", "loop.example/g00872/impl.dualOperators", "loop.example/g00872/impl.arities"], fn := fun _ => fun
  | [d, g1, g2, g3] => { results := [.lit (.bool false)], args := [d], vars := [g1, g2, g3] }
  | _ => none }
def FnExactReadStepWrongFalsely : Prop := fnExactReadStepRow.holds Tryz.pinned (OpenSpec.ofChange fnExactReadStepWrong)

/-- 'laws.FnExactReadProof': WHATEVER THE INPUT: true; the input reads as it did. -/
def fnExactReadProofSpec : ChangeSpec := { name := "fnExactReadProof", vars := ["loop.example/g00872/impl.ruleWords", "loop.example/g00872/impl.dualOperators", "loop.example/g00872/impl.arities"], fn := fun _ => fun
  | [d, g1, g2, g3] => { results := [.lit (.bool true)], args := [d], vars := [g1, g2, g3] }
  | _ => none }
def fnExactReadProofRow : OpenClaim := { program := "ytjgmgaccmcepdaagreatdoor", sum := "6af6883fec241092196f170fef93debcb27a93b1621aa835e677ef0439838900", func := "loop.example/g00872/laws.FnExactReadProof", spec := "fnExactReadProof", inPlace := ["internal/bytealg.IndexByteString", "internal/abi.NoEscape", "internal/bytealg.MakeNoZero"], unfollowed := true, recurses := true, named := ["loop.example/g00872/impl.ruleWords", "strconv.ErrSyntax", "strconv.ErrRange", "internal/strconv.uint64pow10", "math/bits.deBruijn32tab", "math/bits.deBruijn64tab", "loop.example/g00872/impl.dualOperators", "loop.example/g00872/impl.arities"], apart := false, laid := [("math/bits.deBruijn32tab", laid_math_bits_deBruijn32tab), ("math/bits.deBruijn64tab", laid_math_bits_deBruijn64tab), ("internal/strconv.uint64pow10", laid_internal_strconv_uint64pow10), ("strconv.ErrRange", laid_strconv_ErrRange), ("strconv.ErrSyntax", laid_strconv_ErrSyntax), ("loop.example/g00872/impl.arities", laid_loop_example_g00872_impl_arities), ("loop.example/g00872/impl.dualOperators", laid_loop_example_g00872_impl_dualOperators), ("loop.example/g00872/impl.ruleWords", laid_loop_example_g00872_impl_ruleWords)] }
def FnExactReadProofSaid : Prop := fnExactReadProofRow.holds Tryz.pinned (OpenSpec.ofChange fnExactReadProofSpec)

/-- ITS FALSE NEIGHBOUR: 'it returns false'. Refute it at one input. -/
def fnExactReadProofWrong : ChangeSpec := { name := "fnExactReadProof", vars := ["loop.example/g00872/impl.ruleWords", "loop.example/g00872/impl.dualOperators", "loop.example/g00872/impl.arities"], fn := fun _ => fun
  | [d, g1, g2, g3] => { results := [.lit (.bool false)], args := [d], vars := [g1, g2, g3] }
  | _ => none }
def FnExactReadProofWrongFalsely : Prop := fnExactReadProofRow.holds Tryz.pinned (OpenSpec.ofChange fnExactReadProofWrong)

/-- 'laws.FnExactIdentityProof': WHATEVER THE INPUT: true; the input reads as it did. -/
def fnExactIdentityProofSpec : ChangeSpec := { name := "fnExactIdentityProof", vars := ["loop.example/g00872/impl.arities", "loop.example/g00872/impl.dualOperators"], fn := fun _ => fun
  | [d, g1, g2] => { results := [.lit (.bool true)], args := [d], vars := [g1, g2] }
  | _ => none }
def fnExactIdentityProofRow : OpenClaim := { program := "ytjgmgaccmcepdaagreatdoor", sum := "6af6883fec241092196f170fef93debcb27a93b1621aa835e677ef0439838900", func := "loop.example/g00872/laws.FnExactIdentityProof", spec := "fnExactIdentityProof", unfollowed := true, recurses := true, named := ["loop.example/g00872/impl.arities", "loop.example/g00872/impl.dualOperators"], apart := false, laid := [("loop.example/g00872/impl.arities", laid_loop_example_g00872_impl_arities), ("loop.example/g00872/impl.dualOperators", laid_loop_example_g00872_impl_dualOperators)] }
def FnExactIdentityProofSaid : Prop := fnExactIdentityProofRow.holds Tryz.pinned (OpenSpec.ofChange fnExactIdentityProofSpec)

/-- ITS FALSE NEIGHBOUR: 'it returns false'. Refute it at one input. -/
def fnExactIdentityProofWrong : ChangeSpec := { name := "fnExactIdentityProof", vars := ["loop.example/g00872/impl.arities", "loop.example/g00872/impl.dualOperators"], fn := fun _ => fun
  | [d, g1, g2] => { results := [.lit (.bool false)], args := [d], vars := [g1, g2] }
  | _ => none }
def FnExactIdentityProofWrongFalsely : Prop := fnExactIdentityProofRow.holds Tryz.pinned (OpenSpec.ofChange fnExactIdentityProofWrong)

/-- 'laws.FnExactExpandedProof': WHATEVER THE INPUT: true; the input reads as it did. -/
def fnExactExpandedProofSpec : ChangeSpec := { name := "fnExactExpandedProof", vars := ["loop.example/g00872/impl.arities", "loop.example/g00872/impl.dualOperators"], fn := fun _ => fun
  | [d, g1, g2] => { results := [.lit (.bool true)], args := [d], vars := [g1, g2] }
  | _ => none }
def fnExactExpandedProofRow : OpenClaim := { program := "ytjgmgaccmcepdaagreatdoor", sum := "6af6883fec241092196f170fef93debcb27a93b1621aa835e677ef0439838900", func := "loop.example/g00872/laws.FnExactExpandedProof", spec := "fnExactExpandedProof", unfollowed := true, recurses := true, named := ["loop.example/g00872/impl.arities", "loop.example/g00872/impl.dualOperators"], apart := false, laid := [("loop.example/g00872/impl.arities", laid_loop_example_g00872_impl_arities), ("loop.example/g00872/impl.dualOperators", laid_loop_example_g00872_impl_dualOperators)] }
def FnExactExpandedProofSaid : Prop := fnExactExpandedProofRow.holds Tryz.pinned (OpenSpec.ofChange fnExactExpandedProofSpec)

/-- ITS FALSE NEIGHBOUR: 'it returns false'. Refute it at one input. -/
def fnExactExpandedProofWrong : ChangeSpec := { name := "fnExactExpandedProof", vars := ["loop.example/g00872/impl.arities", "loop.example/g00872/impl.dualOperators"], fn := fun _ => fun
  | [d, g1, g2] => { results := [.lit (.bool false)], args := [d], vars := [g1, g2] }
  | _ => none }
def FnExactExpandedProofWrongFalsely : Prop := fnExactExpandedProofRow.holds Tryz.pinned (OpenSpec.ofChange fnExactExpandedProofWrong)

/-- 'laws.FnExactExtendedProof': WHATEVER THE INPUT: true; the input reads as it did. -/
def fnExactExtendedProofSpec : ChangeSpec := { name := "fnExactExtendedProof", vars := ["loop.example/g00872/impl.arities"], fn := fun _ => fun
  | [d1, d2, g1] => { results := [.lit (.bool true)], args := [d1, d2], vars := [g1] }
  | _ => none }
def fnExactExtendedProofRow : OpenClaim := { program := "ytjgmgaccmcepdaagreatdoor", sum := "6af6883fec241092196f170fef93debcb27a93b1621aa835e677ef0439838900", func := "loop.example/g00872/laws.FnExactExtendedProof", spec := "fnExactExtendedProof", unfollowed := true, recurses := true, named := ["loop.example/g00872/impl.arities"], apart := false, laid := [("loop.example/g00872/impl.arities", laid_loop_example_g00872_impl_arities)] }
def FnExactExtendedProofSaid : Prop := fnExactExtendedProofRow.holds Tryz.pinned (OpenSpec.ofChange fnExactExtendedProofSpec)

/-- ITS FALSE NEIGHBOUR: 'it returns false'. Refute it at one input. -/
def fnExactExtendedProofWrong : ChangeSpec := { name := "fnExactExtendedProof", vars := ["loop.example/g00872/impl.arities"], fn := fun _ => fun
  | [d1, d2, g1] => { results := [.lit (.bool false)], args := [d1, d2], vars := [g1] }
  | _ => none }
def FnExactExtendedProofWrongFalsely : Prop := fnExactExtendedProofRow.holds Tryz.pinned (OpenSpec.ofChange fnExactExtendedProofWrong)

/-- 'laws.FnExactCombinedProof': WHATEVER THE INPUT: true; the input reads as it did. -/
def fnExactCombinedProofSpec : ChangeSpec := { name := "fnExactCombinedProof", vars := ["loop.example/g00872/impl.arities"], fn := fun _ => fun
  | [d1, d2, d3, g1] => { results := [.lit (.bool true)], args := [d1, d2, d3], vars := [g1] }
  | _ => none }
def fnExactCombinedProofRow : OpenClaim := { program := "ytjgmgaccmcepdaagreatdoor", sum := "6af6883fec241092196f170fef93debcb27a93b1621aa835e677ef0439838900", func := "loop.example/g00872/laws.FnExactCombinedProof", spec := "fnExactCombinedProof", unfollowed := true, recurses := true, named := ["loop.example/g00872/impl.arities"], apart := false, laid := [("loop.example/g00872/impl.arities", laid_loop_example_g00872_impl_arities)] }
def FnExactCombinedProofSaid : Prop := fnExactCombinedProofRow.holds Tryz.pinned (OpenSpec.ofChange fnExactCombinedProofSpec)

/-- ITS FALSE NEIGHBOUR: 'it returns false'. Refute it at one input. -/
def fnExactCombinedProofWrong : ChangeSpec := { name := "fnExactCombinedProof", vars := ["loop.example/g00872/impl.arities"], fn := fun _ => fun
  | [d1, d2, d3, g1] => { results := [.lit (.bool false)], args := [d1, d2, d3], vars := [g1] }
  | _ => none }
def FnExactCombinedProofWrongFalsely : Prop := fnExactCombinedProofRow.holds Tryz.pinned (OpenSpec.ofChange fnExactCombinedProofWrong)

/- THE SECOND FORM. 'bulk': how many values and letters a reading holds, each counted each time it is reached (what is shared counts as often as it is met; a slice's spare places count too). A statement '..UptoSaid' is the law's where the arguments, and the package variables that the reading takes, are together of bulk at most 1048576: NARROWER than '..Said'. Prove '..Said' where nothing that the law and all that it calls make is longer than what came in: it says more and counts as full. Else prove '..UptoSaid'. A law counts once. -/
mutual
def uptoBulk {H : Type} : DataW H → Nat
  | .lit (.string bytes) => bytes.length + 1
  | .lit _ => 1
  | .nil => 1
  | .ptr d => uptoBulk d + 1
  | .slice elems spare => uptoBulkAll elems + uptoBulkAll spare + 1
  | .agg parts => uptoBulkAll parts + 1
  | .iface _ d => uptoBulk d + 1
  | .map entries => uptoBulkEntries entries + 1
  | .held _ => 1
def uptoBulkAll {H : Type} : List (DataW H) → Nat
  | [] => 0
  | d :: r => uptoBulk d + uptoBulkAll r
def uptoBulkEntries {H : Type} : List (Lit × DataW H) → Nat
  | [] => 0
  | x :: r => uptoBulkEntry x + uptoBulkEntries r
def uptoBulkEntry {H : Type} : Lit × DataW H → Nat
  | (.string bytes, d) => bytes.length + uptoBulk d + 1
  | (_, d) => uptoBulk d + 1
 end
def uptoSmall : (H : Type) → List (DataW H) → Bool := fun _ ds => decide (uptoBulkAll ds ≤ 1048576)
def OpenSpec.upto (s : _root_.Go.ChangeSpec) : _root_.Go.OpenSpec := { _root_.Go.OpenSpec.ofChange s with cond := some uptoSmall }

/-- 'laws.FnProofText', WHERE WHAT IT READS IS OF BULK AT MOST 1048576: true; the input reads as it did. -/
def fnProofTextUptoRow : OpenClaim := { program := "ytjgmgaccmcepdaagreatdoor", sum := "6af6883fec241092196f170fef93debcb27a93b1621aa835e677ef0439838900", func := "loop.example/g00872/laws.FnProofText", spec := "fnProofText", inPlace := ["internal/abi.NoEscape", "internal/bytealg.MakeNoZero", "internal/bytealg.IndexByteString"], unfollowed := true, recurses := true, named := ["loop.example/g00872/impl.ruleWords", "internal/strconv.uint64pow10", "math/bits.deBruijn32tab", "math/bits.deBruijn64tab", "loop.example/g00872/impl.arities", "strconv.ErrSyntax", "strconv.ErrRange", "loop.example/g00872/impl.dualOperators"], apart := false, laid := [("math/bits.deBruijn32tab", laid_math_bits_deBruijn32tab), ("math/bits.deBruijn64tab", laid_math_bits_deBruijn64tab), ("internal/strconv.uint64pow10", laid_internal_strconv_uint64pow10), ("strconv.ErrRange", laid_strconv_ErrRange), ("strconv.ErrSyntax", laid_strconv_ErrSyntax), ("loop.example/g00872/impl.arities", laid_loop_example_g00872_impl_arities), ("loop.example/g00872/impl.dualOperators", laid_loop_example_g00872_impl_dualOperators), ("loop.example/g00872/impl.ruleWords", laid_loop_example_g00872_impl_ruleWords)], narrowed := true }
def FnProofTextUptoSaid : Prop := fnProofTextUptoRow.holds Tryz.pinned (OpenSpec.upto fnProofTextSpec)

/-- 'laws.FnExpanded', WHERE WHAT IT READS IS OF BULK AT MOST 1048576: true; the input reads as it did. -/
def fnExpandedUptoRow : OpenClaim := { program := "ytjgmgaccmcepdaagreatdoor", sum := "6af6883fec241092196f170fef93debcb27a93b1621aa835e677ef0439838900", func := "loop.example/g00872/laws.FnExpanded", spec := "fnExpanded", unfollowed := true, recurses := true, named := ["loop.example/g00872/impl.arities", "loop.example/g00872/impl.dualOperators"], apart := false, laid := [("loop.example/g00872/impl.arities", laid_loop_example_g00872_impl_arities), ("loop.example/g00872/impl.dualOperators", laid_loop_example_g00872_impl_dualOperators)], narrowed := true }
def FnExpandedUptoSaid : Prop := fnExpandedUptoRow.holds Tryz.pinned (OpenSpec.upto fnExpandedSpec)

/-- 'laws.FnArranged', WHERE WHAT IT READS IS OF BULK AT MOST 1048576: true; the input reads as it did. -/
def fnArrangedUptoRow : OpenClaim := { program := "ytjgmgaccmcepdaagreatdoor", sum := "6af6883fec241092196f170fef93debcb27a93b1621aa835e677ef0439838900", func := "loop.example/g00872/laws.FnArranged", spec := "fnArranged", unfollowed := true, recurses := true, named := ["loop.example/g00872/impl.arities"], apart := false, laid := [("loop.example/g00872/impl.arities", laid_loop_example_g00872_impl_arities)], narrowed := true }
def FnArrangedUptoSaid : Prop := fnArrangedUptoRow.holds Tryz.pinned (OpenSpec.upto fnArrangedSpec)

/-- 'laws.FnCombined', WHERE WHAT IT READS IS OF BULK AT MOST 1048576: true; the input reads as it did. -/
def fnCombinedUptoRow : OpenClaim := { program := "ytjgmgaccmcepdaagreatdoor", sum := "6af6883fec241092196f170fef93debcb27a93b1621aa835e677ef0439838900", func := "loop.example/g00872/laws.FnCombined", spec := "fnCombined", unfollowed := true, recurses := true, named := ["loop.example/g00872/impl.arities"], apart := false, laid := [("loop.example/g00872/impl.arities", laid_loop_example_g00872_impl_arities)], narrowed := true }
def FnCombinedUptoSaid : Prop := fnCombinedUptoRow.holds Tryz.pinned (OpenSpec.upto fnCombinedSpec)

/-- 'laws.FnExactReadStep', WHERE WHAT IT READS IS OF BULK AT MOST 1048576: true; the input reads as it did. -/
def fnExactReadStepUptoRow : OpenClaim := { program := "ytjgmgaccmcepdaagreatdoor", sum := "6af6883fec241092196f170fef93debcb27a93b1621aa835e677ef0439838900", func := "loop.example/g00872/laws.FnExactReadStep", spec := "fnExactReadStep", inPlace := ["internal/bytealg.IndexByteString", "internal/abi.NoEscape", "internal/bytealg.MakeNoZero"], unfollowed := true, recurses := true, named := ["loop.example/g00872/impl.ruleWords", "strconv.ErrSyntax", "strconv.ErrRange", "internal/strconv.uint64pow10", "math/bits.deBruijn32tab", "math/bits.deBruijn64tab", "loop.example/g00872/impl.dualOperators", "loop.example/g00872/impl.arities"], apart := false, laid := [("math/bits.deBruijn32tab", laid_math_bits_deBruijn32tab), ("math/bits.deBruijn64tab", laid_math_bits_deBruijn64tab), ("internal/strconv.uint64pow10", laid_internal_strconv_uint64pow10), ("strconv.ErrRange", laid_strconv_ErrRange), ("strconv.ErrSyntax", laid_strconv_ErrSyntax), ("loop.example/g00872/impl.arities", laid_loop_example_g00872_impl_arities), ("loop.example/g00872/impl.dualOperators", laid_loop_example_g00872_impl_dualOperators), ("loop.example/g00872/impl.ruleWords", laid_loop_example_g00872_impl_ruleWords)], narrowed := true }
def FnExactReadStepUptoSaid : Prop := fnExactReadStepUptoRow.holds Tryz.pinned (OpenSpec.upto fnExactReadStepSpec)

/-- 'laws.FnExactReadProof', WHERE WHAT IT READS IS OF BULK AT MOST 1048576: true; the input reads as it did. -/
def fnExactReadProofUptoRow : OpenClaim := { program := "ytjgmgaccmcepdaagreatdoor", sum := "6af6883fec241092196f170fef93debcb27a93b1621aa835e677ef0439838900", func := "loop.example/g00872/laws.FnExactReadProof", spec := "fnExactReadProof", inPlace := ["internal/bytealg.IndexByteString", "internal/abi.NoEscape", "internal/bytealg.MakeNoZero"], unfollowed := true, recurses := true, named := ["loop.example/g00872/impl.ruleWords", "strconv.ErrSyntax", "strconv.ErrRange", "internal/strconv.uint64pow10", "math/bits.deBruijn32tab", "math/bits.deBruijn64tab", "loop.example/g00872/impl.dualOperators", "loop.example/g00872/impl.arities"], apart := false, laid := [("math/bits.deBruijn32tab", laid_math_bits_deBruijn32tab), ("math/bits.deBruijn64tab", laid_math_bits_deBruijn64tab), ("internal/strconv.uint64pow10", laid_internal_strconv_uint64pow10), ("strconv.ErrRange", laid_strconv_ErrRange), ("strconv.ErrSyntax", laid_strconv_ErrSyntax), ("loop.example/g00872/impl.arities", laid_loop_example_g00872_impl_arities), ("loop.example/g00872/impl.dualOperators", laid_loop_example_g00872_impl_dualOperators), ("loop.example/g00872/impl.ruleWords", laid_loop_example_g00872_impl_ruleWords)], narrowed := true }
def FnExactReadProofUptoSaid : Prop := fnExactReadProofUptoRow.holds Tryz.pinned (OpenSpec.upto fnExactReadProofSpec)

/-- 'laws.FnExactIdentityProof', WHERE WHAT IT READS IS OF BULK AT MOST 1048576: true; the input reads as it did. -/
def fnExactIdentityProofUptoRow : OpenClaim := { program := "ytjgmgaccmcepdaagreatdoor", sum := "6af6883fec241092196f170fef93debcb27a93b1621aa835e677ef0439838900", func := "loop.example/g00872/laws.FnExactIdentityProof", spec := "fnExactIdentityProof", unfollowed := true, recurses := true, named := ["loop.example/g00872/impl.arities", "loop.example/g00872/impl.dualOperators"], apart := false, laid := [("loop.example/g00872/impl.arities", laid_loop_example_g00872_impl_arities), ("loop.example/g00872/impl.dualOperators", laid_loop_example_g00872_impl_dualOperators)], narrowed := true }
def FnExactIdentityProofUptoSaid : Prop := fnExactIdentityProofUptoRow.holds Tryz.pinned (OpenSpec.upto fnExactIdentityProofSpec)

/-- 'laws.FnExactExpandedProof', WHERE WHAT IT READS IS OF BULK AT MOST 1048576: true; the input reads as it did. -/
def fnExactExpandedProofUptoRow : OpenClaim := { program := "ytjgmgaccmcepdaagreatdoor", sum := "6af6883fec241092196f170fef93debcb27a93b1621aa835e677ef0439838900", func := "loop.example/g00872/laws.FnExactExpandedProof", spec := "fnExactExpandedProof", unfollowed := true, recurses := true, named := ["loop.example/g00872/impl.arities", "loop.example/g00872/impl.dualOperators"], apart := false, laid := [("loop.example/g00872/impl.arities", laid_loop_example_g00872_impl_arities), ("loop.example/g00872/impl.dualOperators", laid_loop_example_g00872_impl_dualOperators)], narrowed := true }
def FnExactExpandedProofUptoSaid : Prop := fnExactExpandedProofUptoRow.holds Tryz.pinned (OpenSpec.upto fnExactExpandedProofSpec)

/-- 'laws.FnExactExtendedProof', WHERE WHAT IT READS IS OF BULK AT MOST 1048576: true; the input reads as it did. -/
def fnExactExtendedProofUptoRow : OpenClaim := { program := "ytjgmgaccmcepdaagreatdoor", sum := "6af6883fec241092196f170fef93debcb27a93b1621aa835e677ef0439838900", func := "loop.example/g00872/laws.FnExactExtendedProof", spec := "fnExactExtendedProof", unfollowed := true, recurses := true, named := ["loop.example/g00872/impl.arities"], apart := false, laid := [("loop.example/g00872/impl.arities", laid_loop_example_g00872_impl_arities)], narrowed := true }
def FnExactExtendedProofUptoSaid : Prop := fnExactExtendedProofUptoRow.holds Tryz.pinned (OpenSpec.upto fnExactExtendedProofSpec)

/-- 'laws.FnExactCombinedProof', WHERE WHAT IT READS IS OF BULK AT MOST 1048576: true; the input reads as it did. -/
def fnExactCombinedProofUptoRow : OpenClaim := { program := "ytjgmgaccmcepdaagreatdoor", sum := "6af6883fec241092196f170fef93debcb27a93b1621aa835e677ef0439838900", func := "loop.example/g00872/laws.FnExactCombinedProof", spec := "fnExactCombinedProof", unfollowed := true, recurses := true, named := ["loop.example/g00872/impl.arities"], apart := false, laid := [("loop.example/g00872/impl.arities", laid_loop_example_g00872_impl_arities)], narrowed := true }
def FnExactCombinedProofUptoSaid : Prop := fnExactCombinedProofUptoRow.holds Tryz.pinned (OpenSpec.upto fnExactCombinedProofSpec)

end Rows
end Go.Proofs.YtjgmgaccmcepdaaGreatDoor
