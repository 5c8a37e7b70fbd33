/-
  NARROWER THAN 'FOR EVERY INPUT', by the rows' own cells (each row's printed sentence says how): FnSubforms: laid · FnSwapSeq: laid · FnExactSortedSeq: laid · FnExactSameMultiset: laid · FnExactReadSeq: laid.
  DERIVED. THE GIVEN ROWS OF THIS SEAT. 5 by the template 'for every input the law returns true; each argument reads behind the call as it read before'; 0 by the template 'total and deterministic' (their statements: YtdgejhlpncnenaaDoorTotals.lean).
  GIVEN WITH THE SEED: the statements are not yours to turn. If you find one false, say at which input.
  Laid BY PROGRAM, IN A SANDBOX (cutbox-rows.mjs): the forced cells as the released guide's own fill.sh prints them over the translation f10ce2c605441993… (all of the seat's roots in one cut). By AI agents, Wed Nov 11 2026. No macro, syntax, notation, axiom, sorry.
-/
import Derived.Test.YtdgejhlpncnenaaDoorChecked
import GoSem.PinnedTables
import GoSem.Claim
import GoSem.ClaimJoined
import GoSem.ClaimMapViews
import Derived.JoinedTies
import Derived.KernelRfl
namespace Go.Proofs.YtdgejhlpncnenaaDoor
/- THE CELL 'sum', in the pinned program and in every row, IS THE sha256 OF THE DUMP (.gsa) THAT YtdgejhlpncnenaaDoorProg.lean LOADS. Nothing in Lean hashes anything: it is a label: what it is worth is what the hold of that sum in a sandbox is worth. -/
noncomputable def Tryd.pinned : Pinned := { name := "ytdgejhlpncnenaadoor", sum := "f10ce2c6054419933d96a892b7a71d1ea15cfb015a1e53d9959a43e6c4ec3c2b", checked := Tryd.checked }
namespace Rows
def none {H : Type} : Left H := { results := [], args := [] }

/- WHAT THE LISTED PACKAGE-LEVEL VARIABLES READ AS WHEN THE CALL BEGINS. Each datum BY PROGRAM (the guide's laid-datum.mjs) off the statement by which the dump's own 'gosem.cut.vars' lays the variable. In a bare row this is a premise. The card (YtdgejhlpncnenaaDoorCards.lean) ties it to the program's text. -/
def laid_loop_example_g00872_impl_arities {H : Type} : DataW H := .agg [.lit (.int .i64 0), .lit (.int .i64 0), .lit (.int .i64 0), .lit (.int .i64 0), .lit (.int .i64 0), .lit (.int .i64 0), .lit (.int .i64 0), .lit (.int .i64 0), .lit (.int .i64 0), .lit (.int .i64 0), .lit (.int .i64 0), .lit (.int .i64 2), .lit (.int .i64 2), .lit (.int .i64 0), .lit (.int .i64 0), .lit (.int .i64 2), .lit (.int .i64 2), .lit (.int .i64 1), .lit (.int .i64 1)]
def laid_loop_example_g00872_impl_dualOperators {H : Type} : DataW H := .agg [.lit (.int .i64 0), .lit (.int .i64 0), .lit (.int .i64 0), .lit (.int .i64 0), .lit (.int .i64 0), .lit (.int .i64 0), .lit (.int .i64 0), .lit (.int .i64 0), .lit (.int .i64 0), .lit (.int .i64 0), .lit (.int .i64 0), .lit (.int .i64 12), .lit (.int .i64 11), .lit (.int .i64 14), .lit (.int .i64 13), .lit (.int .i64 16), .lit (.int .i64 15), .lit (.int .i64 18), .lit (.int .i64 17)]
def laid_unicode_utf8_acceptRanges {H : Type} : DataW H := .agg [.agg [.lit (.int .u8 128), .lit (.int .u8 191)], .agg [.lit (.int .u8 160), .lit (.int .u8 191)], .agg [.lit (.int .u8 128), .lit (.int .u8 159)], .agg [.lit (.int .u8 144), .lit (.int .u8 191)], .agg [.lit (.int .u8 128), .lit (.int .u8 143)], .agg [.lit (.int .u8 0), .lit (.int .u8 0)], .agg [.lit (.int .u8 0), .lit (.int .u8 0)], .agg [.lit (.int .u8 0), .lit (.int .u8 0)], .agg [.lit (.int .u8 0), .lit (.int .u8 0)], .agg [.lit (.int .u8 0), .lit (.int .u8 0)], .agg [.lit (.int .u8 0), .lit (.int .u8 0)], .agg [.lit (.int .u8 0), .lit (.int .u8 0)], .agg [.lit (.int .u8 0), .lit (.int .u8 0)], .agg [.lit (.int .u8 0), .lit (.int .u8 0)], .agg [.lit (.int .u8 0), .lit (.int .u8 0)], .agg [.lit (.int .u8 0), .lit (.int .u8 0)]]
/-- One of Go's own tables, pinned by name: the form's constant. -/
def laid_unicode_utf8_first : DataW Unit := Go.Pinned.utf8First

/-- 'laws.FnSubforms': WHATEVER THE INPUT: true; the input reads as it did. -/
def fnSubformsSpec : ChangeSpec := { name := "fnSubforms", vars := ["loop.example/g00872/impl.arities"], fn := fun _ => fun
  | [d, g1] => { results := [.lit (.bool true)], args := [d], vars := [g1] }
  | _ => none }
def fnSubformsRow : OpenClaim := { program := "ytdgejhlpncnenaadoor", sum := "f10ce2c6054419933d96a892b7a71d1ea15cfb015a1e53d9959a43e6c4ec3c2b", func := "loop.example/g00872/laws.FnSubforms", spec := "fnSubforms", unfollowed := true, recurses := true, named := ["loop.example/g00872/impl.arities"], apart := false, laid := [("loop.example/g00872/impl.arities", laid_loop_example_g00872_impl_arities)] }
def FnSubformsSaid : Prop := fnSubformsRow.holds Tryd.pinned (OpenSpec.ofChange fnSubformsSpec)

/-- ITS FALSE NEIGHBOUR: 'it returns false'. Refute it at one input. -/
def fnSubformsWrong : ChangeSpec := { name := "fnSubforms", vars := ["loop.example/g00872/impl.arities"], fn := fun _ => fun
  | [d, g1] => { results := [.lit (.bool false)], args := [d], vars := [g1] }
  | _ => none }
def FnSubformsWrongFalsely : Prop := fnSubformsRow.holds Tryd.pinned (OpenSpec.ofChange fnSubformsWrong)

/-- 'laws.FnSwapSeq': WHATEVER THE INPUT: true; the input reads as it did. -/
def fnSwapSeqSpec : ChangeSpec := { name := "fnSwapSeq", vars := ["loop.example/g00872/impl.arities", "loop.example/g00872/impl.dualOperators"], fn := fun _ => fun
  | [d, g1, g2] => { results := [.lit (.bool true)], args := [d], vars := [g1, g2] }
  | _ => none }
def fnSwapSeqRow : OpenClaim := { program := "ytdgejhlpncnenaadoor", sum := "f10ce2c6054419933d96a892b7a71d1ea15cfb015a1e53d9959a43e6c4ec3c2b", func := "loop.example/g00872/laws.FnSwapSeq", spec := "fnSwapSeq", unfollowed := true, recurses := true, named := ["loop.example/g00872/impl.arities", "loop.example/g00872/impl.dualOperators"], apart := false, laid := [("loop.example/g00872/impl.arities", laid_loop_example_g00872_impl_arities), ("loop.example/g00872/impl.dualOperators", laid_loop_example_g00872_impl_dualOperators)] }
def FnSwapSeqSaid : Prop := fnSwapSeqRow.holds Tryd.pinned (OpenSpec.ofChange fnSwapSeqSpec)

/-- ITS FALSE NEIGHBOUR: 'it returns false'. Refute it at one input. -/
def fnSwapSeqWrong : ChangeSpec := { name := "fnSwapSeq", vars := ["loop.example/g00872/impl.arities", "loop.example/g00872/impl.dualOperators"], fn := fun _ => fun
  | [d, g1, g2] => { results := [.lit (.bool false)], args := [d], vars := [g1, g2] }
  | _ => none }
def FnSwapSeqWrongFalsely : Prop := fnSwapSeqRow.holds Tryd.pinned (OpenSpec.ofChange fnSwapSeqWrong)

/-- 'laws.FnExactSortedSeq': WHATEVER THE INPUT: true; the input reads as it did. -/
def fnExactSortedSeqSpec : ChangeSpec := { name := "fnExactSortedSeq", vars := ["loop.example/g00872/impl.arities"], fn := fun _ => fun
  | [d, g1] => { results := [.lit (.bool true)], args := [d], vars := [g1] }
  | _ => none }
def fnExactSortedSeqRow : OpenClaim := { program := "ytdgejhlpncnenaadoor", sum := "f10ce2c6054419933d96a892b7a71d1ea15cfb015a1e53d9959a43e6c4ec3c2b", func := "loop.example/g00872/laws.FnExactSortedSeq", spec := "fnExactSortedSeq", unfollowed := true, recurses := true, named := ["loop.example/g00872/impl.arities"], apart := false, laid := [("loop.example/g00872/impl.arities", laid_loop_example_g00872_impl_arities)] }
def FnExactSortedSeqSaid : Prop := fnExactSortedSeqRow.holds Tryd.pinned (OpenSpec.ofChange fnExactSortedSeqSpec)

/-- ITS FALSE NEIGHBOUR: 'it returns false'. Refute it at one input. -/
def fnExactSortedSeqWrong : ChangeSpec := { name := "fnExactSortedSeq", vars := ["loop.example/g00872/impl.arities"], fn := fun _ => fun
  | [d, g1] => { results := [.lit (.bool false)], args := [d], vars := [g1] }
  | _ => none }
def FnExactSortedSeqWrongFalsely : Prop := fnExactSortedSeqRow.holds Tryd.pinned (OpenSpec.ofChange fnExactSortedSeqWrong)

/-- 'laws.FnExactSameMultiset': WHATEVER THE INPUT: true; the input reads as it did. -/
def fnExactSameMultisetSpec : ChangeSpec := { name := "fnExactSameMultiset", vars := ["loop.example/g00872/impl.arities"], fn := fun _ => fun
  | [d1, d2, g1] => { results := [.lit (.bool true)], args := [d1, d2], vars := [g1] }
  | _ => none }
def fnExactSameMultisetRow : OpenClaim := { program := "ytdgejhlpncnenaadoor", sum := "f10ce2c6054419933d96a892b7a71d1ea15cfb015a1e53d9959a43e6c4ec3c2b", func := "loop.example/g00872/laws.FnExactSameMultiset", spec := "fnExactSameMultiset", recurses := true, named := ["loop.example/g00872/impl.arities"], apart := false, laid := [("loop.example/g00872/impl.arities", laid_loop_example_g00872_impl_arities)] }
def FnExactSameMultisetSaid : Prop := fnExactSameMultisetRow.holds Tryd.pinned (OpenSpec.ofChange fnExactSameMultisetSpec)

/-- ITS FALSE NEIGHBOUR: 'it returns false'. Refute it at one input. -/
def fnExactSameMultisetWrong : ChangeSpec := { name := "fnExactSameMultiset", vars := ["loop.example/g00872/impl.arities"], fn := fun _ => fun
  | [d1, d2, g1] => { results := [.lit (.bool false)], args := [d1, d2], vars := [g1] }
  | _ => none }
def FnExactSameMultisetWrongFalsely : Prop := fnExactSameMultisetRow.holds Tryd.pinned (OpenSpec.ofChange fnExactSameMultisetWrong)

/-- 'laws.FnExactReadSeq': WHATEVER THE INPUT: true; the input reads as it did. -/
def fnExactReadSeqSpec : ChangeSpec := { name := "fnExactReadSeq", vars := ["loop.example/g00872/impl.dualOperators", "loop.example/g00872/impl.arities"], fn := fun _ => fun
  | [d, g1, g2] => { results := [.lit (.bool true)], args := [d], vars := [g1, g2] }
  | _ => none }
def fnExactReadSeqRow : OpenClaim := { program := "ytdgejhlpncnenaadoor", sum := "f10ce2c6054419933d96a892b7a71d1ea15cfb015a1e53d9959a43e6c4ec3c2b", func := "loop.example/g00872/laws.FnExactReadSeq", spec := "fnExactReadSeq", inPlace := ["internal/bytealg.CountString", "internal/bytealg.IndexByteString", "internal/bytealg.IndexString"], unfollowed := true, recurses := true, named := ["unicode/utf8.first", "unicode/utf8.acceptRanges", "internal/bytealg.MaxLen", "loop.example/g00872/impl.dualOperators", "loop.example/g00872/impl.arities"], apart := false, laid := [("unicode/utf8.acceptRanges", laid_unicode_utf8_acceptRanges), ("loop.example/g00872/impl.arities", laid_loop_example_g00872_impl_arities), ("loop.example/g00872/impl.dualOperators", laid_loop_example_g00872_impl_dualOperators), ("unicode/utf8.first", laid_unicode_utf8_first)] }
def FnExactReadSeqSaid : Prop := fnExactReadSeqRow.holds Tryd.pinned (OpenSpec.ofChange fnExactReadSeqSpec)

/-- ITS FALSE NEIGHBOUR: 'it returns false'. Refute it at one input. -/
def fnExactReadSeqWrong : ChangeSpec := { name := "fnExactReadSeq", vars := ["loop.example/g00872/impl.dualOperators", "loop.example/g00872/impl.arities"], fn := fun _ => fun
  | [d, g1, g2] => { results := [.lit (.bool false)], args := [d], vars := [g1, g2] }
  | _ => none }
def FnExactReadSeqWrongFalsely : Prop := fnExactReadSeqRow.holds Tryd.pinned (OpenSpec.ofChange fnExactReadSeqWrong)

/- THE SECOND FORM. 'bulk': how many values and letters a reading holds, each counted each time it is reached (what is shared counts as often as it is met; a slice's spare places count too). A statement '..UptoSaid' is the law's where the arguments, and the package variables that the reading takes, are together of bulk at most 1048576: NARROWER than '..Said'. Prove '..Said' where nothing that the law and all that it calls make is longer than what came in: it says more and counts as full. Else prove '..UptoSaid'. A law counts once. -/
mutual
def uptoBulk {H : Type} : DataW H → Nat
  | .lit (.string bytes) => bytes.length + 1
  | .lit _ => 1
  | .nil => 1
  | .ptr d => uptoBulk d + 1
  | .slice elems spare => uptoBulkAll elems + uptoBulkAll spare + 1
  | .agg parts => uptoBulkAll parts + 1
  | .iface _ d => uptoBulk d + 1
  | .map entries => uptoBulkEntries entries + 1
  | .held _ => 1
def uptoBulkAll {H : Type} : List (DataW H) → Nat
  | [] => 0
  | d :: r => uptoBulk d + uptoBulkAll r
def uptoBulkEntries {H : Type} : List (Lit × DataW H) → Nat
  | [] => 0
  | x :: r => uptoBulkEntry x + uptoBulkEntries r
def uptoBulkEntry {H : Type} : Lit × DataW H → Nat
  | (.string bytes, d) => bytes.length + uptoBulk d + 1
  | (_, d) => uptoBulk d + 1
 end
def uptoSmall : (H : Type) → List (DataW H) → Bool := fun _ ds => decide (uptoBulkAll ds ≤ 1048576)
def OpenSpec.upto (s : _root_.Go.ChangeSpec) : _root_.Go.OpenSpec := { _root_.Go.OpenSpec.ofChange s with cond := some uptoSmall }

/-- 'laws.FnSubforms', WHERE WHAT IT READS IS OF BULK AT MOST 1048576: true; the input reads as it did. -/
def fnSubformsUptoRow : OpenClaim := { program := "ytdgejhlpncnenaadoor", sum := "f10ce2c6054419933d96a892b7a71d1ea15cfb015a1e53d9959a43e6c4ec3c2b", func := "loop.example/g00872/laws.FnSubforms", spec := "fnSubforms", unfollowed := true, recurses := true, named := ["loop.example/g00872/impl.arities"], apart := false, laid := [("loop.example/g00872/impl.arities", laid_loop_example_g00872_impl_arities)], narrowed := true }
def FnSubformsUptoSaid : Prop := fnSubformsUptoRow.holds Tryd.pinned (OpenSpec.upto fnSubformsSpec)

/-- 'laws.FnSwapSeq', WHERE WHAT IT READS IS OF BULK AT MOST 1048576: true; the input reads as it did. -/
def fnSwapSeqUptoRow : OpenClaim := { program := "ytdgejhlpncnenaadoor", sum := "f10ce2c6054419933d96a892b7a71d1ea15cfb015a1e53d9959a43e6c4ec3c2b", func := "loop.example/g00872/laws.FnSwapSeq", spec := "fnSwapSeq", unfollowed := true, recurses := true, named := ["loop.example/g00872/impl.arities", "loop.example/g00872/impl.dualOperators"], apart := false, laid := [("loop.example/g00872/impl.arities", laid_loop_example_g00872_impl_arities), ("loop.example/g00872/impl.dualOperators", laid_loop_example_g00872_impl_dualOperators)], narrowed := true }
def FnSwapSeqUptoSaid : Prop := fnSwapSeqUptoRow.holds Tryd.pinned (OpenSpec.upto fnSwapSeqSpec)

/-- 'laws.FnExactSortedSeq', WHERE WHAT IT READS IS OF BULK AT MOST 1048576: true; the input reads as it did. -/
def fnExactSortedSeqUptoRow : OpenClaim := { program := "ytdgejhlpncnenaadoor", sum := "f10ce2c6054419933d96a892b7a71d1ea15cfb015a1e53d9959a43e6c4ec3c2b", func := "loop.example/g00872/laws.FnExactSortedSeq", spec := "fnExactSortedSeq", unfollowed := true, recurses := true, named := ["loop.example/g00872/impl.arities"], apart := false, laid := [("loop.example/g00872/impl.arities", laid_loop_example_g00872_impl_arities)], narrowed := true }
def FnExactSortedSeqUptoSaid : Prop := fnExactSortedSeqUptoRow.holds Tryd.pinned (OpenSpec.upto fnExactSortedSeqSpec)

/-- 'laws.FnExactSameMultiset', WHERE WHAT IT READS IS OF BULK AT MOST 1048576: true; the input reads as it did. -/
def fnExactSameMultisetUptoRow : OpenClaim := { program := "ytdgejhlpncnenaadoor", sum := "f10ce2c6054419933d96a892b7a71d1ea15cfb015a1e53d9959a43e6c4ec3c2b", func := "loop.example/g00872/laws.FnExactSameMultiset", spec := "fnExactSameMultiset", recurses := true, named := ["loop.example/g00872/impl.arities"], apart := false, laid := [("loop.example/g00872/impl.arities", laid_loop_example_g00872_impl_arities)], narrowed := true }
def FnExactSameMultisetUptoSaid : Prop := fnExactSameMultisetUptoRow.holds Tryd.pinned (OpenSpec.upto fnExactSameMultisetSpec)

/-- 'laws.FnExactReadSeq', WHERE WHAT IT READS IS OF BULK AT MOST 1048576: true; the input reads as it did. -/
def fnExactReadSeqUptoRow : OpenClaim := { program := "ytdgejhlpncnenaadoor", sum := "f10ce2c6054419933d96a892b7a71d1ea15cfb015a1e53d9959a43e6c4ec3c2b", func := "loop.example/g00872/laws.FnExactReadSeq", spec := "fnExactReadSeq", inPlace := ["internal/bytealg.CountString", "internal/bytealg.IndexByteString", "internal/bytealg.IndexString"], unfollowed := true, recurses := true, named := ["unicode/utf8.first", "unicode/utf8.acceptRanges", "internal/bytealg.MaxLen", "loop.example/g00872/impl.dualOperators", "loop.example/g00872/impl.arities"], apart := false, laid := [("unicode/utf8.acceptRanges", laid_unicode_utf8_acceptRanges), ("loop.example/g00872/impl.arities", laid_loop_example_g00872_impl_arities), ("loop.example/g00872/impl.dualOperators", laid_loop_example_g00872_impl_dualOperators), ("unicode/utf8.first", laid_unicode_utf8_first)], narrowed := true }
def FnExactReadSeqUptoSaid : Prop := fnExactReadSeqUptoRow.holds Tryd.pinned (OpenSpec.upto fnExactReadSeqSpec)

end Rows
end Go.Proofs.YtdgejhlpncnenaaDoor
