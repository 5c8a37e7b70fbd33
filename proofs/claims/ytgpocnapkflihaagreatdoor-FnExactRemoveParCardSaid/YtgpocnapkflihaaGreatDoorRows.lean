/-
  NARROWER THAN 'FOR EVERY INPUT', by the rows' own cells (each row's printed sentence says how): FnExactSplitNet: laid · FnExactRemovePar: laid · FnExactIsSequentialisable: laid.
  DERIVED. THE GIVEN ROWS OF THIS SEAT. 3 by the template 'for every input the law returns true; each argument reads behind the call as it read before'; 0 by the template 'total and deterministic' (their statements: YtgpocnapkflihaaGreatDoorTotals.lean).
  GIVEN WITH THE SEED: the statements are not yours to turn. If you find one false, say at which input.
  Laid BY PROGRAM, IN A SANDBOX (cutbox-rows.mjs): the forced cells as the released guide's own fill.sh prints them over the translation 34e0380c0259eb0e… (all of the seat's roots in one cut). By AI agents, Wed Nov 11 2026. No macro, syntax, notation, axiom, sorry.
-/
import Derived.Test.YtgpocnapkflihaaGreatDoorChecked
import GoSem.Claim
import GoSem.ClaimJoined
import GoSem.ClaimMapViews
import Derived.JoinedTies
import Derived.KernelRfl
namespace Go.Proofs.YtgpocnapkflihaaGreatDoor
/- THE CELL 'sum', in the pinned program and in every row, IS THE sha256 OF THE DUMP (.gsa) THAT YtgpocnapkflihaaGreatDoorProg.lean LOADS. Nothing in Lean hashes anything: it is a label: what it is worth is what the hold of that sum in a sandbox is worth. -/
noncomputable def Tryz.pinned : Pinned := { name := "ytgpocnapkflihaagreatdoor", sum := "34e0380c0259eb0e06c0edd540cc35926d35a0ae9ca3cad643243196662d41d8", checked := Tryz.checked }
namespace Rows
def none {H : Type} : Left H := { results := [], args := [] }

/- WHAT THE LISTED PACKAGE-LEVEL VARIABLES READ AS WHEN THE CALL BEGINS. Each datum BY PROGRAM (the guide's laid-datum.mjs) off the statement by which the dump's own 'gosem.cut.vars' lays the variable. In a bare row this is a premise. The card (YtgpocnapkflihaaGreatDoorCards.lean) ties it to the program's text. -/
def laid_loop_example_g00872_impl_arities {H : Type} : DataW H := .agg [.lit (.int .i64 0), .lit (.int .i64 0), .lit (.int .i64 0), .lit (.int .i64 0), .lit (.int .i64 0), .lit (.int .i64 0), .lit (.int .i64 0), .lit (.int .i64 0), .lit (.int .i64 0), .lit (.int .i64 0), .lit (.int .i64 0), .lit (.int .i64 2), .lit (.int .i64 2), .lit (.int .i64 0), .lit (.int .i64 0), .lit (.int .i64 2), .lit (.int .i64 2), .lit (.int .i64 1), .lit (.int .i64 1)]
def laid_loop_example_g00872_impl_dualOperators {H : Type} : DataW H := .agg [.lit (.int .i64 0), .lit (.int .i64 0), .lit (.int .i64 0), .lit (.int .i64 0), .lit (.int .i64 0), .lit (.int .i64 0), .lit (.int .i64 0), .lit (.int .i64 0), .lit (.int .i64 0), .lit (.int .i64 0), .lit (.int .i64 0), .lit (.int .i64 12), .lit (.int .i64 11), .lit (.int .i64 14), .lit (.int .i64 13), .lit (.int .i64 16), .lit (.int .i64 15), .lit (.int .i64 18), .lit (.int .i64 17)]

/-- 'laws.FnExactSplitNet': WHATEVER THE INPUT: true; the input reads as it did. -/
def fnExactSplitNetSpec : ChangeSpec := { name := "fnExactSplitNet", vars := ["loop.example/g00872/impl.arities", "loop.example/g00872/impl.dualOperators"], fn := fun _ => fun
  | [d1, d2, g1, g2] => { results := [.lit (.bool true)], args := [d1, d2], vars := [g1, g2] }
  | _ => none }
def fnExactSplitNetRow : OpenClaim := { program := "ytgpocnapkflihaagreatdoor", sum := "34e0380c0259eb0e06c0edd540cc35926d35a0ae9ca3cad643243196662d41d8", func := "loop.example/g00872/laws.FnExactSplitNet", spec := "fnExactSplitNet", unfollowed := true, recurses := true, named := ["loop.example/g00872/impl.arities", "loop.example/g00872/impl.dualOperators"], apart := false, laid := [("loop.example/g00872/impl.arities", laid_loop_example_g00872_impl_arities), ("loop.example/g00872/impl.dualOperators", laid_loop_example_g00872_impl_dualOperators)] }
def FnExactSplitNetSaid : Prop := fnExactSplitNetRow.holds Tryz.pinned (OpenSpec.ofChange fnExactSplitNetSpec)

/-- ITS FALSE NEIGHBOUR: 'it returns false'. Refute it at one input. -/
def fnExactSplitNetWrong : ChangeSpec := { name := "fnExactSplitNet", vars := ["loop.example/g00872/impl.arities", "loop.example/g00872/impl.dualOperators"], fn := fun _ => fun
  | [d1, d2, g1, g2] => { results := [.lit (.bool false)], args := [d1, d2], vars := [g1, g2] }
  | _ => none }
def FnExactSplitNetWrongFalsely : Prop := fnExactSplitNetRow.holds Tryz.pinned (OpenSpec.ofChange fnExactSplitNetWrong)

/-- 'laws.FnExactRemovePar': WHATEVER THE INPUT: true; the input reads as it did. -/
def fnExactRemoveParSpec : ChangeSpec := { name := "fnExactRemovePar", vars := ["loop.example/g00872/impl.arities", "loop.example/g00872/impl.dualOperators"], fn := fun _ => fun
  | [d1, d2, g1, g2] => { results := [.lit (.bool true)], args := [d1, d2], vars := [g1, g2] }
  | _ => none }
def fnExactRemoveParRow : OpenClaim := { program := "ytgpocnapkflihaagreatdoor", sum := "34e0380c0259eb0e06c0edd540cc35926d35a0ae9ca3cad643243196662d41d8", func := "loop.example/g00872/laws.FnExactRemovePar", spec := "fnExactRemovePar", unfollowed := true, recurses := true, named := ["loop.example/g00872/impl.arities", "loop.example/g00872/impl.dualOperators"], apart := false, laid := [("loop.example/g00872/impl.arities", laid_loop_example_g00872_impl_arities), ("loop.example/g00872/impl.dualOperators", laid_loop_example_g00872_impl_dualOperators)] }
def FnExactRemoveParSaid : Prop := fnExactRemoveParRow.holds Tryz.pinned (OpenSpec.ofChange fnExactRemoveParSpec)

/-- ITS FALSE NEIGHBOUR: 'it returns false'. Refute it at one input. -/
def fnExactRemoveParWrong : ChangeSpec := { name := "fnExactRemovePar", vars := ["loop.example/g00872/impl.arities", "loop.example/g00872/impl.dualOperators"], fn := fun _ => fun
  | [d1, d2, g1, g2] => { results := [.lit (.bool false)], args := [d1, d2], vars := [g1, g2] }
  | _ => none }
def FnExactRemoveParWrongFalsely : Prop := fnExactRemoveParRow.holds Tryz.pinned (OpenSpec.ofChange fnExactRemoveParWrong)

/-- 'laws.FnExactIsSequentialisable': WHATEVER THE INPUT: true; the input reads as it did. -/
def fnExactIsSequentialisableSpec : ChangeSpec := { name := "fnExactIsSequentialisable", vars := ["loop.example/g00872/impl.arities", "loop.example/g00872/impl.dualOperators"], fn := fun _ => fun
  | [d, g1, g2] => { results := [.lit (.bool true)], args := [d], vars := [g1, g2] }
  | _ => none }
def fnExactIsSequentialisableRow : OpenClaim := { program := "ytgpocnapkflihaagreatdoor", sum := "34e0380c0259eb0e06c0edd540cc35926d35a0ae9ca3cad643243196662d41d8", func := "loop.example/g00872/laws.FnExactIsSequentialisable", spec := "fnExactIsSequentialisable", unfollowed := true, recurses := true, named := ["loop.example/g00872/impl.arities", "loop.example/g00872/impl.dualOperators"], apart := false, laid := [("loop.example/g00872/impl.arities", laid_loop_example_g00872_impl_arities), ("loop.example/g00872/impl.dualOperators", laid_loop_example_g00872_impl_dualOperators)] }
def FnExactIsSequentialisableSaid : Prop := fnExactIsSequentialisableRow.holds Tryz.pinned (OpenSpec.ofChange fnExactIsSequentialisableSpec)

/-- ITS FALSE NEIGHBOUR: 'it returns false'. Refute it at one input. -/
def fnExactIsSequentialisableWrong : ChangeSpec := { name := "fnExactIsSequentialisable", vars := ["loop.example/g00872/impl.arities", "loop.example/g00872/impl.dualOperators"], fn := fun _ => fun
  | [d, g1, g2] => { results := [.lit (.bool false)], args := [d], vars := [g1, g2] }
  | _ => none }
def FnExactIsSequentialisableWrongFalsely : Prop := fnExactIsSequentialisableRow.holds Tryz.pinned (OpenSpec.ofChange fnExactIsSequentialisableWrong)

/- THE SECOND FORM. 'bulk': how many values and letters a reading holds, each counted each time it is reached (what is shared counts as often as it is met; a slice's spare places count too). A statement '..UptoSaid' is the law's where the arguments, and the package variables that the reading takes, are together of bulk at most 1048576: NARROWER than '..Said'. Prove '..Said' where nothing that the law and all that it calls make is longer than what came in: it says more and counts as full. Else prove '..UptoSaid'. A law counts once. -/
mutual
def uptoBulk {H : Type} : DataW H → Nat
  | .lit (.string bytes) => bytes.length + 1
  | .lit _ => 1
  | .nil => 1
  | .ptr d => uptoBulk d + 1
  | .slice elems spare => uptoBulkAll elems + uptoBulkAll spare + 1
  | .agg parts => uptoBulkAll parts + 1
  | .iface _ d => uptoBulk d + 1
  | .map entries => uptoBulkEntries entries + 1
  | .held _ => 1
def uptoBulkAll {H : Type} : List (DataW H) → Nat
  | [] => 0
  | d :: r => uptoBulk d + uptoBulkAll r
def uptoBulkEntries {H : Type} : List (Lit × DataW H) → Nat
  | [] => 0
  | x :: r => uptoBulkEntry x + uptoBulkEntries r
def uptoBulkEntry {H : Type} : Lit × DataW H → Nat
  | (.string bytes, d) => bytes.length + uptoBulk d + 1
  | (_, d) => uptoBulk d + 1
 end
def uptoSmall : (H : Type) → List (DataW H) → Bool := fun _ ds => decide (uptoBulkAll ds ≤ 1048576)
def OpenSpec.upto (s : _root_.Go.ChangeSpec) : _root_.Go.OpenSpec := { _root_.Go.OpenSpec.ofChange s with cond := some uptoSmall }

/-- 'laws.FnExactSplitNet', WHERE WHAT IT READS IS OF BULK AT MOST 1048576: true; the input reads as it did. -/
def fnExactSplitNetUptoRow : OpenClaim := { program := "ytgpocnapkflihaagreatdoor", sum := "34e0380c0259eb0e06c0edd540cc35926d35a0ae9ca3cad643243196662d41d8", func := "loop.example/g00872/laws.FnExactSplitNet", spec := "fnExactSplitNet", unfollowed := true, recurses := true, named := ["loop.example/g00872/impl.arities", "loop.example/g00872/impl.dualOperators"], apart := false, laid := [("loop.example/g00872/impl.arities", laid_loop_example_g00872_impl_arities), ("loop.example/g00872/impl.dualOperators", laid_loop_example_g00872_impl_dualOperators)], narrowed := true }
def FnExactSplitNetUptoSaid : Prop := fnExactSplitNetUptoRow.holds Tryz.pinned (OpenSpec.upto fnExactSplitNetSpec)

/-- 'laws.FnExactRemovePar', WHERE WHAT IT READS IS OF BULK AT MOST 1048576: true; the input reads as it did. -/
def fnExactRemoveParUptoRow : OpenClaim := { program := "ytgpocnapkflihaagreatdoor", sum := "34e0380c0259eb0e06c0edd540cc35926d35a0ae9ca3cad643243196662d41d8", func := "loop.example/g00872/laws.FnExactRemovePar", spec := "fnExactRemovePar", unfollowed := true, recurses := true, named := ["loop.example/g00872/impl.arities", "loop.example/g00872/impl.dualOperators"], apart := false, laid := [("loop.example/g00872/impl.arities", laid_loop_example_g00872_impl_arities), ("loop.example/g00872/impl.dualOperators", laid_loop_example_g00872_impl_dualOperators)], narrowed := true }
def FnExactRemoveParUptoSaid : Prop := fnExactRemoveParUptoRow.holds Tryz.pinned (OpenSpec.upto fnExactRemoveParSpec)

/-- 'laws.FnExactIsSequentialisable', WHERE WHAT IT READS IS OF BULK AT MOST 1048576: true; the input reads as it did. -/
def fnExactIsSequentialisableUptoRow : OpenClaim := { program := "ytgpocnapkflihaagreatdoor", sum := "34e0380c0259eb0e06c0edd540cc35926d35a0ae9ca3cad643243196662d41d8", func := "loop.example/g00872/laws.FnExactIsSequentialisable", spec := "fnExactIsSequentialisable", unfollowed := true, recurses := true, named := ["loop.example/g00872/impl.arities", "loop.example/g00872/impl.dualOperators"], apart := false, laid := [("loop.example/g00872/impl.arities", laid_loop_example_g00872_impl_arities), ("loop.example/g00872/impl.dualOperators", laid_loop_example_g00872_impl_dualOperators)], narrowed := true }
def FnExactIsSequentialisableUptoSaid : Prop := fnExactIsSequentialisableUptoRow.holds Tryz.pinned (OpenSpec.upto fnExactIsSequentialisableSpec)

end Rows
end Go.Proofs.YtgpocnapkflihaaGreatDoor
