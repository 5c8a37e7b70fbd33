/-
  No cell of these rows narrows 'for every input' (looked for: loops, veiled, ifaces, maps, wideKeys, modest, calm, conditions, laid).
  DERIVED. THE GIVEN ROWS OF THIS SEAT. 6 by the template 'for every input the law returns true; each argument reads behind the call as it read before'; 0 by the template 'total and deterministic' (their statements: YtlcapifgpcimpaaTotals.lean).
  GIVEN WITH THE SEED: the statements are not yours to turn. If you find one false, say at which input.
  Laid BY PROGRAM, IN A SANDBOX (cutbox-rows.mjs): the forced cells as the released guide's own fill.sh prints them over the translation 3563a78c0fca5ae8… (all of the seat's roots in one cut). By AI agents, Wed Nov 11 2026. No macro, syntax, notation, axiom, sorry.
-/
import Derived.Test.YtlcapifgpcimpaaChecked
import GoSem.Claim
import GoSem.ClaimJoined
import GoSem.ClaimMapViews
import Derived.JoinedTies
import Derived.KernelRfl
namespace Go.Proofs.Ytlcapifgpcimpaa
/- THE CELL 'sum', in the pinned program and in every row, IS THE sha256 OF THE DUMP (.gsa) THAT YtlcapifgpcimpaaProg.lean LOADS. Nothing in Lean hashes anything: it is a label: what it is worth is what the hold of that sum in a sandbox is worth. -/
noncomputable def Try.pinned : Pinned := { name := "ytlcapifgpcimpaa", sum := "3563a78c0fca5ae885df85a79f4f3f46f1ba29c25a9bcd1d73c9a76567f81020", checked := Try.checked }
namespace Rows
def none {H : Type} : Left H := { results := [], args := [] }

/-- 'laws.FnExactValidPairedGraph': WHATEVER THE INPUT: true; the input reads as it did. -/
def fnExactValidPairedGraphSpec : ChangeSpec := { name := "fnExactValidPairedGraph", fn := fun _ => fun
  | [d] => { results := [.lit (.bool true)], args := [d] }
  | _ => none }
def fnExactValidPairedGraphRow : OpenClaim := { program := "ytlcapifgpcimpaa", sum := "3563a78c0fca5ae885df85a79f4f3f46f1ba29c25a9bcd1d73c9a76567f81020", func := "loop.example/g00872/laws.FnExactValidPairedGraph", spec := "fnExactValidPairedGraph", unfollowed := true, recurses := true, apart := false }
def FnExactValidPairedGraphSaid : Prop := fnExactValidPairedGraphRow.holds Try.pinned (OpenSpec.ofChange fnExactValidPairedGraphSpec)

/-- ITS FALSE NEIGHBOUR: 'it returns false'. Refute it at one input. -/
def fnExactValidPairedGraphWrong : ChangeSpec := { name := "fnExactValidPairedGraph", fn := fun _ => fun
  | [d] => { results := [.lit (.bool false)], args := [d] }
  | _ => none }
def FnExactValidPairedGraphWrongFalsely : Prop := fnExactValidPairedGraphRow.holds Try.pinned (OpenSpec.ofChange fnExactValidPairedGraphWrong)

/-- 'laws.FnExactContractEdge': WHATEVER THE INPUT: true; the input reads as it did. -/
def fnExactContractEdgeSpec : ChangeSpec := { name := "fnExactContractEdge", fn := fun _ => fun
  | [d1, d2] => { results := [.lit (.bool true)], args := [d1, d2] }
  | _ => none }
def fnExactContractEdgeRow : OpenClaim := { program := "ytlcapifgpcimpaa", sum := "3563a78c0fca5ae885df85a79f4f3f46f1ba29c25a9bcd1d73c9a76567f81020", func := "loop.example/g00872/laws.FnExactContractEdge", spec := "fnExactContractEdge", unfollowed := true, recurses := true, apart := false }
def FnExactContractEdgeSaid : Prop := fnExactContractEdgeRow.holds Try.pinned (OpenSpec.ofChange fnExactContractEdgeSpec)

/-- ITS FALSE NEIGHBOUR: 'it returns false'. Refute it at one input. -/
def fnExactContractEdgeWrong : ChangeSpec := { name := "fnExactContractEdge", fn := fun _ => fun
  | [d1, d2] => { results := [.lit (.bool false)], args := [d1, d2] }
  | _ => none }
def FnExactContractEdgeWrongFalsely : Prop := fnExactContractEdgeRow.holds Try.pinned (OpenSpec.ofChange fnExactContractEdgeWrong)

/-- 'laws.FnExactContractPair': WHATEVER THE INPUT: true; the input reads as it did. -/
def fnExactContractPairSpec : ChangeSpec := { name := "fnExactContractPair", fn := fun _ => fun
  | [d1, d2] => { results := [.lit (.bool true)], args := [d1, d2] }
  | _ => none }
def fnExactContractPairRow : OpenClaim := { program := "ytlcapifgpcimpaa", sum := "3563a78c0fca5ae885df85a79f4f3f46f1ba29c25a9bcd1d73c9a76567f81020", func := "loop.example/g00872/laws.FnExactContractPair", spec := "fnExactContractPair", unfollowed := true, recurses := true, apart := false }
def FnExactContractPairSaid : Prop := fnExactContractPairRow.holds Try.pinned (OpenSpec.ofChange fnExactContractPairSpec)

/-- ITS FALSE NEIGHBOUR: 'it returns false'. Refute it at one input. -/
def fnExactContractPairWrong : ChangeSpec := { name := "fnExactContractPair", fn := fun _ => fun
  | [d1, d2] => { results := [.lit (.bool false)], args := [d1, d2] }
  | _ => none }
def FnExactContractPairWrongFalsely : Prop := fnExactContractPairRow.holds Try.pinned (OpenSpec.ofChange fnExactContractPairWrong)

/-- 'laws.FnExactContractFirst': WHATEVER THE INPUT: true; the input reads as it did. -/
def fnExactContractFirstSpec : ChangeSpec := { name := "fnExactContractFirst", fn := fun _ => fun
  | [d] => { results := [.lit (.bool true)], args := [d] }
  | _ => none }
def fnExactContractFirstRow : OpenClaim := { program := "ytlcapifgpcimpaa", sum := "3563a78c0fca5ae885df85a79f4f3f46f1ba29c25a9bcd1d73c9a76567f81020", func := "loop.example/g00872/laws.FnExactContractFirst", spec := "fnExactContractFirst", unfollowed := true, recurses := true, apart := false }
def FnExactContractFirstSaid : Prop := fnExactContractFirstRow.holds Try.pinned (OpenSpec.ofChange fnExactContractFirstSpec)

/-- ITS FALSE NEIGHBOUR: 'it returns false'. Refute it at one input. -/
def fnExactContractFirstWrong : ChangeSpec := { name := "fnExactContractFirst", fn := fun _ => fun
  | [d] => { results := [.lit (.bool false)], args := [d] }
  | _ => none }
def FnExactContractFirstWrongFalsely : Prop := fnExactContractFirstRow.holds Try.pinned (OpenSpec.ofChange fnExactContractFirstWrong)

/-- 'laws.FnExactContractAll': WHATEVER THE INPUT: true; the input reads as it did. -/
def fnExactContractAllSpec : ChangeSpec := { name := "fnExactContractAll", fn := fun _ => fun
  | [d] => { results := [.lit (.bool true)], args := [d] }
  | _ => none }
def fnExactContractAllRow : OpenClaim := { program := "ytlcapifgpcimpaa", sum := "3563a78c0fca5ae885df85a79f4f3f46f1ba29c25a9bcd1d73c9a76567f81020", func := "loop.example/g00872/laws.FnExactContractAll", spec := "fnExactContractAll", unfollowed := true, recurses := true, apart := false }
def FnExactContractAllSaid : Prop := fnExactContractAllRow.holds Try.pinned (OpenSpec.ofChange fnExactContractAllSpec)

/-- ITS FALSE NEIGHBOUR: 'it returns false'. Refute it at one input. -/
def fnExactContractAllWrong : ChangeSpec := { name := "fnExactContractAll", fn := fun _ => fun
  | [d] => { results := [.lit (.bool false)], args := [d] }
  | _ => none }
def FnExactContractAllWrongFalsely : Prop := fnExactContractAllRow.holds Try.pinned (OpenSpec.ofChange fnExactContractAllWrong)

/-- 'laws.FnExactIsPoint': WHATEVER THE INPUT: true; the input reads as it did. -/
def fnExactIsPointSpec : ChangeSpec := { name := "fnExactIsPoint", fn := fun _ => fun
  | [d] => { results := [.lit (.bool true)], args := [d] }
  | _ => none }
def fnExactIsPointRow : OpenClaim := { program := "ytlcapifgpcimpaa", sum := "3563a78c0fca5ae885df85a79f4f3f46f1ba29c25a9bcd1d73c9a76567f81020", func := "loop.example/g00872/laws.FnExactIsPoint", spec := "fnExactIsPoint", apart := false }
def FnExactIsPointSaid : Prop := fnExactIsPointRow.holds Try.pinned (OpenSpec.ofChange fnExactIsPointSpec)

/-- ITS FALSE NEIGHBOUR: 'it returns false'. Refute it at one input. -/
def fnExactIsPointWrong : ChangeSpec := { name := "fnExactIsPoint", fn := fun _ => fun
  | [d] => { results := [.lit (.bool false)], args := [d] }
  | _ => none }
def FnExactIsPointWrongFalsely : Prop := fnExactIsPointRow.holds Try.pinned (OpenSpec.ofChange fnExactIsPointWrong)

/- THE SECOND FORM. 'bulk': how many values and letters a reading holds, each counted each time it is reached (what is shared counts as often as it is met; a slice's spare places count too). A statement '..UptoSaid' is the law's where the arguments, and the package variables that the reading takes, are together of bulk at most 1048576: NARROWER than '..Said'. Prove '..Said' where nothing that the law and all that it calls make is longer than what came in: it says more and counts as full. Else prove '..UptoSaid'. A law counts once. -/
mutual
def uptoBulk {H : Type} : DataW H → Nat
  | .lit (.string bytes) => bytes.length + 1
  | .lit _ => 1
  | .nil => 1
  | .ptr d => uptoBulk d + 1
  | .slice elems spare => uptoBulkAll elems + uptoBulkAll spare + 1
  | .agg parts => uptoBulkAll parts + 1
  | .iface _ d => uptoBulk d + 1
  | .map entries => uptoBulkEntries entries + 1
  | .held _ => 1
def uptoBulkAll {H : Type} : List (DataW H) → Nat
  | [] => 0
  | d :: r => uptoBulk d + uptoBulkAll r
def uptoBulkEntries {H : Type} : List (Lit × DataW H) → Nat
  | [] => 0
  | x :: r => uptoBulkEntry x + uptoBulkEntries r
def uptoBulkEntry {H : Type} : Lit × DataW H → Nat
  | (.string bytes, d) => bytes.length + uptoBulk d + 1
  | (_, d) => uptoBulk d + 1
 end
def uptoSmall : (H : Type) → List (DataW H) → Bool := fun _ ds => decide (uptoBulkAll ds ≤ 1048576)
def OpenSpec.upto (s : _root_.Go.ChangeSpec) : _root_.Go.OpenSpec := { _root_.Go.OpenSpec.ofChange s with cond := some uptoSmall }

/-- 'laws.FnExactValidPairedGraph', WHERE WHAT IT READS IS OF BULK AT MOST 1048576: true; the input reads as it did. -/
def fnExactValidPairedGraphUptoRow : OpenClaim := { program := "ytlcapifgpcimpaa", sum := "3563a78c0fca5ae885df85a79f4f3f46f1ba29c25a9bcd1d73c9a76567f81020", func := "loop.example/g00872/laws.FnExactValidPairedGraph", spec := "fnExactValidPairedGraph", unfollowed := true, recurses := true, apart := false, narrowed := true }
def FnExactValidPairedGraphUptoSaid : Prop := fnExactValidPairedGraphUptoRow.holds Try.pinned (OpenSpec.upto fnExactValidPairedGraphSpec)

/-- 'laws.FnExactContractEdge', WHERE WHAT IT READS IS OF BULK AT MOST 1048576: true; the input reads as it did. -/
def fnExactContractEdgeUptoRow : OpenClaim := { program := "ytlcapifgpcimpaa", sum := "3563a78c0fca5ae885df85a79f4f3f46f1ba29c25a9bcd1d73c9a76567f81020", func := "loop.example/g00872/laws.FnExactContractEdge", spec := "fnExactContractEdge", unfollowed := true, recurses := true, apart := false, narrowed := true }
def FnExactContractEdgeUptoSaid : Prop := fnExactContractEdgeUptoRow.holds Try.pinned (OpenSpec.upto fnExactContractEdgeSpec)

/-- 'laws.FnExactContractPair', WHERE WHAT IT READS IS OF BULK AT MOST 1048576: true; the input reads as it did. -/
def fnExactContractPairUptoRow : OpenClaim := { program := "ytlcapifgpcimpaa", sum := "3563a78c0fca5ae885df85a79f4f3f46f1ba29c25a9bcd1d73c9a76567f81020", func := "loop.example/g00872/laws.FnExactContractPair", spec := "fnExactContractPair", unfollowed := true, recurses := true, apart := false, narrowed := true }
def FnExactContractPairUptoSaid : Prop := fnExactContractPairUptoRow.holds Try.pinned (OpenSpec.upto fnExactContractPairSpec)

/-- 'laws.FnExactContractFirst', WHERE WHAT IT READS IS OF BULK AT MOST 1048576: true; the input reads as it did. -/
def fnExactContractFirstUptoRow : OpenClaim := { program := "ytlcapifgpcimpaa", sum := "3563a78c0fca5ae885df85a79f4f3f46f1ba29c25a9bcd1d73c9a76567f81020", func := "loop.example/g00872/laws.FnExactContractFirst", spec := "fnExactContractFirst", unfollowed := true, recurses := true, apart := false, narrowed := true }
def FnExactContractFirstUptoSaid : Prop := fnExactContractFirstUptoRow.holds Try.pinned (OpenSpec.upto fnExactContractFirstSpec)

/-- 'laws.FnExactContractAll', WHERE WHAT IT READS IS OF BULK AT MOST 1048576: true; the input reads as it did. -/
def fnExactContractAllUptoRow : OpenClaim := { program := "ytlcapifgpcimpaa", sum := "3563a78c0fca5ae885df85a79f4f3f46f1ba29c25a9bcd1d73c9a76567f81020", func := "loop.example/g00872/laws.FnExactContractAll", spec := "fnExactContractAll", unfollowed := true, recurses := true, apart := false, narrowed := true }
def FnExactContractAllUptoSaid : Prop := fnExactContractAllUptoRow.holds Try.pinned (OpenSpec.upto fnExactContractAllSpec)

/-- 'laws.FnExactIsPoint', WHERE WHAT IT READS IS OF BULK AT MOST 1048576: true; the input reads as it did. -/
def fnExactIsPointUptoRow : OpenClaim := { program := "ytlcapifgpcimpaa", sum := "3563a78c0fca5ae885df85a79f4f3f46f1ba29c25a9bcd1d73c9a76567f81020", func := "loop.example/g00872/laws.FnExactIsPoint", spec := "fnExactIsPoint", apart := false, narrowed := true }
def FnExactIsPointUptoSaid : Prop := fnExactIsPointUptoRow.holds Try.pinned (OpenSpec.upto fnExactIsPointSpec)

end Rows
end Go.Proofs.Ytlcapifgpcimpaa
