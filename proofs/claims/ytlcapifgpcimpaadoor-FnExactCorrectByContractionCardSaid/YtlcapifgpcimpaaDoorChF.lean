/- The program's contractedOnce, ContractEdge, ContractPair, ContractFirst, ContractAll. Made by mkchf.py. -/
import Derived.Test.YtlcapifgpcimpaaDoorChC
import Derived.Test.YtlcapifgpcimpaaDoorChD
import Derived.Test.YtlcapifgpcimpaaDoorChE
import Derived.Test.YtlcapifgpcimpaaDoorCcN
import Derived.Test.YtlcapifgpcimpaaDoorEgW
import Derived.Deep.RegionHeldLaw
import Derived.Deep.DeepCutAuto
import Derived.BigQuiet
import Derived.Deep.LoopGhost
namespace Go.Proofs.YtlcapifgpcimpaaDoor
set_option linter.unusedSimpArgs false
set_option linter.unusedVariables false
open Go.ChangeAt Go.ChangeShapes Go.RowKit Go.WideShapes

def edgeW (i : Int) : Nat → Ed → Bool := fun k x => decide ((k : Int) = i) && decide (x.p = -1)
def pairW (p : Int) : Nat → Ed → Bool := fun _ x => decide (x.p = p) && decide (x.p ≠ -1)
theorem anyC_any (w : World) (k : Nat) (x : Ed) :
    Calls Tryd.prog 73 #[.int .i64 k, .agg #[.int .i64 x.a, .int .i64 x.b, .int .i64 x.p]] w fun e w' => e = .returned (.bool (anyW k x)) ∧ Below w.heap.size w w' := by
  have HB : Hid (Below w.heap.size w (w.alloc (.cells #[.int .i64 x.a, .int .i64 x.b, .int .i64 x.p] 52))) := Lib.hid ((Below.refl _ _).alloc (Nat.le_refl _) _)
  go_enter Tryd.func73, Tryd.ntmps73
  go_wp2
  go_ret
  exact ⟨rfl, HB.out⟩
/-- The zero graph and false. -/
theorem givesGB_nil {w w' : World} (h : Below w.heap.size w w') : GivesGB w Gr.nil false (.returned (.tuple #[.agg #[.int .i64 0, .slice none 0 0], .bool false])) w' := ⟨⟨none, 0⟩, rfl, ⟨World.ownsRow_nil _ _ _ _, fun k hk => by cases hk⟩, h⟩
theorem two_box (w : World) (o p : Obj) : Below w.heap.size w ((w.alloc o).alloc p) ∧ ((w.alloc o).alloc p).heap[w.heap.size]? = some o ∧ ((w.alloc o).alloc p).heap[w.heap.size + 1]? = some p ∧ ((w.alloc o).alloc p).heap.size = w.heap.size + 1 + 1 := two_new w o p
theorem eds_mem {ns : List Nd} {es : List Ed} (h : edsN ns = es) {n : Nd} (hn : n ∈ ns) : n.e ∈ es := by rw [← h]; exact List.mem_map.2 ⟨n, hn, rfl⟩
theorem ok_ends {G : Gr} (hv : vgB G = true) {e : Ed} (he : e ∈ G.e) : (0 ≤ e.a ∧ e.a ≤ 1000) ∧ 0 ≤ e.b ∧ e.b ≤ 1000 := by
  have h1 := vgB_ok hv e he
  have h2 := vgB_small hv
  unfold okE at h1
  simp only [Bool.and_eq_true, decide_eq_true_eq] at h1
  omega
end Go.Proofs.YtlcapifgpcimpaaDoor
