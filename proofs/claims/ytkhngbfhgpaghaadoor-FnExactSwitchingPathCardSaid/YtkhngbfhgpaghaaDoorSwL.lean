/- SwitchGraph at rows of any length. -/
import Derived.Test.YtkhngbfhgpaghaaDoorSwJ
import Derived.Test.YtkhngbfhgpaghaaDoorSwA
import Derived.Deep.RegionHeldLaw
import Derived.Deep.DeepCutAuto
import Derived.BigQuiet
namespace Go.Proofs.YtkhngbfhgpaghaaDoor
set_option linter.unusedSimpArgs false
set_option linter.unusedVariables false
open Go.ChangeAt Go.ChangeShapes Go.RowKit Go.WideShapes

theorem sgL_len (N : Nt) (s : List Int) : (sgL N s).length ≤ 1048576 := by
  unfold sgL
  cases h : isSw N s with
  | false => simp
  | true =>
    have h1 := (valN_size (isSw_yes h).1).1
    have h2 := mgU_len N s N.w.length
    rw [if_pos rfl]
    omega
theorem sSwGraph_w (h : NH) (N : Nt) (S : Option Addr) (n sc : Nat) (s : List Int) (w : World) (r : RdN w w.heap.size h N) (rS : RdI w w.heap.size S n s) (hsl : n ≤ 1048576) (hn : N.w.length ≤ 1048576) (hl : N.l.length ≤ 1048576) (hc : N.c.length ≤ 1048576) :
    Calls Tryd.prog 26 #[.agg #[.slice h.A N.w.length h.c, .slice h.L N.l.length h.d, .slice h.C N.c.length h.e], .slice S n sc] w (GivesAB w (sgL N s) (isSw N s)) := by
  obtain rfl := rS.1
  exact sSwGraph_any h N s S sc w r hsl rS hn hl hc
theorem switchGraph_w (h : NH) (N : Nt) (S : Option Addr) (n sc : Nat) (s : List Int) (w : World) (r : RdN w w.heap.size h N) (sm : SmallN N) (rS : RdI w w.heap.size S n s) (hsl : n ≤ 1048576) (ht : Arit w) (hu : Dual w) :
    Calls Tryd.prog 28 #[.agg #[.slice h.A N.w.length h.c, .slice h.L N.l.length h.d, .slice h.C N.c.length h.e], .slice S n sc] w (GivesAB w (sgL N s) (isSw N s)) := by
  obtain rfl := rS.1
  exact switchGraph_impl h N s S sc w r sm hsl rS ht hu
end Go.Proofs.YtkhngbfhgpaghaaDoor
