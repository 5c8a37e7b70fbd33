/- Chapter 13's functions at rows of any length. -/
import Derived.Test.YtedigjkmolnjcaaDoorPbD
import Derived.Test.YtedigjkmolnjcaaDoorPbF
import Derived.Test.YtedigjkmolnjcaaDoorPaJ
namespace Go.Proofs.YtedigjkmolnjcaaDoor
set_option linter.unusedSimpArgs false
set_option linter.unusedVariables false
open Go.ChangeAt Go.ChangeShapes Go.RowKit Go.WideShapes

theorem if_val {N : Nt} {fs : List Int} (h : ifB N fs = true) : valN N = true := (Bool.and_eq_true _ _ ▸ h : valN N = true ∧ isF N fs = true).1
theorem rlV_len (N : Nt) (fs : List Int) : (rlV N fs).length ≤ 1048576 := by
  unfold rlV
  cases h : ifB N fs with
  | false => simp
  | true =>
    have h1 := (valN_size (if_val h)).2
    have h2 := alU_len N fs N.l.length
    rw [alU_all] at h2
    rw [if_pos rfl]; omega
theorem paV_len (N : Nt) (fs : List Int) : (paV N fs).length ≤ 1048576 := by
  unfold paV
  cases h : ifB N fs with
  | false => simp
  | true =>
    have h1 := (valN_size (if_val h)).1
    rw [if_pos rfl, paU_len]; omega
theorem owV_len (N : Nt) (fs : List Int) : (owV N fs).length ≤ 1048576 := by
  unfold owV
  cases h : ifB N fs with
  | false => simp
  | true =>
    have h1 := (valN_size (if_val h)).1
    have h2 := opU_len N fs N.w.length
    rw [if_pos rfl]; omega
theorem foV_len (N : Nt) (last : Bool) : (foV N last).length ≤ 1048576 := by
  unfold foV
  cases h : valN N with
  | false => simp
  | true =>
    have h1 := (valN_size h).2
    have h2 := (isF_ok (ord_isF N last)).len
    rw [if_pos rfl]; omega
theorem stV_len (N : Nt) : (stV N).length ≤ 1048576 := by
  unfold stV
  cases h : valN N with
  | false => simp
  | true =>
    have h1 := (valN_size h).2
    have h2 := stU_len N (ordN N false) N.l.length
    rw [if_pos rfl]; omega
theorem sIsFiringSequenceW (h : NH) (N : Nt) (S : Option Addr) (n sc : Nat) (s : List Int) (w : World) (r : RdN w w.heap.size h N) (rS : RdI w w.heap.size S n s) (hsl : n ≤ 1048576) (hle : n ≤ sc) (hn : N.w.length ≤ 1048576) (hl : N.l.length ≤ 1048576) (hc : N.c.length ≤ 1048576) :
    Calls Tryd.prog 12 #[.agg #[.slice h.A N.w.length h.c, .slice h.L N.l.length h.d, .slice h.C N.c.length h.e], .slice S n sc] w fun e w' => e = .returned (.bool (ifB N s)) ∧ Below w.heap.size w w' := by
  obtain rfl := rS.1
  exact sIsFir_any h N s S sc w r hn hl hc hsl hle rS
theorem pIsFiringSequenceW (h : NH) (N : Nt) (S : Option Addr) (n sc : Nat) (s : List Int) (w : World) (r : RdN w w.heap.size h N) (sm : SmallN N) (rS : RdI w w.heap.size S n s) (hsl : n ≤ 1048576) (ht : Arit w) (hu : Dual w) :
    Calls Tryd.prog 15 #[.agg #[.slice h.A N.w.length h.c, .slice h.L N.l.length h.d, .slice h.C N.c.length h.e], .slice S n sc] w fun e w' => e = .returned (.bool (ifB N s)) ∧ Below w.heap.size w w' := by
  obtain rfl := rS.1
  exact isFiring_impl h N s S sc w r sm hsl rS ht hu
theorem sReadyLinksW (h : NH) (N : Nt) (S : Option Addr) (n sc : Nat) (s : List Int) (w : World) (r : RdN w w.heap.size h N) (rS : RdI w w.heap.size S n s) (hsl : n ≤ 1048576) (hle : n ≤ sc) (hn : N.w.length ≤ 1048576) (hl : N.l.length ≤ 1048576) (hc : N.c.length ≤ 1048576) :
    Calls Tryd.prog 18 #[.agg #[.slice h.A N.w.length h.c, .slice h.L N.l.length h.d, .slice h.C N.c.length h.e], .slice S n sc] w (GivesB w (rlV N s) (ifB N s)) := by
  obtain rfl := rS.1
  exact sReadyLinks_any h N s S sc w r hn hl hc hsl hle rS
theorem pReadyLinksW (h : NH) (N : Nt) (S : Option Addr) (n sc : Nat) (s : List Int) (w : World) (r : RdN w w.heap.size h N) (sm : SmallN N) (rS : RdI w w.heap.size S n s) (hsl : n ≤ 1048576) (ht : Arit w) (hu : Dual w) :
    Calls Tryd.prog 19 #[.agg #[.slice h.A N.w.length h.c, .slice h.L N.l.length h.d, .slice h.C N.c.length h.e], .slice S n sc] w (GivesB w (rlV N s) (ifB N s)) := by
  obtain rfl := rS.1
  exact readyL_impl h N s S sc w r sm hsl rS ht hu
theorem sPartsAfterW (h : NH) (N : Nt) (S : Option Addr) (n sc : Nat) (s : List Int) (w : World) (r : RdN w w.heap.size h N) (rS : RdI w w.heap.size S n s) (hsl : n ≤ 1048576) (hle : n ≤ sc) (hn : N.w.length ≤ 1048576) (hl : N.l.length ≤ 1048576) (hc : N.c.length ≤ 1048576) :
    Calls Tryd.prog 23 #[.agg #[.slice h.A N.w.length h.c, .slice h.L N.l.length h.d, .slice h.C N.c.length h.e], .slice S n sc] w (GivesB w (paV N s) (ifB N s)) := by
  obtain rfl := rS.1
  exact sPartsAfter_any h N s S sc w r hn hl hc hsl hle rS
theorem pPartsAfterW (h : NH) (N : Nt) (S : Option Addr) (n sc : Nat) (s : List Int) (w : World) (r : RdN w w.heap.size h N) (sm : SmallN N) (rS : RdI w w.heap.size S n s) (hsl : n ≤ 1048576) (ht : Arit w) (hu : Dual w) :
    Calls Tryd.prog 24 #[.agg #[.slice h.A N.w.length h.c, .slice h.L N.l.length h.d, .slice h.C N.c.length h.e], .slice S n sc] w (GivesB w (paV N s) (ifB N s)) := by
  obtain rfl := rS.1
  exact partsAfter_impl h N s S sc w r sm hsl rS ht hu
theorem sOpenWiresW (h : NH) (N : Nt) (S : Option Addr) (n sc : Nat) (s : List Int) (w : World) (r : RdN w w.heap.size h N) (rS : RdI w w.heap.size S n s) (hsl : n ≤ 1048576) (hle : n ≤ sc) (hn : N.w.length ≤ 1048576) (hl : N.l.length ≤ 1048576) (hc : N.c.length ≤ 1048576) :
    Calls Tryd.prog 25 #[.agg #[.slice h.A N.w.length h.c, .slice h.L N.l.length h.d, .slice h.C N.c.length h.e], .slice S n sc] w (GivesB w (owV N s) (ifB N s)) := by
  obtain rfl := rS.1
  exact sOpenWires_any h N s S sc w r hn hl hc hsl hle rS
theorem pOpenWiresW (h : NH) (N : Nt) (S : Option Addr) (n sc : Nat) (s : List Int) (w : World) (r : RdN w w.heap.size h N) (sm : SmallN N) (rS : RdI w w.heap.size S n s) (hsl : n ≤ 1048576) (ht : Arit w) (hu : Dual w) :
    Calls Tryd.prog 26 #[.agg #[.slice h.A N.w.length h.c, .slice h.L N.l.length h.d, .slice h.C N.c.length h.e], .slice S n sc] w (GivesB w (owV N s) (ifB N s)) := by
  obtain rfl := rS.1
  exact openWires_impl h N s S sc w r sm hsl rS ht hu
end Go.Proofs.YtedigjkmolnjcaaDoor
