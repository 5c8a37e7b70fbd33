/- The program: CorrectBySwitchings. -/
import Derived.Test.YtlcapifgpcimpaaDoorSwY
namespace Go.Proofs.YtlcapifgpcimpaaDoor
set_option linter.unusedSimpArgs false
set_option linter.unusedVariables false
open Go.ChangeAt Go.ChangeShapes Go.RowKit Go.WideShapes

/-- The verdict over all switchings. -/
def csB (N : Nt) : Bool := (fsP N).2 == 0
theorem sCorrectSw_any (h : NH) (N : Nt) (w : World) (r : RdN w w.heap.size h N) (hn : N.w.length ≤ 1048576) (hl : N.l.length ≤ 1048576) (hc : N.c.length ≤ 1048576) :
    Calls Tryd.prog 20 #[.agg #[.slice h.A N.w.length h.c, .slice h.L N.l.length h.d, .slice h.C N.c.length h.e]] w fun e w' => e = .returned (.bool (csB N)) ∧ Below w.heap.size w w' := sCorrect_any h N w r hn hl hc
set_option maxRecDepth 100000 in
set_option maxHeartbeats 1000000 in
theorem correctSw_impl (h : NH) (N : Nt) (w : World) (r : RdN w w.heap.size h N) (sm : SmallN N) (ht : Arit w) (hu : Dual w) :
    Calls Tryd.prog 21 #[.agg #[.slice h.A N.w.length h.c, .slice h.L N.l.length h.d, .slice h.C N.c.length h.e]] w fun e w' => e = .returned (.bool (csB N)) ∧ Below w.heap.size w w' := by
  obtain ⟨w0, hw0⟩ : ∃ w0, w0 = w.alloc (.cells #[.slice h.A N.w.length h.c, .slice h.L N.l.length h.d, .slice h.C N.c.length h.e] 35) := ⟨_, rfl⟩
  obtain ⟨hb, hh, hsz⟩ := box3_any w (.slice h.A N.w.length h.c) (.slice h.L N.l.length h.d) (.slice h.C N.c.length h.e) 35
  rw [← hw0] at hb hh hsz
  have HC := Lib.hid (failing_impl h N w0 ((r.below hb).more hb.size) sm (ht.below hb ht.lt) (hu.below hb hu.lt))
  have HB0 := Lib.hid hb
  obtain ⟨y0, y1, y2⟩ := three_cells hh
  clear hb hh hsz r ht hu sm
  unfold csB
  generalize fsP N = FP at *
  go_enter Tryd.func21, Tryd.ntmps21
  go_wp2_with (fail)
  rw [← hw0]
  clear hw0
  refine HC.out.mono ?_
  rintro e w1 ⟨rfl, bel⟩
  have HG := Lib.hid (HB0.out.trans (bel.mono HB0.out.size))
  clear bel y0 y1 y2 HC
  go_wp2
  go_ret
  exact ⟨rfl, HG.out⟩
end Go.Proofs.YtlcapifgpcimpaaDoor
