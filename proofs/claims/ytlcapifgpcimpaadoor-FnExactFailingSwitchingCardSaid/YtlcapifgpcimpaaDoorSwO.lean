/- FailingSwitching of both sides, its two numbers by name. -/
import Derived.Test.YtlcapifgpcimpaaDoorSwY
namespace Go.Proofs.YtlcapifgpcimpaaDoor
set_option linter.unusedSimpArgs false
set_option linter.unusedVariables false
open Go.ChangeAt Go.ChangeShapes Go.RowKit Go.WideShapes

def fsA (N : Nt) : Int := (fsP N).1
def fsB (N : Nt) : Int := (fsP N).2
theorem sFailing2_any (h : NH) (N : Nt) (w : World) (r : RdN w w.heap.size h N) (hn : N.w.length ≤ 1048576) (hl : N.l.length ≤ 1048576) (hc : N.c.length ≤ 1048576) :
    Calls Tryd.prog 18 #[.agg #[.slice h.A N.w.length h.c, .slice h.L N.l.length h.d, .slice h.C N.c.length h.e]] w fun e w' => e = .returned (.tuple #[.int .i64 (fsA N), .int .i64 (fsB N)]) ∧ Below w.heap.size w w' := sFailing_any h N w r hn hl hc
theorem failing2_impl (h : NH) (N : Nt) (w : World) (r : RdN w w.heap.size h N) (sm : SmallN N) (ht : Arit w) (hu : Dual w) :
    Calls Tryd.prog 19 #[.agg #[.slice h.A N.w.length h.c, .slice h.L N.l.length h.d, .slice h.C N.c.length h.e]] w fun e w' => e = .returned (.tuple #[.int .i64 (fsA N), .int .i64 (fsB N)]) ∧ Below w.heap.size w w' := failing_impl h N w r sm ht hu
end Go.Proofs.YtlcapifgpcimpaaDoor
