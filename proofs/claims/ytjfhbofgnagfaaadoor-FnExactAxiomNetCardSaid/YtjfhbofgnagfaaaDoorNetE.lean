/- Laws over nets: sizes, marks. -/
import Derived.Test.YtjfhbofgnagfaaaDoorNetD
import Derived.Test.YtjfhbofgnagfaaaDoorNetF
import Derived.Test.YtjfhbofgnagfaaaDoorSeqV
namespace Go.Proofs.YtjfhbofgnagfaaaDoor
open Go.ChangeAt Go.ChangeShapes Go.RowKit Go.WideShapes

/-- A net no greater than the laws' bound. -/
structure SmallN (N : Nt) : Prop where
  w : N.w.length ≤ 1048576
  t : total N.w ≤ 1048576
  l : N.l.length ≤ 1048576
  c : N.c.length ≤ 1048576
/-- A net as great as any that came in. -/
structure GreatN (N : Nt) : Prop where
  w : N.w.length ≤ maxLen
  l : N.l.length ≤ maxLen
  c : N.c.length ≤ maxLen
  q : ∀ q ∈ N.w, q.length ≤ maxLen
theorem SmallN.q {N : Nt} (h : SmallN N) : ∀ q ∈ N.w, q.length ≤ 1048576 := fun _ hq => Nat.le_trans (mem_total hq) h.t
theorem SmallN.great {N : Nt} (h : SmallN N) : GreatN N := ⟨Nat.le_trans h.w (by decide), Nat.le_trans h.l (by decide), Nat.le_trans h.c (by decide), fun q hq => Nat.le_trans (h.q q hq) (by decide)⟩
theorem SmallN.tot {N : Nt} (h : SmallN N) : ntot N ≤ 6291456 := by
  have h1 := h.t; have h2 := h.l; have h3 := h.c
  unfold ntot; omega
theorem rd_mrk {w : World} {B : Nat} {h : NH} {k : Int} {N : Nt} (r : RdN w B h (mrkN k N)) : RdN w B h (mrkN k N) := r
end Go.Proofs.YtjfhbofgnagfaaaDoor
