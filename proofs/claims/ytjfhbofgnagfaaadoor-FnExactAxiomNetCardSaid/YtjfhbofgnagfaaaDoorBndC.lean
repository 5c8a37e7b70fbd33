/- The program's IsBinding, atomOf, forSymbol. -/
import Derived.Test.YtjfhbofgnagfaaaDoorBndB
import Derived.Test.YtjfhbofgnagfaaaDoorDual
import Derived.Deep.QuietTactic
namespace Go.Proofs.YtjfhbofgnagfaaaDoor
open Go.ChangeAt Go.ChangeShapes Go.RowKit Go.WideShapes

theorem rd_one (w : World) (x : Int) : RdI (w.alloc (.cells #[Value.int .i64 x] 2)) (w.alloc (.cells #[Value.int .i64 x] 2)).heap.size (some ⟨w.heap.size, 0, none⟩) 1 [x] :=
  ⟨rfl, fun _ => ⟨w.heap.size, 0, rfl, by simp, fun j hj => by
    have e : j = 0 := by simp at hj; omega
    subst e
    simp⟩⟩
/-- What forSymbol leaves: a slice that reads as X, of whomever. -/
def GivesR (w : World) (X : List Int) (e : Ending) (w' : World) : Prop :=
  ∃ A c, e = .returned (.slice A X.length c) ∧ RdI w' w'.heap.size A X.length X ∧ X.length ≤ c ∧ Below w.heap.size w w'

end Go.Proofs.YtjfhbofgnagfaaaDoor
