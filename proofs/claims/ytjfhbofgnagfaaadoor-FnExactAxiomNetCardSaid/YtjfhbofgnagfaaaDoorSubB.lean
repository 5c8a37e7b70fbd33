/- The model's subst and SubstForm. -/
import Derived.Test.YtjfhbofgnagfaaaDoorSubA
import Derived.Deep.QuietTactic
import Derived.BigQuiet
namespace Go.Proofs.YtjfhbofgnagfaaaDoor
open Go.ChangeAt Go.ChangeShapes Go.RowKit Go.WideShapes

/-- What an append of a list leaves of a row of one's own. -/
theorem row_more {w0 wr w7 : World} {base c L : Nat} {A : Option Addr} {T X : List Int} {v7 : Value} (hL : L = (T ++ X).length) (hbel : Below base w0 wr) (hbase : base ≤ wr.heap.size)
    (own : wr.ownsRow base 2 1 (.slice A T.length c) T.length (T.map (Value.int .i64)))
    (hown7 : w7.ownsRow base 2 1 v7 (T.length + X.length) (T.map (Value.int .i64) ++ X.map (Value.int .i64)))
    (hgrow7 : wr.grownBy w7 (Value.slice A T.length c).ownBlock) :
    ∃ A7 c7, v7 = .slice A7 L c7 ∧ Below base w0 w7 ∧ w7.ownsRow base 2 1 (.slice A7 L c7) L ((T ++ X).map (Value.int .i64)) := by
  obtain ⟨A7, c7, rfl⟩ := own_shape hown7
  have e : (T ++ X).length = T.length + X.length := List.length_append
  rw [hL, e, List.map_append]
  exact ⟨A7, c7, rfl, hbel.grown hgrow7 hbase (fun k hk => (own.lt k hk).1), hown7⟩

theorem givesB_nilR (w : World) : GivesB w [] false (.returned (.tuple #[.slice none 0 0, .bool false])) w := ⟨_, _, rfl, World.ownsRow_nil _ _ _ _, Below.refl _ _⟩
end Go.Proofs.YtjfhbofgnagfaaaDoor
