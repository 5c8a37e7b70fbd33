/- The words of the links. -/
import Derived.Test.YtfanapddopafiaaDoorDecB
namespace Go.Proofs.YtfanapddopafiaaDoor
set_option linter.unusedSimpArgs false
set_option linter.unusedVariables false
open Go.ChangeAt Go.ChangeShapes Go.RowKit Go.WideShapes

def lwTab : List (List UInt8) := [[], [97, 120], [99, 117, 116], [116, 101, 110, 115, 111, 114], [112, 97, 114]]
def lwB (k : Nat) : ByteArray := ⟨(lwTab.getD k []).toArray⟩
/-- The world holds the words of the links. -/
def LWords (w : World) : Prop := ∀ k, k < 5 → w.cell? ⟨0, k, none⟩ = some (.string (lwB k))
theorem LWords.lt {w : World} (h : LWords w) : 0 < w.heap.size := World.block_lt_of_cell? w _ (h 0 (by omega))
theorem LWords.below {w w' : World} {B : Nat} (h : LWords w) (hb : Below B w w') (hB : 0 < B) : LWords w' := fun k hk => (hb.cell hB).trans (h k hk)
theorem lwB_len (k : Nat) : (lwB k).size ≤ 6 := by
  unfold lwB
  rcases k with _ | _ | _ | _ | _ | k <;> simp [lwTab, ByteArray.size]
end Go.Proofs.YtfanapddopafiaaDoor
