/- SymbolCount: of the program and of the model. -/
import Derived.Test.YtjhagklpnpabeaaGreatDoorValid
namespace Go.Proofs.YtjhagklpnpabeaaGreatDoor
open Go.RowKit

/-- How often x stands among the first k of f. -/
def cntT (f : List Int) (x : Int) : Nat → Nat
  | 0 => 0
  | k + 1 => cntT f x k + (if f.getD k 0 = x then 1 else 0)
theorem cntT_le (f : List Int) (x : Int) : ∀ k, cntT f x k ≤ k
  | 0 => Nat.le_refl _
  | k + 1 => by have := cntT_le f x k; unfold cntT; split <;> omega
theorem cntT_succ (f : List Int) (x : Int) (k : Nat) : cntT f x (k + 1) = cntT f x k + (if f.getD k 0 = x then 1 else 0) := rfl
theorem cntT_hit {f : List Int} {x : Int} {k : Nat} (h : (f.getD k 0 == x) = true) : cntT f x (k + 1) = cntT f x k + 1 := by
  rw [cntT_succ, if_pos (by simpa using h)]
theorem cntT_miss {f : List Int} {x : Int} {k : Nat} (h : (f.getD k 0 == x) = false) : cntT f x (k + 1) = cntT f x k := by
  rw [cntT_succ, if_neg (by simpa using h)]; rfl
/-- SymbolCount. -/
def cntZ (f : List Int) (x : Int) : Int := if validB f then (cntT f x f.length : Int) else -1
theorem cntZ_yes {f : List Int} (x : Int) (h : validB f = true) : cntZ f x = (cntT f x f.length : Int) := by unfold cntZ; rw [if_pos h]
theorem cntZ_no {f : List Int} (x : Int) (h : validB f = false) : cntZ f x = -1 := by unfold cntZ; rw [if_neg (by rw [h]; decide)]

end Go.Proofs.YtjhagklpnpabeaaGreatDoor
