/- Mathematics: the net of a sequent and mates: the leaves among its wires, its axioms, its other links. -/
import Derived.Test.YtfanapddopafiaaDoorMtM
import Derived.Test.YtfanapddopafiaaDoorAtM
namespace Go.Proofs.YtfanapddopafiaaDoor
set_option linter.unusedSimpArgs false
set_option linter.unusedVariables false
open Go.ChangeAt Go.ChangeShapes Go.RowKit Go.WideShapes

/-- What is made of the numbers below k with a property. -/
def fltU {α : Type} (p : Nat → Bool) (g : Nat → α) (k : Nat) : List α := ((List.range k).filter p).map g
theorem fltU_zero {α : Type} (p : Nat → Bool) (g : Nat → α) : fltU p g 0 = [] := rfl
theorem fltU_yes {α : Type} {p : Nat → Bool} {g : Nat → α} {k : Nat} (h : p k = true) : fltU p g (k + 1) = fltU p g k ++ [g k] := by
  unfold fltU; rw [List.range_succ, List.filter_append, List.map_append]
  simp [List.filter_cons, h]
theorem fltU_no {α : Type} {p : Nat → Bool} {g : Nat → α} {k : Nat} (h : p k = false) : fltU p g (k + 1) = fltU p g k := by
  unfold fltU; rw [List.range_succ, List.filter_append, List.map_append]
  simp [List.filter_cons, h]
theorem fltU_len {α : Type} (p : Nat → Bool) (g : Nat → α) (k : Nat) : (fltU p g k).length ≤ k := by
  unfold fltU
  rw [List.length_map]
  exact Nat.le_trans (List.length_filter_le _ _) (by simp)
/-- A wire's formula is a leaf. -/
def hdB (ws : List (List Int)) (i : Nat) : Bool := leafB ((ws.getD i []).getD 0 0)
/-- The wires of the leaves. -/
def lfU (ws : List (List Int)) (k : Nat) : List Int := fltU (hdB ws) (fun i => (i : Int)) k
def lfW (ws : List (List Int)) : List Int := lfU ws ws.length
/-- The axioms between leaves and their mates. -/
def axL (L M : List Int) (i : Nat) : Lk := ⟨1, L.getD i 0, L.getD (M.getD i 0).toNat 0, 0⟩
def axU (L M : List Int) (k : Nat) : List Lk := fltU (fun i => decide ((i : Int) < M.getD i 0)) (axL L M) k
def axW (L M : List Int) : List Lk := axU L M M.length
/-- The other links. -/
def joL (ws : List (List Int)) (i : Nat) : Lk := ⟨if (ws.getD i []).getD 0 0 = 11 then 3 else 4, (i : Int) + 1, (i : Int) + 1 + ((ws.getD (i + 1) []).length : Nat), (i : Int)⟩
def joU (ws : List (List Int)) (k : Nat) : List Lk := fltU (fun i => !hdB ws i) (joL ws) k
def joW (ws : List (List Int)) : List Lk := joU ws ws.length
/-- What a function leaves that hands back a row of links. -/
def GivesL (w : World) (ls : List Lk) (e : Ending) (w' : World) : Prop :=
  ∃ A c, e = .returned (.slice A ls.length c) ∧ w'.ownsRow w.heap.size 71 4 (.slice A ls.length c) ls.length ((flL ls).map (Value.int .i64)) ∧ Below w.heap.size w w'
end Go.Proofs.YtfanapddopafiaaDoor
