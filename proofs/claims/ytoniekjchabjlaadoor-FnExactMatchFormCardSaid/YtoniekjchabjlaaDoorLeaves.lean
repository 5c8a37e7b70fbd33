/- LeavesOf: of the program and of the model. -/
import Derived.Test.YtoniekjchabjlaaDoorDual
namespace Go.Proofs.YtoniekjchabjlaaDoor
open Go.RowKit

/-- The leaves among the first k symbols. -/
def flt (f : List Int) (k : Nat) : List Int := (f.take k).filter leafB
theorem flt_zero (f : List Int) : flt f 0 = [] := by simp [flt]
theorem flt_yes {f : List Int} {k : Nat} (hk : k < f.length) (h : leafB (f.getD k 0) = true) : flt f (k + 1) = flt f k ++ [f.getD k 0] := by
  unfold flt
  have e : f.getD k 0 = f[k] := by simp [List.getD, hk]
  have e2 : List.filter leafB [f.getD k 0] = [f.getD k 0] := by rw [List.filter_cons, if_pos h]; rfl
  rw [List.take_succ_eq_append_getElem hk, List.filter_append, ← e, e2]
theorem flt_no {f : List Int} {k : Nat} (hk : k < f.length) (h : leafB (f.getD k 0) = false) : flt f (k + 1) = flt f k := by
  unfold flt
  have e : f.getD k 0 = f[k] := by simp [List.getD, hk]
  have e2 : List.filter leafB [f.getD k 0] = [] := by rw [List.filter_cons, if_neg (by rw [h]; decide)]; rfl
  rw [List.take_succ_eq_append_getElem hk, List.filter_append, ← e, e2, List.append_nil]
theorem flt_len (f : List Int) (k : Nat) : (flt f k).length ≤ k := by
  unfold flt; exact Nat.le_trans (List.length_filter_le _ _) (List.length_take_le _ _)
theorem flt_all (f : List Int) : flt f f.length = f.filter leafB := by simp [flt]
/-- LeavesOf. -/
def leavesL (f : List Int) : List Int := if validB f then f.filter leafB else []
theorem leavesL_yes {f : List Int} (h : validB f = true) : leavesL f = flt f f.length := by simp [leavesL, h, flt_all]
theorem leavesL_no {f : List Int} (h : validB f = false) : leavesL f = [] := by simp [leavesL, h]
theorem leavesL_len (f : List Int) : (leavesL f).length ≤ 24 := by
  cases h : validB f with
  | true => rw [leavesL_yes h]; exact Nat.le_trans (flt_len _ _) (valid_len h).2.1
  | false => rw [leavesL_no h]; simp

theorem own_form {w : World} {base n : Nat} {e : TypeId} {v : Value} {xs : List Value} (h : w.ownsRow base e 1 v n xs) : ∃ A c, v = .slice A n c := by
  rcases h.2 with ⟨rfl, rfl⟩ | ⟨g, cap, cur, rfl, _⟩
  · exact ⟨_, _, rfl⟩
  · exact ⟨_, _, rfl⟩

theorem flt_push {w : World} {base : Nat} {v : Value} {f : List Int} {k : Nat} {x : Int} (hk : k < f.length) (hx : f.getD k 0 = x) (h : leafB x = true) (hown : w.ownsRow base 2 1 v ((flt f k).length + 1) ((flt f k).map (Value.int .i64) ++ [.int .i64 x])) :
    w.ownsRow base 2 1 v (flt f (k + 1)).length ((flt f (k + 1)).map (Value.int .i64)) := by
  subst hx
  rw [flt_yes hk h, List.length_append, List.map_append]
  exact hown

end Go.Proofs.YtoniekjchabjlaaDoor
