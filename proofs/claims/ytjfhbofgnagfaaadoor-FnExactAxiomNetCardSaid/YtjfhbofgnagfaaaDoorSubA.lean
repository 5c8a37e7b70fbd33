/- Substitution: the mathematics; the model's IsBinding, subst, SubstForm. -/
import Derived.Test.YtjfhbofgnagfaaaDoorExa
import Derived.Test.YtjfhbofgnagfaaaDoorDual
import Derived.Test.YtjfhbofgnagfaaaDoorClone
namespace Go.Proofs.YtjfhbofgnagfaaaDoor
open Go.ChangeAt Go.ChangeShapes Go.RowKit Go.WideShapes

/-- A binding. -/
def elB (q : List Int) : Bool := decide (q.length = 0) || validB q
def bndB (qs : List (List Int)) : Bool := decide (qs.length = 8) && qs.all elB
/-- The element of an atom. -/
def elt (qs : List (List Int)) (x : Int) : List Int := qs.getD (x.natAbs - 1) []
def sub1 (qs : List (List Int)) (x : Int) : List Int := if leafB x = true ∧ 0 < (elt qs x).length then (if 0 < x then elt qs x else dualL (elt qs x)) else [x]
def sbL (qs : List (List Int)) (f : List Int) : List Int := f.flatMap (sub1 qs)
def sfB (f : List Int) (qs : List (List Int)) : Bool := validB f && (bndB qs && decide ((sbL qs f).length ≤ 24))
def sfL (f : List Int) (qs : List (List Int)) : List Int := if sfB f qs = true then sbL qs f else []
theorem bnd_len {qs : List (List Int)} (h : bndB qs = true) : qs.length = 8 := by
  unfold bndB at h
  simp only [Bool.and_eq_true, decide_eq_true_eq] at h
  exact h.1
theorem bnd_at {qs : List (List Int)} (h : bndB qs = true) (k : Nat) : elB (qs.getD k []) = true := by
  unfold bndB at h
  simp only [Bool.and_eq_true, decide_eq_true_eq] at h
  by_cases hk : k < qs.length
  · exact List.all_eq_true.1 h.2 _ (getD_mem hk)
  · rw [List.getD, List.getElem?_eq_none (by omega)]; rfl
theorem bnd_bad {qs : List (List Int)} {k : Nat} (hk : k < qs.length) (hb : elB (qs.getD k []) = false) : bndB qs = false := by
  unfold bndB
  rw [List.all_eq_false.2 ⟨_, getD_mem hk, by rw [hb]; decide⟩, Bool.and_false]
theorem bnd_step {qs : List (List Int)} {k : Nat} (h : k < qs.length) (ha : (qs.take k).all elB = true) (hb : elB (qs.getD k []) = true) : (qs.take (k + 1)).all elB = true := by
  rw [← take_push h, List.all_append, ha, Bool.true_and, List.all_cons, hb]
  rfl
theorem bnd_end {qs : List (List Int)} (ha : (qs.take qs.length).all elB = true) : bndB qs = decide (qs.length = 8) := by
  rw [List.take_of_length_le (Nat.le_refl _)] at ha
  unfold bndB
  rw [ha, Bool.and_true]
theorem elB_valid {q : List Int} (h : elB q = true) (hn : 0 < q.length) : validB q = true := by
  unfold elB at h
  rw [decide_eq_false (by omega), Bool.false_or] at h
  exact h
theorem elB_len {q : List Int} (h : elB q = true) : q.length ≤ 24 := by
  by_cases hn : 0 < q.length
  · have := valid_len (elB_valid h hn); omega
  · omega
theorem elt_ok {qs : List (List Int)} (h : bndB qs = true) (x : Int) : elB (elt qs x) = true := bnd_at h _
theorem leaf_range {x : Int} (h : leafB x = true) : 1 ≤ x.natAbs ∧ x.natAbs ≤ 8 := by
  unfold leafB at h
  have := of_decide_eq_true h
  omega
theorem sub1_len {qs : List (List Int)} (h : bndB qs = true) (x : Int) : (sub1 qs x).length ≤ 24 := by
  unfold sub1
  split
  · split
    · exact elB_len (elt_ok h x)
    · exact dualL_len _
  · simp
theorem sbL_take {qs : List (List Int)} {f : List Int} {k : Nat} (h : k < f.length) : sbL qs (f.take (k + 1)) = sbL qs (f.take k) ++ sub1 qs (f.getD k 0) := by
  unfold sbL
  rw [List.take_succ_eq_append_getElem h, List.flatMap_append]
  simp [List.getD, h]
theorem sbL_len {qs : List (List Int)} (h : bndB qs = true) (f : List Int) : (sbL qs f).length ≤ 24 * f.length := by
  induction f with
  | nil => simp [sbL]
  | cons x f ih =>
    have e : sbL qs (x :: f) = sub1 qs x ++ sbL qs f := by simp [sbL]
    have := sub1_len h x
    rw [e, List.length_append, List.length_cons, Nat.mul_add]
    omega
theorem sfB_no1 {f : List Int} {qs : List (List Int)} (h : validB f = false) : sfB f qs = false := by unfold sfB; rw [h]; rfl
theorem sfB_no2 {f : List Int} {qs : List (List Int)} (h : bndB qs = false) : sfB f qs = false := by unfold sfB; rw [h, Bool.false_and, Bool.and_false]
theorem sfB_is {f : List Int} {qs : List (List Int)} (h : validB f = true) (h2 : bndB qs = true) : sfB f qs = decide ((sbL qs f).length ≤ 24) := by unfold sfB; rw [h, h2]; rfl
theorem sfL_no {f : List Int} {qs : List (List Int)} (h : sfB f qs = false) : sfL f qs = [] := by unfold sfL; rw [h]; rfl
theorem sfL_yes {f : List Int} {qs : List (List Int)} (h : sfB f qs = true) : sfL f qs = sbL qs f := by unfold sfL; rw [if_pos h]
theorem sfL_len (f : List Int) (qs : List (List Int)) : (sfL f qs).length ≤ 24 := by
  cases h : sfB f qs with
  | false => rw [sfL_no h]; simp
  | true =>
    rw [sfL_yes h]
    unfold sfB at h
    simp only [Bool.and_eq_true, decide_eq_true_eq] at h
    exact h.2.2

end Go.Proofs.YtjfhbofgnagfaaaDoor
