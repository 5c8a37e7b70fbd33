/- SeqText of the program and of the model. -/
import Derived.Test.YtjgmgaccmcepdaaGreatDoorSeqV
import Derived.Test.YtjgmgaccmcepdaaGreatDoorText

namespace Go.Proofs.YtjgmgaccmcepdaaGreatDoor
open Go.ChangeShapes Go.WideShapes Go.ChangeAt Go.RowKit

/-- The texts behind the first, each behind a comma and a space. -/
noncomputable def tailT : List (List Int) → List Int
  | [] => []
  | q :: qs => [44, 32] ++ (textL q ++ tailT qs)
/-- The text of a list of formulas. -/
noncomputable def seqL : List (List Int) → List Int
  | [] => []
  | q :: qs => textL q ++ tailT qs
theorem tailT_app (xs : List (List Int)) (q : List Int) : tailT (xs ++ [q]) = tailT xs ++ ([44, 32] ++ textL q) := by
  induction xs with
  | nil => simp [tailT]
  | cons x xs ih => rw [List.cons_append, tailT, tailT, ih]; simp
theorem seqL_one (q : List Int) : seqL [q] = textL q := by simp [seqL, tailT]
theorem seqL_app {xs : List (List Int)} (h : xs ≠ []) (q : List Int) : seqL (xs ++ [q]) = (seqL xs ++ [44, 32]) ++ textL q := by
  cases xs with
  | nil => exact absurd rfl h
  | cons x xs => rw [List.cons_append, seqL, seqL, tailT_app]; simp
theorem tailT_len (xs : List (List Int)) : (tailT xs).length ≤ 73 * xs.length := by
  induction xs with
  | nil => simp [tailT]
  | cons x xs ih =>
    have := textL_len x
    simp only [tailT, List.length_append, List.length_cons, List.length_nil]
    omega
theorem seqL_len (xs : List (List Int)) : (seqL xs).length ≤ 73 * xs.length := by
  cases xs with
  | nil => simp [seqL]
  | cons x xs =>
    have := textL_len x
    have := tailT_len xs
    simp only [seqL, List.length_append, List.length_cons]
    omega
/-- The text of a sequent. -/
noncomputable def seqT (qs : List (List Int)) : ByteArray := if validQ qs = true then mkB (seqL qs) else ⟨#[]⟩
theorem seqT_no {qs : List (List Int)} (h : validQ qs = false) : seqT qs = ⟨#[]⟩ := by unfold seqT; rw [h]; rfl
theorem seqT_yes {qs : List (List Int)} (h : validQ qs = true) : seqT qs = mkB (seqL qs) := by unfold seqT; rw [if_pos h]
theorem str_eq {a b : ByteArray} (h : a = b) : Value.string a = .string b := by rw [h]
theorem mkB_nil : mkB [] = ⟨#[]⟩ := rfl
theorem take_getD {qs : List (List Int)} {k : Nat} (h : k < qs.length) : qs.take k ++ [qs.getD k []] = qs.take (k + 1) := by
  rw [List.take_succ_eq_append_getElem h]
  simp [List.getD, h]
theorem seqL_take {qs : List (List Int)} {k : Nat} (hk : k < qs.length) (h0 : 0 < k) : seqL (qs.take (k + 1)) = (seqL (qs.take k) ++ [44, 32]) ++ textL (qs.getD k []) := by
  rw [← take_getD hk, seqL_app (fun e => by have h1 := congrArg List.length e; rw [List.length_take, List.length_nil] at h1; omega)]

end Go.Proofs.YtjgmgaccmcepdaaGreatDoor
