/- The model's insertForm, walked. -/
import Derived.Test.YtdgejhlpncnenaaDoorInsF
import Derived.Test.YtdgejhlpncnenaaDoorEqD
namespace Go.Proofs.YtdgejhlpncnenaaDoor
open Go.ChangeShapes Go.WideShapes Go.ChangeAt Go.RowKit

/-- How far the new row has come. -/
def insV (hs : Nat → Option Addr × Nat) (qs : List (List Int)) (x : Value) (i : Nat) (d : Option Nat) : List Value :=
  match d with
  | none => (rowV hs qs).take i
  | some p => (rowV hs qs).take p ++ x :: ((rowV hs qs).drop p).take (i - p)
theorem insV_push {hs : Nat → Option Addr × Nat} {qs : List (List Int)} {x : Value} {i : Nat} (hi : i < qs.length) : insV hs qs x i none ++ [hv hs qs i] = insV hs qs x (i + 1) none := by
  unfold insV
  have h : i < (rowV hs qs).length := by rw [rowV_len]; exact hi
  have e : (rowV hs qs)[i] = hv hs qs i := by have := rowV_at (hs := hs) hi; rw [List.getElem?_eq_getElem h] at this; exact Option.some.inj this
  show (rowV hs qs).take i ++ [hv hs qs i] = (rowV hs qs).take (i + 1)
  rw [List.take_succ_eq_append_getElem h, e]
theorem insV_new {hs : Nat → Option Addr × Nat} {qs : List (List Int)} {x : Value} {i : Nat} : insV hs qs x i none ++ [x] = insV hs qs x i (some i) := by
  simp [insV]
theorem insV_more {hs : Nat → Option Addr × Nat} {qs : List (List Int)} {x : Value} {i p : Nat} (hi : i < qs.length) (hp : p ≤ i) : insV hs qs x i (some p) ++ [hv hs qs i] = insV hs qs x (i + 1) (some p) := by
  have h : i - p < ((rowV hs qs).drop p).length := by rw [List.length_drop, rowV_len]; omega
  have e : ((rowV hs qs).drop p)[i - p] = hv hs qs i := by
    have h2 : (rowV hs qs)[i]? = some (hv hs qs i) := rowV_at hi
    have h3 : ((rowV hs qs).drop p)[i - p]? = some (hv hs qs i) := by rw [List.getElem?_drop, show p + (i - p) = i by omega]; exact h2
    rw [List.getElem?_eq_getElem h] at h3; exact Option.some.inj h3
  have e2 : i + 1 - p = (i - p) + 1 := by omega
  show ((rowV hs qs).take p ++ x :: ((rowV hs qs).drop p).take (i - p)) ++ [hv hs qs i] = (rowV hs qs).take p ++ x :: ((rowV hs qs).drop p).take (i + 1 - p)
  rw [e2, List.take_succ_eq_append_getElem h, e]
  simp
theorem insV_end {hs : Nat → Option Addr × Nat} {qs : List (List Int)} {x : Value} {p : Nat} (_hp : p ≤ qs.length) : insV hs qs x qs.length (some p) = (rowV hs qs).take p ++ x :: (rowV hs qs).drop p := by
  have e : ((rowV hs qs).drop p).take (qs.length - p) = (rowV hs qs).drop p := List.take_of_length_le (by rw [List.length_drop, rowV_len]; omega)
  show (rowV hs qs).take p ++ x :: ((rowV hs qs).drop p).take (qs.length - p) = _
  rw [e]

/-- The place of the new part, and what is known of it. -/
def InsAt (qs : List (List Int)) (q : List Int) (i : Nat) (d : Option Nat) : Prop :=
  match d with
  | none => ∀ j, j < i → q ≠ qs.getD j [] ∧ ¬ cmpL q (qs.getD j []) < 0
  | some p => p < qs.length ∧ p ≤ i ∧ (∀ j, j < p → q ≠ qs.getD j [] ∧ ¬ cmpL q (qs.getD j []) < 0) ∧ q ≠ qs.getD p [] ∧ cmpL q (qs.getD p []) < 0
theorem InsAt.ne {qs : List (List Int)} {q : List Int} {i p : Nat} (h : InsAt qs q i (some p)) (hs : SoS qs) (hi : i < qs.length) : q ≠ qs.getD i [] := by
  obtain ⟨_, h2, _, h4, h5⟩ := h
  by_cases e : p = i
  · subst e; exact h4
  · intro e'
    have h6 := sos_get hs (show p < i by omega) hi
    have h7 := cmpL_trans h5 h6
    rw [← e'] at h7
    have : cmpL q q = 0 := cmpL_zero.2 rfl
    omega
theorem ret_len {A : Option Addr} {n m c : Nat} (h : n = m) : Ending.returned (.slice A n c) = .returned (.slice A m c) := by rw [h]
/-- What insertForm leaves. -/
def InsGives (w : World) (lo : Nat) (R : List (List Int)) (e : Ending) (w' : World) : Prop :=
  ∃ hs A c, e = .returned (.slice A R.length c) ∧ OwnQ w' lo w'.heap.size (.slice A R.length c) hs R ∧ Below w.heap.size w w'

end Go.Proofs.YtdgejhlpncnenaaDoor
