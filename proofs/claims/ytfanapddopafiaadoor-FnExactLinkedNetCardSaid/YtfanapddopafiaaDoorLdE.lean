/- Mathematics: the wires of a sequent one by one, as the model makes them. -/
import Derived.Test.YtfanapddopafiaaDoorLdD
namespace Go.Proofs.YtfanapddopafiaaDoor
set_option linter.unusedSimpArgs false
set_option linter.unusedVariables false
open Go.ChangeAt Go.ChangeShapes Go.RowKit Go.WideShapes

theorem wsQ_split {qs : List (List Int)} {k : Nat} (h : k < qs.length) : ∃ rest, wsQ qs = wsU qs k ++ (parts (qs.getD k []) ++ rest) := by
  refine ⟨(qs.drop (k + 1)).flatMap parts, ?_⟩
  rw [wsQ_eq]
  unfold wsU
  conv => lhs; rw [← List.take_append_drop k qs, List.drop_eq_getElem_cons h, List.flatMap_append, List.flatMap_cons]
  simp [List.getD, h]
/-- The wire of a symbol. -/
theorem wsQ_at {qs : List (List Int)} {k i : Nat} (h : k < qs.length) (hi : i < (qs.getD k []).length) : (wsQ qs).getD ((wsU qs k).length + i) [] = partAt (qs.getD k []) i := by
  obtain ⟨rest, e⟩ := wsQ_split h
  have hp := parts_at hi
  obtain ⟨f, hf⟩ : ∃ f, qs.getD k [] = f := ⟨_, rfl⟩
  rw [hf] at e hi hp ⊢
  have hl := parts_len f
  rw [e]
  simp only [List.getD] at hp ⊢
  rw [List.getElem?_append_right (by omega), show (wsU qs k).length + i - (wsU qs k).length = i by omega, List.getElem?_append_left (by omega)]
  exact hp
theorem wsQ_lt {qs : List (List Int)} {k i : Nat} (h : k < qs.length) (hi : i ≤ (qs.getD k []).length) : (wsU qs k).length + i ≤ (wsQ qs).length := by
  obtain ⟨rest, e⟩ := wsQ_split h
  have hl := parts_len (qs.getD k [])
  rw [e, List.length_append, List.length_append]
  omega
/-- The wires before it. -/
theorem wsQ_take {qs : List (List Int)} {k i : Nat} (h : k < qs.length) (hi : i < (qs.getD k []).length) : (wsQ qs).take ((wsU qs k).length + i + 1) = (wsQ qs).take ((wsU qs k).length + i) ++ [partAt (qs.getD k []) i] := by
  have h2 := wsQ_lt h (Nat.succ_le_of_lt hi)
  have h3 := wsQ_at h hi
  rw [List.take_succ_eq_append_getElem (show (wsU qs k).length + i < (wsQ qs).length by omega)]
  congr 2
  have : (wsQ qs)[(wsU qs k).length + i] = (wsQ qs).getD ((wsU qs k).length + i) [] := by simp [List.getD, show (wsU qs k).length + i < (wsQ qs).length by omega]
  rw [this, h3]
theorem wsU_end {qs : List (List Int)} {k : Nat} (h : k < qs.length) : (wsU qs (k + 1)).length = (wsU qs k).length + (qs.getD k []).length := by
  rw [wsU_succ h, List.length_append, parts_len]
theorem wsQ_hd {qs : List (List Int)} {k i : Nat} (hv : ∀ q ∈ qs, validB q = true) (h : k < qs.length) (hi : i < (qs.getD k []).length) : ((wsQ qs).getD ((wsU qs k).length + i) []).getD 0 0 = (qs.getD k []).getD i 0 := by
  rw [wsQ_at h hi]
  exact partAt_head (hv _ (getD_mem h)) hi
/-- A leaf more, or none. -/
theorem lf_yes {qs : List (List Int)} {k i : Nat} (hv : ∀ q ∈ qs, validB q = true) (h : k < qs.length) (hi : i < (qs.getD k []).length) (hl : leafB ((qs.getD k []).getD i 0) = true) :
    lfU (wsQ qs) ((wsU qs k).length + i + 1) = lfU (wsQ qs) ((wsU qs k).length + i) ++ [(((wsU qs k).length + i : Nat) : Int)] ∧ joU (wsQ qs) ((wsU qs k).length + i + 1) = joU (wsQ qs) ((wsU qs k).length + i) := by
  have hh : hdB (wsQ qs) ((wsU qs k).length + i) = true := by unfold hdB; rw [wsQ_hd hv h hi]; exact hl
  exact ⟨fltU_yes hh, fltU_no (by rw [hh]; rfl)⟩
/-- A formula of fragment 0 or 1: each symbol is a leaf, a tensor or a par; behind the latter something stands. -/
theorem form_sym {f : List Int} (h : formN f = true) {i : Nat} (hi : i < f.length) (hl : leafB (f.getD i 0) = false) : (f.getD i 0 = 11 ∨ f.getD i 0 = 12) ∧ i + 1 < f.length := by
  have hmem : f.getD i 0 ∈ f := by
    have : f.getD i 0 = f[i] := by simp [List.getD, hi]
    rw [this]; exact List.getElem_mem hi
  have hb := form_bits h hmem
  have hv := formN_valid h
  have hfe := fe_some hv hi
  have hlast := last_leaf h
  constructor
  · rcases sym_cases (f.getD i 0) with ⟨h1, _⟩ | ⟨_, _, hc⟩ | ⟨_, _, ha, _⟩
    · rw [hl] at h1; cases h1
    · generalize f.getD i 0 = y at *
      have hy : y = 11 ∨ y = 12 ∨ y = 13 ∨ y = 14 ∨ y = 15 ∨ y = 16 ∨ y = 17 ∨ y = 18 := by omega
      rcases hy with rfl | rfl | rfl | rfl | rfl | rfl | rfl | rfl
      · exact .inl rfl
      · exact .inr rfl
      all_goals exact absurd hb (by decide)
    · exfalso
      have hn := fe_nat (f := f) (a := i) hi
      rw [drop_cons hi, scan_bad _ _ _ ha] at hn
      omega
  · rcases Nat.lt_or_ge (i + 1) f.length with h1 | h1
    · exact h1
    · exfalso
      rw [show i = f.length - 1 by omega, hlast] at hl
      cases hl
/-- Another link more. -/
theorem jo_yes {qs : List (List Int)} {k i : Nat} (hf : ∀ q ∈ qs, formN q = true) (h : k < qs.length) (hi : i < (qs.getD k []).length) (hl : leafB ((qs.getD k []).getD i 0) = false) :
    lfU (wsQ qs) ((wsU qs k).length + i + 1) = lfU (wsQ qs) ((wsU qs k).length + i) ∧ i + 1 < (qs.getD k []).length ∧ ((qs.getD k []).getD i 0 = 11 ∨ (qs.getD k []).getD i 0 = 12) ∧
    joU (wsQ qs) ((wsU qs k).length + i + 1) = joU (wsQ qs) ((wsU qs k).length + i) ++ [⟨if (qs.getD k []).getD i 0 = 11 then 3 else 4, (((wsU qs k).length + i : Nat) : Int) + 1, (((wsU qs k).length : Nat) : Int) + fe (qs.getD k []) ((i + 1 : Nat) : Int), (((wsU qs k).length + i : Nat) : Int)⟩] := by
  have hv : ∀ q ∈ qs, validB q = true := fun q hq => formN_valid (hf q hq)
  have hvk := hv _ (getD_mem h)
  obtain ⟨hs, hi1⟩ := form_sym (hf _ (getD_mem h)) hi hl
  have hh : hdB (wsQ qs) ((wsU qs k).length + i) = false := by unfold hdB; rw [wsQ_hd hv h hi]; exact hl
  refine ⟨fltU_no hh, hi1, hs, ?_⟩
  have e := fltU_yes (p := fun i => !hdB (wsQ qs) i) (g := joL (wsQ qs)) (k := (wsU qs k).length + i) (by simp only [hh]; rfl)
  refine e.trans ?_
  show joU (wsQ qs) _ ++ _ = _
  congr 2
  unfold joL
  rw [wsQ_hd hv h hi, show (wsU qs k).length + i + 1 = (wsU qs k).length + (i + 1) by omega, wsQ_at h hi1]
  have h1 := fe_some hvk hi1
  have h2 : (partAt (qs.getD k []) (i + 1)).length = (fe (qs.getD k []) ((i + 1 : Nat) : Int)).toNat - (i + 1) := by
    unfold partAt
    rw [List.length_take, List.length_drop]
    omega
  congr 1
  rw [h2]
  omega
end Go.Proofs.YtfanapddopafiaaDoor
