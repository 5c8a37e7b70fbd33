/- Mathematics: the net of a sequent and mates: its wires, its conclusions, its links. -/
import Derived.Test.YtfanapddopafiaaDoorLdM
import Derived.Test.YtfanapddopafiaaDoorFwT
namespace Go.Proofs.YtfanapddopafiaaDoor
set_option linter.unusedSimpArgs false
set_option linter.unusedVariables false
open Go.ChangeAt Go.ChangeShapes Go.RowKit Go.WideShapes

/-- The wires of the first k formulas. -/
def wsU (qs : List (List Int)) (k : Nat) : List (List Int) := (qs.take k).flatMap parts
def wsQ (qs : List (List Int)) : List (List Int) := wsU qs qs.length
theorem wsU_zero (qs : List (List Int)) : wsU qs 0 = [] := rfl
theorem wsU_succ {qs : List (List Int)} {k : Nat} (h : k < qs.length) : wsU qs (k + 1) = wsU qs k ++ parts (qs.getD k []) := by
  unfold wsU
  rw [List.take_succ_eq_append_getElem h, List.flatMap_append]
  simp [List.getD, h]
/-- Their conclusions. -/
def csU (qs : List (List Int)) (k : Nat) : List Int := (List.range k).map fun j => ((wsU qs j).length : Int)
theorem csU_zero (qs : List (List Int)) : csU qs 0 = [] := rfl
theorem csU_succ (qs : List (List Int)) (k : Nat) : csU qs (k + 1) = csU qs k ++ [((wsU qs k).length : Int)] := by
  unfold csU; rw [List.range_succ, List.map_append]; rfl
theorem csU_len (qs : List (List Int)) (k : Nat) : (csU qs k).length = k := by simp [csU]
theorem wsU_len {qs : List (List Int)} : ∀ {k : Nat}, k ≤ qs.length → (wsU qs k).length = total (qs.take k)
  | 0, _ => by simp [wsU, total]
  | k + 1, h => by rw [wsU_succ (by omega), List.length_append, parts_len, wsU_len (k := k) (by omega), total_take (by omega)]
/-- The net. -/
def ldN (qs : List (List Int)) (M : List Int) : Nt := ⟨wsQ qs, axW (lfW (wsQ qs)) M ++ joW (wsQ qs), csU qs qs.length⟩
def ldB (qs : List (List Int)) (M : List Int) : Bool := imB qs M && valN (ldN qs M)
def ldV (qs : List (List Int)) (M : List Int) : Nt := if ldB qs M then ldN qs M else Nt.nil

theorem partAt_head {f : List Int} (hv : validB f = true) {j : Nat} (h : j < f.length) : (partAt f j).getD 0 0 = f.getD j 0 := by
  obtain ⟨h1, h2⟩ := partAt_len hv h
  unfold partAt at h1 ⊢
  rw [List.length_take] at h1
  simp only [List.getD]
  rw [List.getElem?_take_of_lt (by omega), List.getElem?_drop]
  simp
theorem parts_heads {f : List Int} (hv : validB f = true) : (parts f).map (fun q => q.getD 0 0) = f := by
  apply List.ext_getElem?
  intro i
  by_cases h : i < f.length
  · have e := partAt_head hv h
    simp only [List.getElem?_map, parts, List.getElem?_range h, Option.map_some]
    rw [e]
    simp [List.getD, h]
  · rw [List.getElem?_eq_none (by simp [parts_len]; omega), List.getElem?_eq_none (by omega)]
/-- The wires' first symbols are the formulas' symbols. -/
theorem heads_is {qs : List (List Int)} (hv : ∀ q ∈ qs, validB q = true) : (qs.flatMap parts).map (fun q => q.getD 0 0) = qs.flatten := by
  induction qs with
  | nil => rfl
  | cons q qs ih =>
    rw [List.flatMap_cons, List.map_append, parts_heads (hv q (by simp)), ih (fun x hx => hv x (by simp [hx])), List.flatten_cons]
theorem wsQ_eq (qs : List (List Int)) : wsQ qs = qs.flatMap parts := by unfold wsQ wsU; rw [List.take_length]
theorem wsQ_flen {qs : List (List Int)} (hv : ∀ q ∈ qs, validB q = true) : (wsQ qs).length = qs.flatten.length := by
  rw [wsQ_eq, ← heads_is hv, List.length_map]
theorem wsQ_head {qs : List (List Int)} (hv : ∀ q ∈ qs, validB q = true) (k : Nat) : ((wsQ qs).getD k []).getD 0 0 = qs.flatten.getD k 0 := by
  rw [← heads_is hv, ← wsQ_eq]
  by_cases h : k < (wsQ qs).length
  · simp [List.getD, h]
  · simp [List.getD, h]
theorem lfW_flen (ws : List (List Int)) : (lfW ws).length = ((ws.map fun q => q.getD 0 0).filter leafB).length := by
  unfold lfW lfU fltU
  rw [List.length_map, List.filter_map, List.length_map]
  have e : (List.range ws.length).map (fun i => ws.getD i []) = ws := by
    apply List.ext_getElem?
    intro i
    by_cases h : i < ws.length
    · simp [h, List.getD]
    · rw [List.getElem?_eq_none (by simp; omega), List.getElem?_eq_none (by omega)]
  conv => rhs; rw [← e]
  rw [List.filter_map, List.length_map]
  rfl
theorem lvQ_flat {qs : List (List Int)} (hv : ∀ q ∈ qs, validB q = true) : lvQ qs = qs.flatten.filter leafB := by
  unfold lvQ lvK
  rw [List.take_length]
  induction qs with
  | nil => rfl
  | cons q qs ih =>
    rw [List.flatMap_cons, ih (fun x hx => hv x (by simp [hx])), List.flatten_cons, List.filter_append]
    unfold leavesL
    rw [hv q (by simp), if_pos rfl]
theorem lfW_lv {qs : List (List Int)} (hv : ∀ q ∈ qs, validB q = true) : (lfW (wsQ qs)).length = (lvQ qs).length := by
  rw [lfW_flen, wsQ_eq, heads_is hv, lvQ_flat hv]

/-- The last symbol of a formula of fragment 0 or 1 is a leaf. -/
theorem last_leaf {f : List Int} (h : formN f = true) : leafB (f.getD (f.length - 1) 0) = true := by
  have hv := formN_valid h
  obtain ⟨h1, h24, _⟩ := valid_len hv
  have hk : f.length - 1 < f.length := by omega
  have hs := fe_some hv hk
  have hn := fe_nat (f := f) (a := f.length - 1) hk
  rw [drop_cons hk, show f.length - 1 + 1 = f.length by omega, List.drop_length] at hn
  have hmem : f.getD (f.length - 1) 0 ∈ f := by
    have : f.getD (f.length - 1) 0 = f[f.length - 1] := by simp [List.getD, hk]
    rw [this]; exact List.getElem_mem hk
  have hb := form_bits h hmem
  generalize f.getD (f.length - 1) 0 = y at *
  have hz : arZ y = 0 := by
    by_cases hm : arZ y = -1
    · rw [scan_bad [] 1 _ hm] at hn; omega
    · by_cases hz : arZ y = 0
      · exact hz
      · exfalso
        have := arZ_lo y
        rw [scan_on [] 1 _ (by omega) (by omega)] at hn
        rw [show scan [] (1 + arZ y - 1) (((f.length - 1 : Nat) : Int) + 1) = -1 from rfl] at hn
        omega
  rcases sym_cases y with ⟨hl, _⟩ | ⟨_, _, hc⟩ | ⟨_, _, ha, _⟩
  · exact hl
  · exfalso
    have : y = 13 ∨ y = 14 := by omega
    rcases this with rfl | rfl <;> exact absurd hb (by decide)
  · omega
theorem flat_last {qs : List (List Int)} (hf : ∀ q ∈ qs, formN q = true) (h0 : 0 < qs.flatten.length) : leafB (qs.flatten.getD (qs.flatten.length - 1) 0) = true := by
  rcases List.eq_nil_or_concat qs with rfl | ⟨init, f, rfl⟩
  · simp at h0
  · have hff := hf f (by simp)
    have h1 := (valid_len (formN_valid hff)).1
    have hl := last_leaf hff
    have e : (init ++ [f]).flatten = init.flatten ++ f := by simp
    simp only [List.concat_eq_append] at *
    rw [e, List.length_append]
    have e2 : (init.flatten ++ f).getD (init.flatten.length + f.length - 1) 0 = f.getD (f.length - 1) 0 := by
      simp only [List.getD]
      rw [List.getElem?_append_right (by omega), show init.flatten.length + f.length - 1 - init.flatten.length = f.length - 1 by omega]
    rw [e2]; exact hl

/-- What the program's functions ask of mates. -/
structure LdOk (qs : List (List Int)) (M : List Int) : Prop where
  n : qs.length ≤ 10
  v : ∀ q ∈ qs, validB q = true
  f : ∀ q ∈ qs, formN q = true
  w : (wsQ qs).length ≤ 60
  t : ∀ k, k ≤ qs.length → (wsU qs k).length ≤ 60
  m : M.length = (lfW (wsQ qs)).length
  i : ∀ j, j < M.length → inW (lfW (wsQ qs)).length (M.getD j 0) = true
  p : ∀ k, k < (wsQ qs).length → 0 < ((wsQ qs).getD k []).length
  x : ∀ k, k < (wsQ qs).length → hdB (wsQ qs) k = false → k + 1 < (wsQ qs).length
  g : ∀ k, ((wsQ qs).getD k []).length ≤ 24
  l : (lfW (wsQ qs)).length ≤ 60
theorem ld_ok {qs : List (List Int)} {M : List Int} (h : imB qs M = true) : LdOk qs M := by
  have hq : validQ qs = true := by
    cases hq : validQ qs with
    | true => rfl
    | false => rw [imB_no hq] at h; cases h
  unfold imB at h
  rw [hq, Bool.true_and, Bool.and_eq_true, List.all_eq_true] at h
  obtain ⟨hf, hm⟩ := h
  have hv : ∀ q ∈ qs, validB q = true := fun q hq => formN_valid (hf q hq)
  unfold validQ at hq
  rw [Bool.and_eq_true, Bool.and_eq_true] at hq
  have h10 := of_decide_eq_true hq.1
  have h60 := of_decide_eq_true hq.2.2
  obtain ⟨hml, hma⟩ := matesB_at hm
  have hll := lfW_lv hv
  have ht : ∀ k, k ≤ qs.length → (wsU qs k).length ≤ 60 := fun k hk => by
    rw [wsU_len hk]
    by_cases hk2 : k < qs.length
    · have := total_le hk2; omega
    · rw [total_all qs (by omega)]; exact h60
  have hmem : ∀ x ∈ wsQ qs, 0 < x.length ∧ x.length ≤ 24 := fun x hx => by
    rw [wsQ_eq] at hx
    obtain ⟨q, hq, hx⟩ := List.mem_flatMap.1 hx
    obtain ⟨j, hj, rfl⟩ := List.mem_map.1 hx
    exact partAt_len (hv q hq) (List.mem_range.1 hj)
  refine ⟨h10, hv, hf, ht _ (Nat.le_refl _), ht, by omega, fun j hj => ?_, fun k hk => (hmem _ (getD_mem hk)).1, fun k hk hh => ?_, fun k => ?_, ?_⟩
  · have := hma j hj
    unfold mt1 at this
    rw [Bool.and_eq_true] at this
    rw [← show M.length = (lfW (wsQ qs)).length by omega]
    exact this.1
  · rcases Nat.lt_or_ge (k + 1) (wsQ qs).length with h1 | h1
    · exact h1
    · exfalso
      have hfl := wsQ_flen hv
      have := flat_last hf (by omega)
      unfold hdB at hh
      rw [wsQ_head hv, show k = qs.flatten.length - 1 by omega, this] at hh
      cases hh
  · by_cases hk : k < (wsQ qs).length
    · exact (hmem _ (getD_mem hk)).2
    · simp [List.getD, hk]
  · have h1 : (lfW (wsQ qs)).length ≤ (wsQ qs).length := fltU_len _ _ _
    have := ht _ (Nat.le_refl _)
    unfold wsQ at h1 ⊢
    omega
theorem axW_len (L M : List Int) : (axW L M).length ≤ M.length := fltU_len _ _ _
theorem joW_len (ws : List (List Int)) : (joW ws).length ≤ ws.length := fltU_len _ _ _
theorem total_smallW {qs : List (List Int)} (h : ∀ q ∈ qs, q.length ≤ 24) : total qs ≤ 24 * qs.length := by
  induction qs with
  | nil => simp [total]
  | cons x xs ih =>
    have h1 := h x (by simp)
    have h2 := ih fun q hq => h q (by simp [hq])
    have e : total (x :: xs) = x.length + total xs := by simp [total]
    rw [e, List.length_cons]
    omega
theorem ld_small {qs : List (List Int)} {M : List Int} (h : LdOk qs M) : SmallN (ldN qs M) := by
  have h1 := axW_len (lfW (wsQ qs)) M
  have h2 := joW_len (wsQ qs)
  have h3 := h.w; have h4 := h.l; have h5 := h.m; have h6 := h.n
  refine ⟨?_, ?_, ?_, ?_⟩
  · show (wsQ qs).length ≤ _; omega
  · show total (wsQ qs) ≤ _
    have := total_smallW (qs := wsQ qs) fun x hx => by
      obtain ⟨j, hj, rfl⟩ := List.getElem_of_mem hx
      have := h.g j
      simpa [List.getD, hj] using this
    omega
  · show (axW (lfW (wsQ qs)) M ++ joW (wsQ qs)).length ≤ _
    rw [List.length_append]; omega
  · show (csU qs qs.length).length ≤ _
    rw [csU_len]; omega
end Go.Proofs.YtfanapddopafiaaDoor
