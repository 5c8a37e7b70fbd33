/- Mathematics for FnSubforms: the parts of a formula are formulas, the first operand is one of them, and the formula itself is the last. -/
import Derived.Test.YtdgejhlpncnenaaDoorSubS
import Derived.Test.YtdgejhlpncnenaaDoorPartsM
import Derived.Test.YtdgejhlpncnenaaDoorAny
namespace Go.Proofs.YtdgejhlpncnenaaDoor
open Go.ChangeShapes Go.WideShapes Go.ChangeAt Go.RowKit

theorem part_valid {f : List Int} (hv : validB f = true) {k : Nat} (hk : k < f.length) : validB (partAt f k) = true := by
  have h1 := fe_some hv hk
  have h2 := valid_len hv
  have h3 := seg_valid (f := f) (s := k) (e := (fe f k).toNat) (by omega) (by omega) (by omega) h2.2.1
  exact h3
theorem insK_iff (f : List Int) : ∀ (k : Nat) (z : List Int), z ∈ insK f k ↔ ∃ j, j < k ∧ z = partAt f j
  | 0, z => by simp [insK]
  | k + 1, z => by
    rw [insK_step, insL_mem, insK_iff f k z]
    constructor
    · rintro (h | ⟨j, h1, h2⟩)
      · exact ⟨k, by omega, h⟩
      · exact ⟨j, by omega, h2⟩
    · rintro ⟨j, h1, h2⟩
      by_cases e : j = k
      · subst e; exact .inl h2
      · exact .inr ⟨j, by omega, h2⟩
theorem subL_iff {f : List Int} (hv : validB f = true) (z : List Int) : z ∈ subL f ↔ ∃ j, j < f.length ∧ z = partAt f j := by
  rw [subL_yes hv]; exact insK_iff f _ z
theorem part_zero {f : List Int} (hv : validB f = true) : partAt f 0 = f := by
  have h := (valid_len hv).2.2
  unfold partAt
  rw [show fe f ((0 : Nat) : Int) = f.length from h]
  simp
theorem cmpL_long {a b : List Int} (h : b.length < a.length) : cmpL a b = 1 := by
  have e : cmZ (a.length : Int) b.length = 1 := by
    rcases cmZ_cases (a.length : Int) b.length with h1 | h1 | h1 <;> omega
  unfold cmpL
  rw [e, if_neg (by decide)]
theorem sub_in {f : List Int} (hv : validB f = true) : 0 < (subL f).length := by
  have h := valid_len hv
  have : f ∈ subL f := (subL_iff hv f).2 ⟨0, by omega, (part_zero hv).symm⟩
  exact List.length_pos_of_mem this
theorem getD_at {qs : List (List Int)} {i : Nat} (h : i < qs.length) : qs.getD i [] ∈ qs := by simp [List.getD, h]
theorem sub_last {f : List Int} (hv : validB f = true) : (subL f).getD ((subL f).length - 1) [] = f := by
  have h0 := sub_in hv
  have hs : SoS (subL f) := by rw [subL_yes hv]; exact insK_sos f _
  have h := valid_len hv
  have hm : f ∈ subL f := (subL_iff hv f).2 ⟨0, by omega, (part_zero hv).symm⟩
  obtain ⟨i, hi, he⟩ := List.getElem_of_mem hm
  have hg : (subL f).getD i [] = f := by simp [List.getD, hi, he]
  by_cases e : i = (subL f).length - 1
  · rw [← e]; exact hg
  · exfalso
    have hl := sos_get hs (i := i) (j := (subL f).length - 1) (by omega) (by omega)
    rw [hg] at hl
    obtain ⟨j, hj, hz⟩ := (subL_iff hv _).1 (getD_at (qs := subL f) (i := (subL f).length - 1) (by omega))
    rw [hz] at hl
    by_cases j0 : j = 0
    · subst j0
      rw [part_zero hv] at hl
      have := cmpL_neg f f
      omega
    · have : (partAt f j).length < f.length := by
        unfold partAt; rw [List.length_take, List.length_drop]; omega
      rw [cmpL_long this] at hl
      omega
theorem sub_valid {f : List Int} (hv : validB f = true) {i : Nat} (hi : i < (subL f).length) : validB ((subL f).getD i []) = true := by
  obtain ⟨j, hj, hz⟩ := (subL_iff hv _).1 (getD_at hi)
  rw [hz]; exact part_valid hv hj
theorem sub_before {f : List Int} (hv : validB f = true) {i : Nat} (h0 : 1 ≤ i) (hi : i < (subL f).length) : befB ((subL f).getD (i - 1) []) ((subL f).getD i []) = true := by
  have hs : SoS (subL f) := by rw [subL_yes hv]; exact insK_sos f _
  have hl := sos_get hs (i := i - 1) (j := i) (by omega) hi
  unfold befB
  rw [sub_valid hv (by omega), sub_valid hv hi, decide_eq_true hl]
  rfl
theorem opnd_part {f : List Int} (h : opndB f 0 = true) : opndL f 0 = partAt f 1 ∧ 1 < f.length := by
  obtain ⟨_, h2, h3, _, _⟩ := opnd_in h
  have hS : opS f 0 = 1 := by simp [opS]
  rw [hS] at h2
  refine ⟨?_, by omega⟩
  rw [opndL_yes h]
  unfold opE partAt
  rw [hS]
theorem opnd_at {f : List Int} (hv : validB f = true) (h : opndB f 0 = true) : ∃ i, i < (subL f).length ∧ (subL f).getD i [] = opndL f 0 := by
  obtain ⟨h1, h2⟩ := opnd_part h
  have hm : opndL f 0 ∈ subL f := (subL_iff hv _).2 ⟨1, h2, h1⟩
  obtain ⟨i, hi, he⟩ := List.getElem_of_mem hm
  exact ⟨i, hi, by simp [List.getD, hi, he]⟩

set_option maxHeartbeats 400000 in
theorem drawSub_any (A : Option Addr) (n c : Nat) (code : List Int) (w : World) (h : RdB w w.heap.size A n code) (hn : n ≤ 4096) :
    Calls Tryd.prog 9 #[.slice A n c] w (DrawnFrom w) := by
  go_enter Tryd.func9, Tryd.ntmps9
  go_wp2_with (fail)
  refine (fromCode_any A n c code w h hn).mono ?_
  rintro e w1 ⟨rfl, S1, B1⟩
  go_wp2_with (fail)
  refine (drawAny_any _ n c A code w1 S1).mono ?_
  intro e w2 hD
  obtain ⟨L, A', c', rfl, hrest⟩ := drawnFrom_of B1 hD
  have HR := Lib.hid hrest
  clear hD hrest S1 B1
  go_wp2
  go_ret
  exact ⟨L, A', c', rfl, HR.out⟩
end Go.Proofs.YtdgejhlpncnenaaDoor
