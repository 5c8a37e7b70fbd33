/- OperatorOf: of the program and of the model. -/
import Derived.Test.YtgblfcalbikgfaaDoorValid
namespace Go.Proofs.YtgblfcalbikgfaaDoor
open Go.RowKit

/-- OperatorOf. -/
def opOf (f : List Int) : Int := if validB f then (if leafB (f.getD 0 0) then 0 else f.getD 0 0) else -1
theorem opOf_no {f : List Int} (h : validB f = false) : opOf f = -1 := by simp [opOf, h]
theorem opOf_leaf {f : List Int} (h : validB f = true) (hl : leafB (f.getD 0 0) = true) : opOf f = 0 := by simp only [opOf, h, hl, if_true]
theorem opOf_op {f : List Int} (h : validB f = true) (hl : leafB (f.getD 0 0) = false) : opOf f = f.getD 0 0 := by simp only [opOf, h, hl, if_true]; rfl

set_option maxHeartbeats 400000 in
theorem operatorOf_impl (A : Option Addr) (n c : Nat) (f : List Int) (w : World) (h : RdI w w.heap.size A n f) (ht : Arit w) (hnc : n ≤ c) :
    Calls Tryd.prog 25 #[.slice A n c] w fun e w' => e = .returned (.int .i64 (opOf f)) ∧ w = w' := by
  have hl := h.len
  subst hl
  cases hv : validB f with
  | false =>
    rw [opOf_no hv]
    go_enter Tryd.func25, Tryd.ntmps25
    go_wp2_with (go_at_call 19; refine (validForm_impl _ _ _ f _ h ht hnc).mono ?_; rintro e w' ⟨rfl, rfl⟩)
    go_ret
    exact ⟨rfl, rfl⟩
  | true =>
    have hl := valid_len hv
    obtain ⟨b, off, rfl, hbb, hcells⟩ := h.2 (by omega)
    have hc : w.cell? ⟨b, off, none⟩ = some (.int .i64 (f.getD 0 0)) := hcells 0 (by omega)
    have h0 : 0 < f.length := by omega
    cases hleaf : leafB (f.getD 0 0) with
    | true =>
      rw [opOf_leaf hv hleaf]
      generalize f.getD 0 0 = x at hc hleaf
      clear hcells hl
      go_enter Tryd.func25, Tryd.ntmps25
      go_wp2_with (first | (go_at_call 19; refine (validForm_impl _ _ _ f _ h ht hnc).mono ?_; rintro e w' ⟨rfl, rfl⟩) | (go_at_call 45; refine (isLeaf_any x _).mono ?_; rintro e w' ⟨rfl, rfl⟩))
      go_ret
      exact ⟨rfl, rfl⟩
    | false =>
      rw [opOf_op hv hleaf]
      generalize f.getD 0 0 = x at hc hleaf
      clear hcells hl
      go_enter Tryd.func25, Tryd.ntmps25
      go_wp2_with (first | (go_at_call 19; refine (validForm_impl _ _ _ f _ h ht hnc).mono ?_; rintro e w' ⟨rfl, rfl⟩) | (go_at_call 45; refine (isLeaf_any x _).mono ?_; rintro e w' ⟨rfl, rfl⟩))
      go_ret
      exact ⟨rfl, rfl⟩

set_option maxHeartbeats 400000 in
theorem sOperatorOf_any (A : Option Addr) (n c : Nat) (f : List Int) (w : World) (h : RdI w w.heap.size A n f) :
    Calls Tryd.prog 36 #[.slice A n c] w fun e w' => e = .returned (.int .i64 (opOf f)) ∧ w = w' := by
  have hl := h.len
  subst hl
  cases hv : validB f with
  | false =>
    rw [opOf_no hv]
    go_enter Tryd.func36, Tryd.ntmps36
    go_wp2_with (go_at_call 18; refine (sValidForm_any _ _ _ f _ h).mono ?_; rintro e w' ⟨rfl, rfl⟩)
    go_ret
    exact ⟨rfl, rfl⟩
  | true =>
    have hl := valid_len hv
    obtain ⟨b, off, rfl, hbb, hcells⟩ := h.2 (by omega)
    have hc : w.cell? ⟨b, off, none⟩ = some (.int .i64 (f.getD 0 0)) := hcells 0 (by omega)
    have h0 : 0 < f.length := by omega
    cases hleaf : leafB (f.getD 0 0) with
    | true =>
      rw [opOf_leaf hv hleaf]
      generalize f.getD 0 0 = x at hc hleaf
      clear hcells hl
      go_enter Tryd.func36, Tryd.ntmps36
      go_wp2_with (first | (go_at_call 18; refine (sValidForm_any _ _ _ f _ h).mono ?_; rintro e w' ⟨rfl, rfl⟩) | (go_at_call 53; refine (isAtom_any x _).mono ?_; rintro e w' ⟨rfl, rfl⟩))
      go_ret
      exact ⟨rfl, rfl⟩
    | false =>
      rw [opOf_op hv hleaf]
      generalize f.getD 0 0 = x at hc hleaf
      clear hcells hl
      go_enter Tryd.func36, Tryd.ntmps36
      go_wp2_with (first | (go_at_call 18; refine (sValidForm_any _ _ _ f _ h).mono ?_; rintro e w' ⟨rfl, rfl⟩) | (go_at_call 53; refine (isAtom_any x _).mono ?_; rintro e w' ⟨rfl, rfl⟩))
      go_ret
      exact ⟨rfl, rfl⟩
end Go.Proofs.YtgblfcalbikgfaaDoor
