/- OperandOf: of the program and of the model: the walks. -/
import Derived.Test.YtdgejhlpncnenaaDoorOpnd
namespace Go.Proofs.YtdgejhlpncnenaaDoor
open Go.RowKit

set_option maxHeartbeats 2000000 in
theorem soperand_in (A : Option Addr) (c : Nat) (f : List Int) (k : Int) (w : World) (h : RdI w w.heap.size A f.length f) (hnc : f.length ≤ c) (hb : opndB f k = true) :
    Calls Tryd.prog 45 #[.slice A f.length c, .int .i64 k] w (Gives w ((f.drop (opS f k)).take (opE f k - opS f k))) := by
  obtain ⟨hv, hk0, hka⟩ := of_decide_eq_true hb
  have l1 := valid_len hv
  obtain ⟨b1, off1, rfl, hb1, hc1⟩ := h.2 (by omega)
  obtain ⟨e1, e2, e3, e4, e5⟩ := opnd_in hb
  have hP := part_cut (c := c - opS f k) hb1 hc1 e2 e3
  have hzl : ((f.drop (opS f k)).take (opE f k - opS f k)).length ≤ 1000 := by simp; omega
  have HCL := Lib.hid (copyInts_any _ _ w hP hzl)
  have he24 : f.length ≤ 1048576 := by omega
  have HE := Lib.hid e1
  have HF := Lib.hid e5
  generalize (f.drop (opS f k)).take (opE f k - opS f k) = J at HCL ⊢
  generalize opS f k = S at *
  generalize opE f k = E at *
  have hcS : ¬ c = S := by omega
  have hSE : S ≤ E := by omega
  have hEc : E ≤ c := by omega
  clear hP hzl e1 e5 l1 hb hka hc1 e4 hv
  rcases HF.out with ⟨rfl, rfl⟩ | ⟨rfl, hS⟩
  · clear HF
    go_enter Tryd.func45, Tryd.ntmps45
    go_wp2
    refine wp_loop_rounds 1 ?_
    rw [rounds_succ]
    go_wp2_with (first | (go_at_call 82; refine (sformEnd_any _ _ _ f 1 _ h he24).mono ?_; rw [show fe f 1 = (E : Int) from HE.out]; rintro e w' ⟨rfl, rfl⟩) | (go_at_call 54; refine HCL.out.mono ?_; rintro e w2 ⟨A2, c2, rfl, hown2, hbel2⟩))
    go_ret
    exact ⟨_, _, rfl, hown2, hbel2⟩
  · clear HF
    have HS := Lib.hid hS
    clear hS
    go_enter Tryd.func45, Tryd.ntmps45
    go_wp2
    refine wp_loop_rounds 2 ?_
    rw [rounds_succ]
    go_wp2_with (go_at_call 82; refine (sformEnd_any _ _ _ f 1 _ h he24).mono ?_; rw [HS.out]; rintro e w' ⟨rfl, rfl⟩)
    rw [rounds_succ]
    go_wp2_with (first | (go_at_call 82; refine (sformEnd_any _ _ _ f S _ h he24).mono ?_; rw [HE.out]; rintro e w' ⟨rfl, rfl⟩) | (go_at_call 54; refine HCL.out.mono ?_; rintro e w2 ⟨A2, c2, rfl, hown2, hbel2⟩))
    go_ret
    exact ⟨_, _, rfl, hown2, hbel2⟩

set_option maxHeartbeats 1000000 in
theorem sOperandOf_any (A : Option Addr) (n c : Nat) (f : List Int) (k : Int) (w : World) (h : RdI w w.heap.size A n f) (hnc : n ≤ c) :
    Calls Tryd.prog 14 #[.slice A n c, .int .i64 k] w (GivesB w (opndL f k) (opndB f k)) := by
  have hl := h.len
  subst hl
  cases hv : validB f with
  | false =>
    have hno : ¬ (validB f = true ∧ 0 ≤ k ∧ k < arZ (f.getD 0 0)) := by rw [hv]; simp
    rw [opndL_no (opndB_no hno), opndB_no hno]
    clear hno
    go_enter Tryd.func14, Tryd.ntmps14
    go_wp2_with (go_at_call 11; refine (sValidForm_any _ _ _ f _ h).mono ?_; rintro e w' ⟨rfl, rfl⟩)
    go_ret2
    exact givesB_nil w
  | true =>
    have l1 := valid_len hv
    obtain ⟨b1, off1, rfl, hb1, hc1⟩ := h.2 (by omega)
    have hc : w.cell? ⟨b1, off1, none⟩ = some (.int .i64 (f.getD 0 0)) := hc1 0 (by omega)
    have h0 : 0 < f.length := by omega
    have hx1 := arZ_lo (f.getD 0 0)
    have hx2 := arZ_hi (f.getD 0 0)
    by_cases hk : 0 ≤ k ∧ k < arZ (f.getD 0 0)
    · have hb : opndB f k = true := opndB_yes ⟨hv, hk⟩
      rw [opndL_yes hb, hb]
      have HO := Lib.hid (soperand_in (some ⟨b1, off1, none⟩) c f k w h hnc hb)
      generalize (f.drop (opS f k)).take (opE f k - opS f k) = J at HO ⊢
      generalize f.getD 0 0 = x at *
      have HK : Hid (0 ≤ k ∧ k ≤ arZ x - 1) := Lib.hid (by omega)
      clear hk hb hc1 l1 hnc
      go_enter Tryd.func14, Tryd.ntmps14
      go_wp2_with (first | (go_at_call 11; refine (sValidForm_any _ _ _ f _ h).mono ?_; rintro e w' ⟨rfl, rfl⟩) | (go_at_call 44; refine (arity_any x _).mono ?_; rintro e w' ⟨rfl, rfl⟩) | (go_at_call 43; refine (inRange_yes _ _ _ _ HK.out).mono ?_; rintro e w' ⟨rfl, rfl⟩) | (go_at_call 45; refine HO.out.mono ?_; rintro e w2 ⟨A2, c2, rfl, hown2, hbel2⟩))
      go_ret2
      exact ⟨_, _, rfl, hown2, hbel2⟩
    · have hno : ¬ (validB f = true ∧ 0 ≤ k ∧ k < arZ (f.getD 0 0)) := fun h' => hk h'.2
      rw [opndL_no (opndB_no hno), opndB_no hno]
      generalize f.getD 0 0 = x at *
      have HK : Hid (¬ (0 ≤ k ∧ k ≤ arZ x - 1)) := Lib.hid (by omega)
      clear hno hk hc1 l1 hnc
      go_enter Tryd.func14, Tryd.ntmps14
      go_wp2_with (first | (go_at_call 11; refine (sValidForm_any _ _ _ f _ h).mono ?_; rintro e w' ⟨rfl, rfl⟩) | (go_at_call 44; refine (arity_any x _).mono ?_; rintro e w' ⟨rfl, rfl⟩) | (go_at_call 43; refine (inRange_no _ _ _ _ HK.out).mono ?_; rintro e w' ⟨rfl, rfl⟩))
      go_ret2
      exact givesB_nil w
end Go.Proofs.YtdgejhlpncnenaaDoor
