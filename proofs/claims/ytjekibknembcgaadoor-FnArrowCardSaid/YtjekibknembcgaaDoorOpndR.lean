/- OperandOf: of the program and of the model: the walks. -/
import Derived.Test.YtjekibknembcgaaDoorOpnd
namespace Go.Proofs.YtjekibknembcgaaDoor
open Go.RowKit

set_option maxHeartbeats 2000000 in
theorem operandOf_in (A : Option Addr) (c : Nat) (f : List Int) (k : Int) (w : World) (h : RdI w w.heap.size A f.length f) (ht : Arit w) (hnc : f.length ≤ c) (hb : opndB f k = true) :
    Calls Tryd.prog 30 #[.slice A f.length c, .int .i64 k] w (GivesB w ((f.drop (opS f k)).take (opE f k - opS f k)) true) := by
  obtain ⟨hv, hk0, hka⟩ := of_decide_eq_true hb
  have l1 := valid_len hv
  obtain ⟨b1, off1, rfl, hb1, hc1⟩ := h.2 (by omega)
  obtain ⟨e1, e2, e3, e4, e5⟩ := opnd_in hb
  have hP := part_cut (c := c - opS f k) hb1 hc1 e2 e3
  have hzl : ((f.drop (opS f k)).take (opE f k - opS f k)).length ≤ 1000 := by simp; omega
  have HCL := Lib.hid (clone_any _ _ w hP hzl)
  have hc : w.cell? ⟨b1, off1, none⟩ = some (.int .i64 (f.getD 0 0)) := hc1 0 (by omega)
  have hd1 : decide (k < 0) = false := decide_eq_false (by omega)
  have hd2 : decide (arZ (f.getD 0 0) ≤ k) = false := decide_eq_false (by omega)
  have h0 : 0 < f.length := by omega
  have he24 : f.length ≤ 24 := l1.2.1
  have HE : Hid (feI f (opS f k) = opE f k) := Lib.hid (by rw [feI_small he24]; exact e1)
  have HF : Hid (k = 0 ∧ opS f k = 1 ∨ k = 1 ∧ feI f 1 = opS f k) := Lib.hid (by rw [feI_small he24]; exact e5)
  generalize (f.drop (opS f k)).take (opE f k - opS f k) = J at HCL ⊢
  generalize opS f k = S at *
  generalize opE f k = E at *
  generalize f.getD 0 0 = x at *
  have hcS : ¬ c = S := by omega
  have hSE : S ≤ E := by omega
  have hEc : E ≤ c := by omega
  clear hP hzl e1 e5 l1 hb hka hc1 e4
  rcases HF.out with ⟨rfl, rfl⟩ | ⟨rfl, hS⟩
  · clear HF
    go_enter Tryd.func30, Tryd.ntmps30
    go_wp2_with (first | (go_at_call 50; refine (validForm_impl _ _ _ f _ h ht hnc).mono ?_; rintro e w' ⟨rfl, rfl⟩) | (go_at_call 65; refine (arityOf_any x _ ht).mono ?_; rintro e w' ⟨rfl, rfl⟩))
    refine wp_loop_rounds 1 ?_
    rw [rounds_succ]
    go_wp2_with (first | (go_at_call 66; refine (formEnd_impl _ _ _ f 1 _ h ht hnc).mono ?_; rw [show feI f 1 = (E : Int) from HE.out]; rintro e w' ⟨rfl, rfl⟩) | (go_at_call 62; refine HCL.out.mono ?_; rintro e w2 ⟨A2, c2, rfl, hown2, hbel2⟩))
    go_ret2
    exact ⟨_, _, rfl, hown2, hbel2⟩
  · clear HF
    have HS := Lib.hid hS
    clear hS
    go_enter Tryd.func30, Tryd.ntmps30
    go_wp2_with (first | (go_at_call 50; refine (validForm_impl _ _ _ f _ h ht hnc).mono ?_; rintro e w' ⟨rfl, rfl⟩) | (go_at_call 65; refine (arityOf_any x _ ht).mono ?_; rintro e w' ⟨rfl, rfl⟩))
    refine wp_loop_rounds 2 ?_
    rw [rounds_succ]
    go_wp2_with (go_at_call 66; refine (formEnd_impl _ _ _ f 1 _ h ht hnc).mono ?_; rw [HS.out]; rintro e w' ⟨rfl, rfl⟩)
    rw [rounds_succ]
    go_wp2_with (first | (go_at_call 66; refine (formEnd_impl _ _ _ f S _ h ht hnc).mono ?_; rw [HE.out]; rintro e w' ⟨rfl, rfl⟩) | (go_at_call 62; refine HCL.out.mono ?_; rintro e w2 ⟨A2, c2, rfl, hown2, hbel2⟩))
    go_ret2
    exact ⟨_, _, rfl, hown2, hbel2⟩

set_option maxHeartbeats 1000000 in
theorem operandOf_impl (A : Option Addr) (n c : Nat) (f : List Int) (k : Int) (w : World) (h : RdI w w.heap.size A n f) (ht : Arit w) (hnc : n ≤ c) :
    Calls Tryd.prog 30 #[.slice A n c, .int .i64 k] w (GivesB w (opndL f k) (opndB f k)) := by
  have hl := h.len
  subst hl
  cases hb : opndB f k with
  | true => rw [opndL_yes hb]; exact operandOf_in A c f k w h ht hnc hb
  | false =>
    have hno : ¬ (validB f = true ∧ 0 ≤ k ∧ k < arZ (f.getD 0 0)) := of_decide_eq_false hb
    rw [opndL_no hb]
    cases hv : validB f with
    | false =>
      clear hno hb
      go_enter Tryd.func30, Tryd.ntmps30
      go_wp2_with (go_at_call 50; refine (validForm_impl _ _ _ f _ h ht hnc).mono ?_; rintro e w' ⟨rfl, rfl⟩)
      go_ret2
      exact givesB_nil w
    | true =>
      have l1 := valid_len hv
      obtain ⟨b1, off1, rfl, hb1, hc1⟩ := h.2 (by omega)
      have hc : w.cell? ⟨b1, off1, none⟩ = some (.int .i64 (f.getD 0 0)) := hc1 0 (by omega)
      have h0 : 0 < f.length := by omega
      have hk : k < 0 ∨ 0 ≤ k ∧ arZ (f.getD 0 0) ≤ k := by
        by_cases hk : k < 0
        · exact .inl hk
        · right
          refine ⟨by omega, ?_⟩
          have : ¬ k < arZ (f.getD 0 0) := fun h' => hno ⟨hv, by omega, h'⟩
          omega
      generalize f.getD 0 0 = x at hc hk
      clear hno hb hc1 l1
      rcases hk with hk | ⟨hk, hka⟩
      · have hd1 : decide (k < 0) = true := decide_eq_true hk
        clear hk
        go_enter Tryd.func30, Tryd.ntmps30
        go_wp2_with (go_at_call 50; refine (validForm_impl _ _ _ f _ h ht hnc).mono ?_; rintro e w' ⟨rfl, rfl⟩)
        go_ret2
        exact givesB_nil w
      · have hd1 : decide (k < 0) = false := decide_eq_false (by omega)
        have hd2 : decide (arZ x ≤ k) = true := decide_eq_true hka
        clear hka
        go_enter Tryd.func30, Tryd.ntmps30
        go_wp2_with (first | (go_at_call 50; refine (validForm_impl _ _ _ f _ h ht hnc).mono ?_; rintro e w' ⟨rfl, rfl⟩) | (go_at_call 65; refine (arityOf_any x _ ht).mono ?_; rintro e w' ⟨rfl, rfl⟩))
        go_ret2
        exact givesB_nil w

set_option maxHeartbeats 2000000 in
theorem soperand_in (A : Option Addr) (c : Nat) (f : List Int) (k : Int) (w : World) (h : RdI w w.heap.size A f.length f) (hnc : f.length ≤ c) (hb : opndB f k = true) :
    Calls Tryd.prog 73 #[.slice A f.length c, .int .i64 k] w (Gives w ((f.drop (opS f k)).take (opE f k - opS f k))) := by
  obtain ⟨hv, hk0, hka⟩ := of_decide_eq_true hb
  have l1 := valid_len hv
  obtain ⟨b1, off1, rfl, hb1, hc1⟩ := h.2 (by omega)
  obtain ⟨e1, e2, e3, e4, e5⟩ := opnd_in hb
  have hP := part_cut (c := c - opS f k) hb1 hc1 e2 e3
  have hzl : ((f.drop (opS f k)).take (opE f k - opS f k)).length ≤ 1000 := by simp; omega
  have HCL := Lib.hid (copyInts_any _ _ w hP hzl)
  have he24 : f.length ≤ 1048576 := by omega
  have HE := Lib.hid e1
  have HF := Lib.hid e5
  generalize (f.drop (opS f k)).take (opE f k - opS f k) = J at HCL ⊢
  generalize opS f k = S at *
  generalize opE f k = E at *
  have hcS : ¬ c = S := by omega
  have hSE : S ≤ E := by omega
  have hEc : E ≤ c := by omega
  clear hP hzl e1 e5 l1 hb hka hc1 e4 hv
  rcases HF.out with ⟨rfl, rfl⟩ | ⟨rfl, hS⟩
  · clear HF
    go_enter Tryd.func73, Tryd.ntmps73
    go_wp2
    refine wp_loop_rounds 1 ?_
    rw [rounds_succ]
    go_wp2_with (first | (go_at_call 80; refine (sformEnd_any _ _ _ f 1 _ h he24).mono ?_; rw [show fe f 1 = (E : Int) from HE.out]; rintro e w' ⟨rfl, rfl⟩) | (go_at_call 79; refine HCL.out.mono ?_; rintro e w2 ⟨A2, c2, rfl, hown2, hbel2⟩))
    go_ret
    exact ⟨_, _, rfl, hown2, hbel2⟩
  · clear HF
    have HS := Lib.hid hS
    clear hS
    go_enter Tryd.func73, Tryd.ntmps73
    go_wp2
    refine wp_loop_rounds 2 ?_
    rw [rounds_succ]
    go_wp2_with (go_at_call 80; refine (sformEnd_any _ _ _ f 1 _ h he24).mono ?_; rw [HS.out]; rintro e w' ⟨rfl, rfl⟩)
    rw [rounds_succ]
    go_wp2_with (first | (go_at_call 80; refine (sformEnd_any _ _ _ f S _ h he24).mono ?_; rw [HE.out]; rintro e w' ⟨rfl, rfl⟩) | (go_at_call 79; refine HCL.out.mono ?_; rintro e w2 ⟨A2, c2, rfl, hown2, hbel2⟩))
    go_ret
    exact ⟨_, _, rfl, hown2, hbel2⟩

set_option maxHeartbeats 1000000 in
theorem sOperandOf_any (A : Option Addr) (n c : Nat) (f : List Int) (k : Int) (w : World) (h : RdI w w.heap.size A n f) (hnc : n ≤ c) :
    Calls Tryd.prog 35 #[.slice A n c, .int .i64 k] w (GivesB w (opndL f k) (opndB f k)) := by
  have hl := h.len
  subst hl
  cases hv : validB f with
  | false =>
    have hno : ¬ (validB f = true ∧ 0 ≤ k ∧ k < arZ (f.getD 0 0)) := by rw [hv]; simp
    rw [opndL_no (opndB_no hno), opndB_no hno]
    clear hno
    go_enter Tryd.func35, Tryd.ntmps35
    go_wp2_with (go_at_call 20; refine (sValidForm_any _ _ _ f _ h).mono ?_; rintro e w' ⟨rfl, rfl⟩)
    go_ret2
    exact givesB_nil w
  | true =>
    have l1 := valid_len hv
    obtain ⟨b1, off1, rfl, hb1, hc1⟩ := h.2 (by omega)
    have hc : w.cell? ⟨b1, off1, none⟩ = some (.int .i64 (f.getD 0 0)) := hc1 0 (by omega)
    have h0 : 0 < f.length := by omega
    have hx1 := arZ_lo (f.getD 0 0)
    have hx2 := arZ_hi (f.getD 0 0)
    by_cases hk : 0 ≤ k ∧ k < arZ (f.getD 0 0)
    · have hb : opndB f k = true := opndB_yes ⟨hv, hk⟩
      rw [opndL_yes hb, hb]
      have HO := Lib.hid (soperand_in (some ⟨b1, off1, none⟩) c f k w h hnc hb)
      generalize (f.drop (opS f k)).take (opE f k - opS f k) = J at HO ⊢
      generalize f.getD 0 0 = x at *
      have HK : Hid (0 ≤ k ∧ k ≤ arZ x - 1) := Lib.hid (by omega)
      clear hk hb hc1 l1 hnc
      go_enter Tryd.func35, Tryd.ntmps35
      go_wp2_with (first | (go_at_call 20; refine (sValidForm_any _ _ _ f _ h).mono ?_; rintro e w' ⟨rfl, rfl⟩) | (go_at_call 72; refine (arity_any x _).mono ?_; rintro e w' ⟨rfl, rfl⟩) | (go_at_call 71; refine (inRange_yes _ _ _ _ HK.out).mono ?_; rintro e w' ⟨rfl, rfl⟩) | (go_at_call 73; refine HO.out.mono ?_; rintro e w2 ⟨A2, c2, rfl, hown2, hbel2⟩))
      go_ret2
      exact ⟨_, _, rfl, hown2, hbel2⟩
    · have hno : ¬ (validB f = true ∧ 0 ≤ k ∧ k < arZ (f.getD 0 0)) := fun h' => hk h'.2
      rw [opndL_no (opndB_no hno), opndB_no hno]
      generalize f.getD 0 0 = x at *
      have HK : Hid (¬ (0 ≤ k ∧ k ≤ arZ x - 1)) := Lib.hid (by omega)
      clear hno hk hc1 l1 hnc
      go_enter Tryd.func35, Tryd.ntmps35
      go_wp2_with (first | (go_at_call 20; refine (sValidForm_any _ _ _ f _ h).mono ?_; rintro e w' ⟨rfl, rfl⟩) | (go_at_call 72; refine (arity_any x _).mono ?_; rintro e w' ⟨rfl, rfl⟩) | (go_at_call 71; refine (inRange_no _ _ _ _ HK.out).mono ?_; rintro e w' ⟨rfl, rfl⟩))
      go_ret2
      exact givesB_nil w
end Go.Proofs.YtjekibknembcgaaDoor
