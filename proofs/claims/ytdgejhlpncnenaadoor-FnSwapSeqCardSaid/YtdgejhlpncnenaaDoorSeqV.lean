/- A sequent is valid: ValidSeq of the program and of the model. -/
import Derived.Test.YtdgejhlpncnenaaDoorRowH
import Derived.Test.YtdgejhlpncnenaaDoorCmp
namespace Go.Proofs.YtdgejhlpncnenaaDoor
open Go.ChangeShapes Go.WideShapes Go.ChangeAt Go.RowKit

/-- The sequent is valid. -/
def validQ (qs : List (List Int)) : Bool := decide (qs.length ≤ 10) && (qs.all validB && decide (total qs ≤ 60))
theorem validQ_long {qs : List (List Int)} (h : 10 < qs.length) : validQ qs = false := by unfold validQ; rw [decide_eq_false (by omega)]; rfl
theorem validQ_bad {qs : List (List Int)} {k : Nat} (h : k < qs.length) (hb : validB (qs.getD k []) = false) : validQ qs = false := by
  have : qs.all validB = false := by
    rw [List.all_eq_false]
    exact ⟨_, getD_mem h, by rw [hb]; decide⟩
  simp [validQ, this]
theorem allv_step {qs : List (List Int)} {k : Nat} (h : k < qs.length) (ha : (qs.take k).all validB = true) (hb : validB (qs.getD k []) = true) : (qs.take (k + 1)).all validB = true := by
  rw [List.take_succ_eq_append_getElem h, List.all_append, ha]
  have e : qs.getD k [] = qs[k] := by simp [List.getD, h]
  rw [e] at hb
  simp [hb]
theorem validQ_at {qs : List (List Int)} (h : validQ qs = true) {k : Nat} (hk : k < qs.length) : validB (qs.getD k []) = true := by
  cases hb : validB (qs.getD k []) with
  | true => rfl
  | false => rw [validQ_bad hk hb] at h; cases h
theorem validQ_len {qs : List (List Int)} (h : validQ qs = true) : qs.length ≤ 10 := by
  by_cases hl : qs.length ≤ 10
  · exact hl
  · rw [validQ_long (by omega)] at h; cases h
theorem validQ_mem {qs : List (List Int)} (h : validQ qs = true) {q : List Int} (hq : q ∈ qs) : validB q = true := by
  unfold validQ at h
  simp only [Bool.and_eq_true, List.all_eq_true] at h
  exact h.2.1 q hq
theorem total_valid {qs : List (List Int)} (h : qs.all validB = true) : total qs ≤ 24 * qs.length := by
  induction qs with
  | nil => simp [total]
  | cons q qs ih =>
    simp only [List.all_cons, Bool.and_eq_true] at h
    have := ih h.2
    have hl := valid_len h.1
    simp [total] at this ⊢
    omega

set_option maxHeartbeats 1000000 in
theorem validSeq_impl (A : Option Addr) (n c : Nat) (qs : List (List Int)) (w : World) (h : RdQ w w.heap.size A n qs) (hn : n ≤ maxLen) (ht : Arit w) :
    Calls Tryd.prog 48 #[.agg #[.slice A n c]] w fun e w' => e = .returned (.bool (validQ qs)) ∧ Below w.heap.size w w' := by
  have hl := h.len
  subst hl
  unfold maxLen at hn
  have hB := ht.lt
  obtain ⟨o, ho⟩ : ∃ o, Obj.cells #[Value.slice A qs.length c] 34 = o := ⟨_, rfl⟩
  have hb0 : Below w.heap.size w (w.alloc (.cells #[Value.slice A qs.length c] 34)) := (Below.refl _ _).alloc (Nat.le_refl _) _
  have h1 := (h.below hb0).more hb0.size
  have ht1 := ht.below hb0 hB
  have hc1 : (w.alloc (.cells #[Value.slice A qs.length c] 34)).cell? ⟨w.heap.size, 0, none⟩ = some (.slice A qs.length c) := by simp
  by_cases hlong : 10 < qs.length
  · have HE : Hid (false = validQ qs) := Lib.hid (validQ_long hlong).symm
    have hd : decide ((10 : Int) < (qs.length : Int)) = true := decide_eq_true (by omega)
    have HB := Lib.hid hb0
    clear h h1 ht ht1 hb0 ho hc1
    go_enter Tryd.func48, Tryd.ntmps48
    go_wp2
    go_ret
    exact ⟨ret_bool' HE.out, HB.out⟩
  · have hd : decide ((10 : Int) < (qs.length : Int)) = false := decide_eq_false (by omega)
    have HB := Lib.hid hb0
    clear h ht hb0 ho
    go_enter Tryd.func48, Tryd.ntmps48
    go_wp2
    generalize hW : w.alloc (.cells #[Value.slice A qs.length c] 34) = w1 at *
    go_loop [3, 5, 13] (fun s _ i => ∃ k : Nat, k ≤ qs.length ∧ i = .int .i64 k ∧ s = .int .i64 (total (qs.take k)) ∧ (qs.take k).all validB = true) (fun _ _ i => qs.length - (intOf i).toNat)
    case atStart => exact ⟨0, Nat.zero_le _, rfl, by simp [total], by simp⟩
    case round =>
      obtain ⟨k, hk, rfl, rfl, hall⟩ := hrel
      by_cases hlt : k < qs.length
      · obtain ⟨b, off, rfl, hbb, hcells⟩ := h1.2 (by omega)
        obtain ⟨A', c', hcell, hcc, hrd⟩ := hcells k hlt
        have hV := validForm_impl A' _ c' _ w1 hrd ht1 hcc
        have htt := total_take hlt
        have hta := total_valid hall
        rw [List.length_take] at hta
        cases hv : validB (qs.getD k []) with
        | false =>
          have HE : Hid (false = validQ qs) := Lib.hid (validQ_bad hlt hv).symm
          rw [hv] at hV
          have HV := Lib.hid hV
          clear hV hcells h1 ht1 htt hta hall hrd hv
          generalize (qs.getD k []).length = M at *
          go_wp2_with (go_at_call 35; refine HV.out.mono ?_; rintro e w' ⟨rfl, rfl⟩)
          go_ret
          exact ⟨ret_bool' HE.out, HB.out⟩
        | true =>
          have hml := valid_len hv
          have HA := Lib.hid (allv_step hlt hall hv)
          rw [hv] at hV
          have HV := Lib.hid hV
          clear hV hcells h1 ht1 hall hrd hv
          generalize (qs.getD k []).length = M at *
          generalize total (qs.take k) = T at *
          have HT := Lib.hid htt
          clear htt
          go_wp2_with (go_at_call 35; refine HV.out.mono ?_; rintro e w' ⟨rfl, rfl⟩)
          go_round
          case rel => exact ⟨k + 1, by omega, by go_num, by rw [HT.out]; go_num, HA.out⟩
          case measure => simp [intOf]; omega
      · have hkl : k = qs.length := by omega
        subst hkl
        rw [total_all qs (Nat.le_refl _)]
        rw [List.take_of_length_le (Nat.le_refl _)] at hall
        have htv := total_valid hall
        have HE : Hid (decide (((total qs : Nat) : Int) ≤ 60) = validQ qs) := Lib.hid (by
          unfold validQ
          rw [hall, decide_eq_true (show qs.length ≤ 10 by omega)]
          simp only [Bool.true_and]
          by_cases h : total qs ≤ 60
          · rw [decide_eq_true h, decide_eq_true (by omega)]
          · rw [decide_eq_false h, decide_eq_false (by omega)])
        generalize total qs = T at *
        clear hall h1 ht1
        go_wp2
        go_ret
        exact ⟨ret_bool' (by rw [← HE.out]), HB.out⟩

set_option maxHeartbeats 1000000 in
theorem sValidSeq_any (A : Option Addr) (n c : Nat) (qs : List (List Int)) (w : World) (h : RdQ w w.heap.size A n qs) (hn : n ≤ 1048576) (hc : n ≤ c) :
    Calls Tryd.prog 51 #[.agg #[.slice A n c]] w fun e w' => e = .returned (.bool (validQ qs)) ∧ Below w.heap.size w w' := by
  have hl := h.len
  subst hl
  have hb0 : Below w.heap.size w (w.alloc (.cells #[Value.slice A qs.length c] 34)) := (Below.refl _ _).alloc (Nat.le_refl _) _
  have h1 := (h.below hb0).more hb0.size
  have hc1 : (w.alloc (.cells #[Value.slice A qs.length c] 34)).cell? ⟨w.heap.size, 0, none⟩ = some (.slice A qs.length c) := by simp
  have HB := Lib.hid hb0
  clear h hb0
  go_enter Tryd.func51, Tryd.ntmps51
  go_wp2
  generalize hW : w.alloc (.cells #[Value.slice A qs.length c] 34) = w1 at *
  go_loop [3, 4] (fun s i => ∃ k : Nat, k ≤ qs.length ∧ i = .int .i64 k ∧ s = .int .i64 (total (qs.take k)) ∧ (qs.take k).all validB = true) (fun _ i => qs.length - (intOf i).toNat)
  case atStart => exact ⟨0, Nat.zero_le _, rfl, by simp [total], by simp⟩
  case round =>
    obtain ⟨k, hk, rfl, rfl, hall⟩ := hrel
    by_cases hlt : k < qs.length
    · obtain ⟨b, off, rfl, hbb, hcells⟩ := h1.2 (by omega)
      obtain ⟨A', c', hcell, hcc, hrd⟩ := hcells k hlt
      have hV := sValidForm_any A' _ c' _ w1 hrd
      have htt := total_take hlt
      have hta := total_valid hall
      rw [List.length_take] at hta
      cases hv : validB (qs.getD k []) with
      | false =>
        have HE : Hid (false = validQ qs) := Lib.hid (validQ_bad hlt hv).symm
        rw [hv] at hV
        have HV := Lib.hid hV
        clear hV hcells h1 htt hta hall hrd hv
        generalize (qs.getD k []).length = M at *
        go_wp2_with (go_at_call 11; refine HV.out.mono ?_; rintro e w' ⟨rfl, rfl⟩)
        go_ret
        exact ⟨ret_bool' HE.out, HB.out⟩
      | true =>
        have hml := valid_len hv
        have HA := Lib.hid (allv_step hlt hall hv)
        rw [hv] at hV
        have HV := Lib.hid hV
        clear hV hcells h1 hall hrd hv
        generalize (qs.getD k []).length = M at *
        generalize total (qs.take k) = T at *
        have HT := Lib.hid htt
        clear htt
        go_wp2_with (go_at_call 11; refine HV.out.mono ?_; rintro e w' ⟨rfl, rfl⟩)
        go_round
        case rel => exact ⟨k + 1, by omega, by go_num, by rw [HT.out]; go_num, HA.out⟩
        case measure => simp [intOf]; omega
    · have hkl : k = qs.length := by omega
      subst hkl
      rw [total_all qs (Nat.le_refl _)]
      rw [List.take_of_length_le (Nat.le_refl _)] at hall
      have htv := total_valid hall
      by_cases hlong : 10 < qs.length
      · have HE : Hid (false = validQ qs) := Lib.hid (validQ_long hlong).symm
        have hd : decide ((qs.length : Int) ≤ 10) = false := decide_eq_false (by omega)
        generalize total qs = T at *
        clear hall h1
        go_wp2
        go_ret
        exact ⟨ret_bool' HE.out, HB.out⟩
      · have hd : decide ((qs.length : Int) ≤ 10) = true := decide_eq_true (by omega)
        have HE : Hid (decide (((total qs : Nat) : Int) ≤ 60) = validQ qs) := Lib.hid (by
          unfold validQ
          rw [hall, decide_eq_true (show qs.length ≤ 10 by omega)]
          simp only [Bool.true_and]
          by_cases h : total qs ≤ 60
          · rw [decide_eq_true h, decide_eq_true (by omega)]
          · rw [decide_eq_false h, decide_eq_false (by omega)])
        generalize total qs = T at *
        clear hall h1
        go_wp2
        go_ret
        exact ⟨ret_bool' (by rw [← HE.out]), HB.out⟩
end Go.Proofs.YtdgejhlpncnenaaDoor
