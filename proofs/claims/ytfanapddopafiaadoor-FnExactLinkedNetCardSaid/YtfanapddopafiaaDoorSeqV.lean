/- A sequent is valid: ValidSeq of the program and of the model. The laws' helpers at sequents, and the marks at rows of slices. Two sequents compared: SameSeq of the program and of the model. -/
import Derived.Test.YtfanapddopafiaaDoorRowH
import Derived.Test.YtfanapddopafiaaDoorQEqD
namespace Go.Proofs.YtfanapddopafiaaDoor
set_option linter.unusedSimpArgs false
set_option linter.unusedVariables false
open Go.ChangeAt Go.ChangeShapes Go.RowKit Go.WideShapes

/-- The sequent is valid. -/
def validQ (qs : List (List Int)) : Bool := decide (qs.length ≤ 10) && (qs.all validB && decide (total qs ≤ 60))
theorem validQ_long {qs : List (List Int)} (h : 10 < qs.length) : validQ qs = false := by unfold validQ; rw [decide_eq_false (by omega)]; rfl
theorem validQ_bad {qs : List (List Int)} {k : Nat} (h : k < qs.length) (hb : validB (qs.getD k []) = false) : validQ qs = false := by
  have : qs.all validB = false := by
    rw [List.all_eq_false]
    exact ⟨_, getD_mem h, by rw [hb]; decide⟩
  simp [validQ, this]
theorem allv_step {qs : List (List Int)} {k : Nat} (h : k < qs.length) (ha : (qs.take k).all validB = true) (hb : validB (qs.getD k []) = true) : (qs.take (k + 1)).all validB = true := by
  rw [List.take_succ_eq_append_getElem h, List.all_append, ha]
  have e : qs.getD k [] = qs[k] := by simp [List.getD, h]
  rw [e] at hb
  simp [hb]
theorem validQ_at {qs : List (List Int)} (h : validQ qs = true) {k : Nat} (hk : k < qs.length) : validB (qs.getD k []) = true := by
  cases hb : validB (qs.getD k []) with
  | true => rfl
  | false => rw [validQ_bad hk hb] at h; cases h
theorem validQ_len {qs : List (List Int)} (h : validQ qs = true) : qs.length ≤ 10 := by
  by_cases hl : qs.length ≤ 10
  · exact hl
  · rw [validQ_long (by omega)] at h; cases h
theorem validQ_mem {qs : List (List Int)} (h : validQ qs = true) {q : List Int} (hq : q ∈ qs) : validB q = true := by
  unfold validQ at h
  simp only [Bool.and_eq_true, List.all_eq_true] at h
  exact h.2.1 q hq
theorem total_valid {qs : List (List Int)} (h : qs.all validB = true) : total qs ≤ 24 * qs.length := by
  induction qs with
  | nil => simp [total]
  | cons q qs ih =>
    simp only [List.all_cons, Bool.and_eq_true] at h
    have := ih h.2
    have hl := valid_len h.1
    simp [total] at this ⊢
    omega

set_option maxHeartbeats 1000000 in
theorem validSeq_impl (A : Option Addr) (n c : Nat) (qs : List (List Int)) (w : World) (h : RdQ w w.heap.size A n qs) (hn : n ≤ maxLen) (ht : Arit w) :
    Calls Tryd.prog 87 #[.agg #[.slice A n c]] w fun e w' => e = .returned (.bool (validQ qs)) ∧ Below w.heap.size w w' := by
  have hl := h.len
  subst hl
  unfold maxLen at hn
  have hB := ht.lt
  obtain ⟨o, ho⟩ : ∃ o, Obj.cells #[Value.slice A qs.length c] 47 = o := ⟨_, rfl⟩
  have hb0 : Below w.heap.size w (w.alloc (.cells #[Value.slice A qs.length c] 47)) := (Below.refl _ _).alloc (Nat.le_refl _) _
  have h1 := (h.below hb0).more hb0.size
  have ht1 := ht.below hb0 hB
  have hc1 : (w.alloc (.cells #[Value.slice A qs.length c] 47)).cell? ⟨w.heap.size, 0, none⟩ = some (.slice A qs.length c) := by simp
  by_cases hlong : 10 < qs.length
  · have HE : Hid (false = validQ qs) := Lib.hid (validQ_long hlong).symm
    have hd : decide ((10 : Int) < (qs.length : Int)) = true := decide_eq_true (by omega)
    have HB := Lib.hid hb0
    clear h h1 ht ht1 hb0 ho hc1
    go_enter Tryd.func87, Tryd.ntmps87
    go_wp2
    go_ret
    exact ⟨ret_bool' HE.out, HB.out⟩
  · have hd : decide ((10 : Int) < (qs.length : Int)) = false := decide_eq_false (by omega)
    have HB := Lib.hid hb0
    clear h ht hb0 ho
    go_enter Tryd.func87, Tryd.ntmps87
    go_wp2
    generalize hW : w.alloc (.cells #[Value.slice A qs.length c] 47) = w1 at *
    go_loop [3, 5, 13] (fun s _ i => ∃ k : Nat, k ≤ qs.length ∧ i = .int .i64 k ∧ s = .int .i64 (total (qs.take k)) ∧ (qs.take k).all validB = true) (fun _ _ i => qs.length - (intOf i).toNat)
    case atStart => exact ⟨0, Nat.zero_le _, rfl, by simp [total], by simp⟩
    case round =>
      obtain ⟨k, hk, rfl, rfl, hall⟩ := hrel
      by_cases hlt : k < qs.length
      · obtain ⟨b, off, rfl, hbb, hcells⟩ := h1.2 (by omega)
        obtain ⟨A', c', hcell, hcc, hrd⟩ := hcells k hlt
        have hV := validForm_impl A' _ c' _ w1 hrd ht1 hcc
        have htt := total_take hlt
        have hta := total_valid hall
        rw [List.length_take] at hta
        cases hv : validB (qs.getD k []) with
        | false =>
          have HE : Hid (false = validQ qs) := Lib.hid (validQ_bad hlt hv).symm
          rw [hv] at hV
          have HV := Lib.hid hV
          clear hV hcells h1 ht1 htt hta hall hrd hv
          generalize (qs.getD k []).length = M at *
          go_wp2_with (go_at_call 119; refine HV.out.mono ?_; rintro e w' ⟨rfl, rfl⟩)
          go_ret
          exact ⟨ret_bool' HE.out, HB.out⟩
        | true =>
          have hml := valid_len hv
          have HA := Lib.hid (allv_step hlt hall hv)
          rw [hv] at hV
          have HV := Lib.hid hV
          clear hV hcells h1 ht1 hall hrd hv
          generalize (qs.getD k []).length = M at *
          generalize total (qs.take k) = T at *
          have HT := Lib.hid htt
          clear htt
          go_wp2_with (go_at_call 119; refine HV.out.mono ?_; rintro e w' ⟨rfl, rfl⟩)
          go_round
          case rel => exact ⟨k + 1, by omega, by go_num, by rw [HT.out]; go_num, HA.out⟩
          case measure => simp [intOf]; omega
      · have hkl : k = qs.length := by omega
        subst hkl
        rw [total_all qs (Nat.le_refl _)]
        rw [List.take_of_length_le (Nat.le_refl _)] at hall
        have htv := total_valid hall
        have HE : Hid (decide (((total qs : Nat) : Int) ≤ 60) = validQ qs) := Lib.hid (by
          unfold validQ
          rw [hall, decide_eq_true (show qs.length ≤ 10 by omega)]
          simp only [Bool.true_and]
          by_cases h : total qs ≤ 60
          · rw [decide_eq_true h, decide_eq_true (by omega)]
          · rw [decide_eq_false h, decide_eq_false (by omega)])
        generalize total qs = T at *
        clear hall h1 ht1
        go_wp2
        go_ret
        exact ⟨ret_bool' (by rw [← HE.out]), HB.out⟩

set_option maxHeartbeats 1000000 in
theorem sValidSeq_any (A : Option Addr) (n c : Nat) (qs : List (List Int)) (w : World) (h : RdQ w w.heap.size A n qs) (hn : n ≤ 1048576) (hc : n ≤ c) :
    Calls Tryd.prog 85 #[.agg #[.slice A n c]] w fun e w' => e = .returned (.bool (validQ qs)) ∧ Below w.heap.size w w' := by
  have hl := h.len
  subst hl
  have hb0 : Below w.heap.size w (w.alloc (.cells #[Value.slice A qs.length c] 47)) := (Below.refl _ _).alloc (Nat.le_refl _) _
  have h1 := (h.below hb0).more hb0.size
  have hc1 : (w.alloc (.cells #[Value.slice A qs.length c] 47)).cell? ⟨w.heap.size, 0, none⟩ = some (.slice A qs.length c) := by simp
  have HB := Lib.hid hb0
  clear h hb0
  go_enter Tryd.func85, Tryd.ntmps85
  go_wp2
  generalize hW : w.alloc (.cells #[Value.slice A qs.length c] 47) = w1 at *
  go_loop [3, 4] (fun s i => ∃ k : Nat, k ≤ qs.length ∧ i = .int .i64 k ∧ s = .int .i64 (total (qs.take k)) ∧ (qs.take k).all validB = true) (fun _ i => qs.length - (intOf i).toNat)
  case atStart => exact ⟨0, Nat.zero_le _, rfl, by simp [total], by simp⟩
  case round =>
    obtain ⟨k, hk, rfl, rfl, hall⟩ := hrel
    by_cases hlt : k < qs.length
    · obtain ⟨b, off, rfl, hbb, hcells⟩ := h1.2 (by omega)
      obtain ⟨A', c', hcell, hcc, hrd⟩ := hcells k hlt
      have hV := sValidForm_any A' _ c' _ w1 hrd
      have htt := total_take hlt
      have hta := total_valid hall
      rw [List.length_take] at hta
      cases hv : validB (qs.getD k []) with
      | false =>
        have HE : Hid (false = validQ qs) := Lib.hid (validQ_bad hlt hv).symm
        rw [hv] at hV
        have HV := Lib.hid hV
        clear hV hcells h1 htt hta hall hrd hv
        generalize (qs.getD k []).length = M at *
        go_wp2_with (go_at_call 118; refine HV.out.mono ?_; rintro e w' ⟨rfl, rfl⟩)
        go_ret
        exact ⟨ret_bool' HE.out, HB.out⟩
      | true =>
        have hml := valid_len hv
        have HA := Lib.hid (allv_step hlt hall hv)
        rw [hv] at hV
        have HV := Lib.hid hV
        clear hV hcells h1 hall hrd hv
        generalize (qs.getD k []).length = M at *
        generalize total (qs.take k) = T at *
        have HT := Lib.hid htt
        clear htt
        go_wp2_with (go_at_call 118; refine HV.out.mono ?_; rintro e w' ⟨rfl, rfl⟩)
        go_round
        case rel => exact ⟨k + 1, by omega, by go_num, by rw [HT.out]; go_num, HA.out⟩
        case measure => simp [intOf]; omega
    · have hkl : k = qs.length := by omega
      subst hkl
      rw [total_all qs (Nat.le_refl _)]
      rw [List.take_of_length_le (Nat.le_refl _)] at hall
      have htv := total_valid hall
      by_cases hlong : 10 < qs.length
      · have HE : Hid (false = validQ qs) := Lib.hid (validQ_long hlong).symm
        have hd : decide ((qs.length : Int) ≤ 10) = false := decide_eq_false (by omega)
        generalize total qs = T at *
        clear hall h1
        go_wp2
        go_ret
        exact ⟨ret_bool' HE.out, HB.out⟩
      · have hd : decide ((qs.length : Int) ≤ 10) = true := decide_eq_true (by omega)
        have HE : Hid (decide (((total qs : Nat) : Int) ≤ 60) = validQ qs) := Lib.hid (by
          unfold validQ
          rw [hall, decide_eq_true (show qs.length ≤ 10 by omega)]
          simp only [Bool.true_and]
          by_cases h : total qs ≤ 60
          · rw [decide_eq_true h, decide_eq_true (by omega)]
          · rw [decide_eq_false h, decide_eq_false (by omega)])
        generalize total qs = T at *
        clear hall h1
        go_wp2
        go_ret
        exact ⟨ret_bool' (by rw [← HE.out]), HB.out⟩

theorem box_below (w : World) (v : Value) (t : TypeId) : Below w.heap.size w (w.alloc (.cells #[v] t)) := (Below.refl _ _).alloc (Nat.le_refl _) _

theorem undrew {w w' : World} (h : Below w.drew.heap.size w.drew w') : Below w.heap.size w w' := ⟨h.os, h.tape, h.output, h.size, h.block⟩
theorem heap_two (w : World) (a b c : Obj) : (((w.alloc a).alloc b).alloc c).heap[w.heap.size + 1]? = some b := by
  have h : (w.alloc a).heap.size = w.heap.size + 1 := by simp
  rw [Below.heap_alloc _ _ _ (by simp), ← h]
  exact heap_alloc_new _ _
theorem heap_three (w : World) (a b c : Obj) : (((w.alloc a).alloc b).alloc c).heap[w.heap.size + 1 + 1]? = some c := by
  have h : ((w.alloc a).alloc b).heap.size = w.heap.size + 1 + 1 := by simp
  rw [← h]
  exact heap_alloc_new _ _
set_option maxHeartbeats 1000000 in
theorem szSeq_any (A : Option Addr) (n c : Nat) (qs : List (List Int)) (left : Int) (w : World) (h : RdQ w w.heap.size A n qs) (hq : ∀ q ∈ qs, q.length ≤ maxLen) (hn : n ≤ maxLen) (h0 : 0 ≤ left) (h1 : left ≤ 1073741824) :
    Calls Tryd.prog 21 #[.agg #[.slice A n c], .int .i64 left] w fun e w' => e = .returned (.int .i64 (szR left (n + total qs))) ∧ Below w.heap.size w w' := by
  have hb := box_below w (.slice A n c) 43
  have HS := Lib.hid (szSS_any A n c qs left _ w.heap.size (h.below hb) hq hn h0 h1)
  have hcell : (w.alloc (.cells #[Value.slice A n c] 43)).cell? ⟨w.heap.size, 0, none⟩ = some (.slice A n c) := by simp
  have HB := Lib.hid hb
  clear h hb hq
  by_cases hc : szR left (n + total qs) < 0
  · have HE : Hid ((-1 : Int) = szR left (n + total qs)) := Lib.hid (by
      unfold szR at hc ⊢
      by_cases h : left - (n + total qs : Nat) < 0
      · rw [if_pos h]
      · rw [if_neg h] at hc; omega)
    have hd : decide (szR left (n + total qs) < 0) = true := decide_eq_true hc
    generalize szR left (n + total qs) = R at *
    clear hc
    go_enter Tryd.func21, Tryd.ntmps21
    go_wp2_with (fail)
    refine HS.out.mono ?_
    rintro e w' ⟨rfl, rfl⟩
    go_wp2
    go_ret
    exact ⟨ret_i64 HE.out, HB.out⟩
  · have hd : decide (szR left (n + total qs) < 0) = false := decide_eq_false hc
    generalize szR left (n + total qs) = R at *
    clear hc
    go_enter Tryd.func21, Tryd.ntmps21
    go_wp2_with (fail)
    refine HS.out.mono ?_
    rintro e w' ⟨rfl, rfl⟩
    go_wp2
    go_ret
    exact ⟨rfl, HB.out⟩

/-- What the copy of a sequent leaves. -/
def CopiedSeq (w : World) (n : Nat) (qs : List (List Int)) (e : Ending) (w' : World) : Prop :=
  ∃ hs A, e = .returned (.agg #[.slice A n n]) ∧ OwnQ w' w.heap.size w'.heap.size (.slice A n n) hs qs ∧ Below w.heap.size w w'

set_option maxHeartbeats 1000000 in
theorem toSeq_any (A : Option Addr) (n c : Nat) (qs : List (List Int)) (w : World) (h : RdQ w w.heap.size A n qs) (hq : ∀ q ∈ qs, q.length ≤ 1048576) (hn : n ≤ 1048576) :
    Calls Tryd.prog 23 #[.agg #[.slice A n c]] w (CopiedSeq w n qs) := by
  obtain ⟨w3, hw3⟩ : ∃ w3, w3 = ((w.alloc (.cells #[Value.slice A n c] 43)).alloc (.cells #[.slice none 0 0] 47)).alloc (.cells #[.slice none 0 0] 47) := ⟨_, rfl⟩
  have hb : Below w.heap.size w w3 := by
    rw [hw3]
    exact (((Below.refl _ _).alloc (Nat.le_refl _) _).alloc (by simp) _).alloc (by simp; omega) _
  have HS := Lib.hid (toSS_any A n c qs w3 ((h.below hb).more hb.size) hq hn)
  have hsz : w3.heap.size = w.heap.size + 1 + 1 + 1 := by rw [hw3]; simp
  have HB := Lib.hid hb
  clear h hb hq
  go_enter Tryd.func23, Tryd.ntmps23
  go_wp2_with (fail)
  rw [← hw3]
  refine HS.out.mono ?_
  rintro e w4 ⟨hs, rfl, own4, bel4⟩
  have hh4 : w4.heap[w.heap.size + 1]? = some (.cells #[.slice none 0 0] 47 (0, 0)) := by rw [bel4.block _ (by omega), hw3]; exact heap_two _ _ _ _
  have hh4' : w4.heap[w.heap.size + 1 + 1]? = some (.cells #[.slice none 0 0] 47 (0, 0)) := by rw [bel4.block _ (by omega), hw3]; exact heap_three _ _ _ _
  have hc2 : w4.cell? ⟨w.heap.size + 1 + 1, 0, none⟩ = some (.slice none 0 0) := cell_of_row w4 _ 0 _ _ _ hh4'
  have hf2 : w4.frozen? ⟨w.heap.size + 1 + 1, 0, none⟩ = false := frozen_of_row w4 _ 0 _ _ hh4'
  have hc1 : w4.cell? ⟨w.heap.size + 1, 0, none⟩ = some (.slice none 0 0) := cell_of_row w4 _ 0 _ _ _ hh4
  have hf1 : w4.frozen? ⟨w.heap.size + 1, 0, none⟩ = false := frozen_of_row w4 _ 0 _ _ hh4
  have hsz4 := bel4.size
  have e5 : ((w4.setCell ⟨w.heap.size + 1 + 1, 0, none⟩ (.slice (some ⟨w3.heap.size, 0, none⟩) n n)).setCell ⟨w.heap.size + 1, 0, none⟩ (.slice (some ⟨w3.heap.size, 0, none⟩) n n)).heap.size = w4.heap.size := by simp
  have HO : Hid (OwnQ ((w4.setCell ⟨w.heap.size + 1 + 1, 0, none⟩ (.slice (some ⟨w3.heap.size, 0, none⟩) n n)).setCell ⟨w.heap.size + 1, 0, none⟩ (.slice (some ⟨w3.heap.size, 0, none⟩) n n)) w.heap.size
      ((w4.setCell ⟨w.heap.size + 1 + 1, 0, none⟩ (.slice (some ⟨w3.heap.size, 0, none⟩) n n)).setCell ⟨w.heap.size + 1, 0, none⟩ (.slice (some ⟨w3.heap.size, 0, none⟩) n n)).heap.size (.slice (some ⟨w3.heap.size, 0, none⟩) n n) hs qs) := Lib.hid (by
    rw [e5]
    exact ((own4.setBelow (by simp; omega) _).setBelow (by simp; omega) _).more (by omega) (Nat.le_refl _))
  have HBB := Lib.hid ((((HB.out.trans (bel4.mono (by omega))).setCell (p := ⟨w.heap.size + 1 + 1, 0, none⟩) (by simp; omega) (.slice (some ⟨w3.heap.size, 0, none⟩) n n))).setCell (p := ⟨w.heap.size + 1, 0, none⟩) (by simp) (.slice (some ⟨w3.heap.size, 0, none⟩) n n))
  have hh5 := (Below.heap_setCell w4 ⟨w.heap.size + 1 + 1, 0, none⟩ (.slice (some ⟨w3.heap.size, 0, none⟩) n n) (w.heap.size + 1) (by simp)).trans hh4
  have HH := Lib.hid (heap_setCell_same _ (w.heap.size + 1) 0 _ _ (.slice (some ⟨w3.heap.size, 0, none⟩) n n) hh5)
  clear own4 bel4 hsz4 e5 hsz hw3 hh4 hh4' hh5
  generalize w3.heap.size = g at *
  go_wp2
  (try simp only [Exit.inBlock, Exit.then])
  refine bodyPost_ret (results_cell_row rfl _ _ (w.heap.size + 1) _ _ (0, 0) _ rfl HH.out Tryd.underlying47 rfl (by kernel_rfl)) rfl ?_
  exact ⟨hs, _, rfl, HO.out, HBB.out⟩

set_option maxHeartbeats 1000000 in
theorem eqSeq_any (A B : Option Addr) (n m c d : Nat) (zs ys : List (List Int)) (w : World) (h : RdQ w w.heap.size A n zs) (h' : RdQ w w.heap.size B m ys) (hn : n ≤ 1048576) (hm : m ≤ 1048576) (hz : ∀ q ∈ zs, q.length ≤ 1048576) (hy : ∀ q ∈ ys, q.length ≤ 1048576) :
    Calls Tryd.prog 26 #[.agg #[.slice A n c], .agg #[.slice B m d]] w fun e w' => e = .returned (.bool (decide (zs = ys))) ∧ Below w.heap.size w w' := by
  obtain ⟨w2, hw2⟩ : ∃ w2, w2 = (w.alloc (.cells #[Value.slice A n c] 47)).alloc (.cells #[.slice B m d] 47) := ⟨_, rfl⟩
  have hb : Below w.heap.size w w2 := by
    rw [hw2]
    exact ((Below.refl _ _).alloc (Nat.le_refl _) _).alloc (by simp) _
  have HS : Hid (Calls Tryd.prog 41 #[.slice A n c, .slice B m d] w2 fun e w' => e = .returned (.bool (decide (zs = ys))) ∧ ∃ m, w' = w2.drewN m) :=
    Lib.hid (eqSS_any A B n m c d zs ys w2 w.heap.size w.heap.size (h.below hb) (h'.below hb) hn hm hz hy)
  have HB := Lib.hid hb
  clear h h' hb hz hy
  cases hdec : decide (zs = ys) with
  | true =>
    rw [hdec] at HS
    go_enter Tryd.func26, Tryd.ntmps26
    go_wp2_with (fail)
    rw [← hw2]
    refine HS.out.mono ?_
    rintro e w' ⟨rfl, hd⟩
    have HBB := Lib.hid (HB.out.trans (drewN_below hd _))
    clear hd hdec
    go_wp2
    go_ret
    exact ⟨rfl, HBB.out⟩
  | false =>
    rw [hdec] at HS
    go_enter Tryd.func26, Tryd.ntmps26
    go_wp2_with (fail)
    rw [← hw2]
    refine HS.out.mono ?_
    rintro e w' ⟨rfl, hd⟩
    have HBB := Lib.hid (HB.out.trans (drewN_below hd _))
    clear hd hdec
    go_wp2
    go_ret
    exact ⟨rfl, HBB.out⟩

/-- The marks that a row of slices bears. -/
def mrkQ (k : Int) : List (List Int) → List (List Int)
  | [] => []
  | q :: qs => markL k q.length :: mrkQ (k + q.length) qs
theorem mrkQ_len : ∀ (k : Int) (qs : List (List Int)), (mrkQ k qs).length = qs.length
  | _, [] => rfl
  | k, q :: qs => by simp [mrkQ, mrkQ_len]
theorem mrkQ_app : ∀ (k : Int) (xs ys : List (List Int)), mrkQ k (xs ++ ys) = mrkQ k xs ++ mrkQ (k + total xs) ys
  | k, [], ys => by simp [mrkQ, total]
  | k, x :: xs, ys => by
    have e : k + (x.length : Int) + (total xs : Nat) = k + (total (x :: xs) : Nat) := by simp [total]; omega
    rw [List.cons_append, mrkQ, mrkQ, mrkQ_app, e]; rfl
theorem total_mrk : ∀ (k : Int) (qs : List (List Int)), total (mrkQ k qs) = total qs
  | _, [] => rfl
  | k, q :: qs => by
    have := total_mrk (k + q.length) qs
    simp only [total, mrkQ, List.map_cons, List.sum_cons, markL_len] at this ⊢
    omega
theorem mrkQ_at (k : Int) {qs : List (List Int)} {j : Nat} (h : j < qs.length) : (mrkQ k qs).getD j [] = markL (k + total (qs.take j)) (qs.getD j []).length := by
  have e : qs = qs.take j ++ (qs.getD j [] :: qs.drop (j + 1)) := by
    have e3 : qs.getD j [] = qs[j] := by simp [List.getD, h]
    rw [e3, List.getElem_cons_drop]
    exact (List.take_append_drop _ _).symm
  have hl : (mrkQ k (qs.take j)).length = j := by rw [mrkQ_len, List.length_take]; omega
  conv => lhs; rw [e, mrkQ_app]
  rw [List.getD_eq_getElem?_getD, List.getElem?_append_right (by omega), hl, Nat.sub_self]
  rfl
/-- How far the marking of a row has come. -/
def mrq (qs : List (List Int)) (k : Int) (j : Nat) : List (List Int) := mrkQ k (qs.take j) ++ qs.drop j
theorem mrq_zero (qs : List (List Int)) (k : Int) : mrq qs k 0 = qs := by simp [mrq, mrkQ]
theorem mrq_all (qs : List (List Int)) (k : Int) : mrq qs k qs.length = mrkQ k qs := by simp [mrq]
theorem mrq_len (qs : List (List Int)) (k : Int) {j : Nat} (h : j ≤ qs.length) : (mrq qs k j).length = qs.length := by
  unfold mrq; rw [List.length_append, mrkQ_len, List.length_take, List.length_drop]; omega
theorem mrq_get (qs : List (List Int)) (k : Int) {j : Nat} (h : j < qs.length) : (mrq qs k j).getD j [] = qs.getD j [] := by
  have hl : (mrkQ k (qs.take j)).length = j := by rw [mrkQ_len, List.length_take]; omega
  unfold mrq
  rw [List.getD_eq_getElem?_getD, List.getElem?_append_right (by omega), hl, Nat.sub_self, List.getElem?_drop]
  simp [List.getD]
theorem mrq_step (qs : List (List Int)) (k : Int) {j : Nat} (h : j < qs.length) : (mrq qs k j).set j (markL (k + total (qs.take j)) (qs.getD j []).length) = mrq qs k (j + 1) := by
  have hl : (mrkQ k (qs.take j)).length = j := by rw [mrkQ_len, List.length_take]; omega
  unfold mrq
  rw [List.set_append_right _ _ (by omega), hl, Nat.sub_self, List.drop_eq_getElem_cons h, List.set_cons_zero, List.take_succ_eq_append_getElem h, mrkQ_app, List.append_assoc]
  have e3 : qs.getD j [] = qs[j] := by simp [List.getD, h]
  rw [e3]
  rfl

set_option maxHeartbeats 1000000 in
theorem markSS_any (A : Option Addr) (n c : Nat) (hs : Nat → Option Addr × Nat) (qs : List (List Int)) (k : Int) (w : World) (lo hi : Nat) (h : OwnQ w lo hi (.slice A n c) hs qs) (hn : qs.length = n) (hn1 : n ≤ 1048576) (ht : total qs ≤ 1048576) (hk0 : 0 ≤ k) (hk1 : k ≤ 536870912) :
    Calls Tryd.prog 43 #[.slice A n c, .int .i64 k] w fun e w' => e = .returned (.int .i64 (k + total qs)) ∧ OwnQ w' lo hi (.slice A n c) hs (mrkQ k qs) ∧ Kept lo hi w w' := by
  subst hn
  go_enter Tryd.func43, Tryd.ntmps43
  go_wp2
  go_loopw [1, 5] (fun v i wr => ∃ j : Nat, j ≤ qs.length ∧ i = .int .i64 j ∧ v = .int .i64 (k + total (qs.take j)) ∧ OwnQ wr lo hi (.slice A qs.length c) hs (mrq qs k j) ∧ Kept lo hi w wr) (fun _ i _ => qs.length - (intOf i).toNat)
  case atStart => exact ⟨0, Nat.zero_le _, rfl, by simp [total], by rw [mrq_zero]; exact h, Kept.refl _ _ _⟩
  case round =>
    obtain ⟨j, hj, rfl, rfl, hown, hkp⟩ := hrel
    clear h
    by_cases hlt : j < qs.length
    · have hml := mrq_len qs k hj
      have hstep := mrq_step qs k hlt
      have hget := mrq_get qs k hlt
      have htt := total_take hlt
      have htl := total_le hlt
      obtain ⟨g, cap, hv', hlo, hgl⟩ := hown.outer.form (by omega)
      have hA : A = some ⟨g, 0, none⟩ ∧ c = cap := by rw [hml] at hv'; injection hv' with a b c'; exact ⟨a, c'⟩
      obtain ⟨rfl, rfl⟩ := hA
      obtain ⟨_, hcell⟩ := hown.at hml hlt
      have hin := hown.inner j (by rw [hml]; exact hlt)
      rw [hget] at hin
      have hvv : hv hs (mrq qs k j) j = .slice (hs j).1 (qs.getD j []).length (hs j).2 := by unfold hv; rw [hget]
      have hput := fun (w' : World) (a : _) (b : _) => hown.put (w' := w') (q := markL (k + total (qs.take j)) (qs.getD j []).length) (by rw [hml]; exact hlt) (by rw [hget, markL_len]) a b
      rw [hstep] at hput
      have hgr : ∀ b, (hv hs (mrq qs k j) j).ownBlock = some b → lo ≤ b ∧ b < hi := fun b e => ⟨(hin.lt b e).1, hown.top j b (by rw [hml]; exact hlt) e⟩
      rw [hvv] at hin hcell hput hgr
      rw [markL_len] at hput
      have HM := Lib.hid (mark_any (hs j).1 (qs.getD j []).length (hs j).2 (qs.getD j []) (k + total (qs.take j)) wr lo hin (by omega) (by omega) (by omega))
      have HP := Lib.hid hput; have HG := Lib.hid hgr; have HK := Lib.hid hkp
      have HT : Hid (k + (total (qs.take (j + 1)) : Nat) = k + total (qs.take j) + (qs.getD j []).length) := Lib.hid (by rw [htt]; omega)
      clear hin hput hgr hkp hown hstep hget hvv htt hml hv'
      generalize (qs.getD j []).length = M at *
      generalize total (qs.take j) = T at *
      go_wp2_with (fail)
      refine HM.out.mono ?_
      rintro e w2 ⟨rfl, own2, gr2⟩
      have HO2 := Lib.hid (HP.out w2 own2 gr2)
      have HK2 := Lib.hid (HK.out.trans (Kept.of_grown gr2 HG.out))
      clear own2 gr2
      go_wp2
      go_roundw
      case rel => exact ⟨j + 1, by omega, by go_num, by rw [HT.out], HO2.out, HK2.out⟩
      case measure => simp [intOf]; omega
    · have hkl : j = qs.length := by omega
      subst hkl
      rw [mrq_all] at hown
      rw [total_all qs (Nat.le_refl _)]
      have HS := Lib.hid hown; have HK := Lib.hid hkp
      clear hown hkp
      go_wp2
      go_ret
      exact ⟨rfl, HS.out, HK.out⟩

set_option maxHeartbeats 1000000 in
theorem heldSS_any (A : Option Addr) (n c : Nat) (qs : List (List Int)) (k : Int) (w : World) (h : RdQ w w.heap.size A n (mrkQ k qs)) (hn1 : n ≤ 1048576) (ht : total qs ≤ 1048576) (hk0 : 0 ≤ k) (hk1 : k ≤ 536870912) :
    Calls Tryd.prog 66 #[.slice A n c, .int .i64 k] w fun e w' => e = .returned (.int .i64 (k + total qs)) ∧ w = w' := by
  have hl := h.len
  rw [mrkQ_len] at hl
  subst hl
  go_enter Tryd.func66, Tryd.ntmps66
  go_wp2
  go_loop [1, 5] (fun v i => ∃ j : Nat, j ≤ qs.length ∧ i = .int .i64 j ∧ v = .int .i64 (k + total (qs.take j))) (fun _ i => qs.length - (intOf i).toNat)
  case atStart => exact ⟨0, Nat.zero_le _, rfl, by simp [total]⟩
  case round =>
    obtain ⟨j, hj, rfl, rfl⟩ := hrel
    by_cases hlt : j < qs.length
    · obtain ⟨b, off, rfl, hbb, hcells⟩ := h.2 (by omega)
      obtain ⟨A', c', hcell, _, hrd⟩ := hcells j hlt
      rw [mrkQ_at k hlt, markL_len] at hcell hrd
      have htt := total_take hlt
      have htl := total_le hlt
      have HM := Lib.hid (held_any A' (qs.getD j []).length c' (k + total (qs.take j)) w hrd (by omega) (by omega) (by omega))
      have HT : Hid (k + (total (qs.take (j + 1)) : Nat) = k + total (qs.take j) + (qs.getD j []).length) := Lib.hid (by rw [htt]; omega)
      clear hcells h hrd htt
      generalize (qs.getD j []).length = M at *
      generalize total (qs.take j) = T at *
      have hd : decide (k + (T : Int) + (M : Int) < 0) = false := decide_eq_false (by omega)
      go_wp2_with (fail)
      refine HM.out.mono ?_
      rintro e w' ⟨rfl, rfl⟩
      go_wp2
      go_round
      case rel => exact ⟨j + 1, by omega, by go_num, by rw [HT.out]⟩
      case measure => simp [intOf]; omega
    · have hkl : j = qs.length := by omega
      subst hkl
      rw [total_all qs (Nat.le_refl _)]
      clear h
      go_wp2
      go_ret
      exact ⟨rfl, rfl⟩

set_option maxHeartbeats 1000000 in
theorem markSeq_any (A : Option Addr) (n c : Nat) (hs : Nat → Option Addr × Nat) (qs : List (List Int)) (k : Int) (w : World) (lo hi : Nat) (h : OwnQ w lo hi (.slice A n c) hs qs) (hn : qs.length = n) (hn1 : n ≤ 1048576) (ht : total qs ≤ 1048576) (hk0 : 0 ≤ k) (hk1 : k ≤ 536870912) :
    Calls Tryd.prog 27 #[.agg #[.slice A n c], .int .i64 k] w fun e w' => e = .returned (.int .i64 (k + total qs)) ∧ OwnQ w' lo hi (.slice A n c) hs (mrkQ k qs) ∧ Kept lo hi w w' := by
  have hb := box_below w (.slice A n c) 47
  have HS := Lib.hid (markSS_any A n c hs qs k _ lo hi (h.below hb) hn hn1 ht hk0 hk1)
  have HB := Lib.hid (Kept.of_below hb lo hi)
  clear h hb
  go_enter Tryd.func27, Tryd.ntmps27
  go_wp2_with (fail)
  refine HS.out.mono ?_
  rintro e w' ⟨rfl, own, kp⟩
  have HO := Lib.hid own; have HK := Lib.hid (HB.out.trans kp)
  clear own kp
  go_wp2
  go_ret
  exact ⟨rfl, HO.out, HK.out⟩

/-- Both are valid and equal. -/
def sameQ (zs ys : List (List Int)) : Bool := validQ zs && (validQ ys && decide (zs = ys))
theorem two_boxes (w : World) (a b : Value) (t : TypeId) : Below w.heap.size w ((w.alloc (.cells #[a] t)).alloc (.cells #[b] t)) ∧ ((w.alloc (.cells #[a] t)).alloc (.cells #[b] t)).cell? ⟨w.heap.size, 0, none⟩ = some a ∧
    ((w.alloc (.cells #[a] t)).alloc (.cells #[b] t)).cell? ⟨w.heap.size + 1, 0, none⟩ = some b ∧ ((w.alloc (.cells #[a] t)).alloc (.cells #[b] t)).heap.size = w.heap.size + 1 + 1 := by
  have e : (w.alloc (.cells #[a] t)).heap.size = w.heap.size + 1 := by simp
  refine ⟨((Below.refl _ _).alloc (Nat.le_refl _) _).alloc (by simp) _, ?_, ?_, by simp⟩
  · refine cell_of_row _ _ 0 #[a] t (0, 0) ?_
    rw [Below.heap_alloc _ _ _ (by simp)]
    exact heap_alloc_new _ _
  · refine cell_of_row _ _ 0 #[b] t (0, 0) ?_
    rw [← e]
    exact heap_alloc_new _ _

end Go.Proofs.YtfanapddopafiaaDoor
