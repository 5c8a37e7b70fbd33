/- A sequent is valid: ValidSeq of the program and of the model. The laws' helpers at sequents, and the marks at rows of slices. Two sequents compared: SameSeq of the program and of the model. -/
import Derived.Test.YthbkcpacgnmcfaaGreatDoorRowH
import Derived.Test.YthbkcpacgnmcfaaGreatDoorQJoinS
namespace Go.Proofs.YthbkcpacgnmcfaaGreatDoor
set_option linter.unusedSimpArgs false
set_option linter.unusedVariables false
open Go.ChangeAt Go.ChangeShapes Go.RowKit Go.WideShapes

/-- The sequent is valid. -/
def validQ (qs : List (List Int)) : Bool := decide (qs.length ≤ 10) && (qs.all validB && decide (total qs ≤ 60))
theorem validQ_long {qs : List (List Int)} (h : 10 < qs.length) : validQ qs = false := by unfold validQ; rw [decide_eq_false (by omega)]; rfl
theorem validQ_bad {qs : List (List Int)} {k : Nat} (h : k < qs.length) (hb : validB (qs.getD k []) = false) : validQ qs = false := by
  have : qs.all validB = false := by
    rw [List.all_eq_false]
    exact ⟨_, getD_mem h, by rw [hb]; decide⟩
  simp [validQ, this]
theorem allv_step {qs : List (List Int)} {k : Nat} (h : k < qs.length) (ha : (qs.take k).all validB = true) (hb : validB (qs.getD k []) = true) : (qs.take (k + 1)).all validB = true := by
  rw [List.take_succ_eq_append_getElem h, List.all_append, ha]
  have e : qs.getD k [] = qs[k] := by simp [List.getD, h]
  rw [e] at hb
  simp [hb]
theorem validQ_len {qs : List (List Int)} (h : validQ qs = true) : qs.length ≤ 10 := by
  by_cases hl : qs.length ≤ 10
  · exact hl
  · rw [validQ_long (by omega)] at h; cases h
theorem validQ_mem {qs : List (List Int)} (h : validQ qs = true) {q : List Int} (hq : q ∈ qs) : validB q = true := by
  unfold validQ at h
  simp only [Bool.and_eq_true, List.all_eq_true] at h
  exact h.2.1 q hq
theorem total_valid {qs : List (List Int)} (h : qs.all validB = true) : total qs ≤ 24 * qs.length := by
  induction qs with
  | nil => simp [total]
  | cons q qs ih =>
    simp only [List.all_cons, Bool.and_eq_true] at h
    have := ih h.2
    have hl := valid_len h.1
    simp [total] at this ⊢
    omega

set_option maxHeartbeats 1000000 in
theorem validSeq_impl (A : Option Addr) (n c : Nat) (qs : List (List Int)) (w : World) (h : RdQ w w.heap.size A n qs) (hn : n ≤ maxLen) (ht : Arit w) :
    Calls Tryz.prog 78 #[.agg #[.slice A n c]] w fun e w' => e = .returned (.bool (validQ qs)) ∧ Below w.heap.size w w' := by
  have hl := h.len
  subst hl
  unfold maxLen at hn
  have hB := ht.lt
  obtain ⟨o, ho⟩ : ∃ o, Obj.cells #[Value.slice A qs.length c] 64 = o := ⟨_, rfl⟩
  have hb0 : Below w.heap.size w (w.alloc (.cells #[Value.slice A qs.length c] 64)) := (Below.refl _ _).alloc (Nat.le_refl _) _
  have h1 := (h.below hb0).more hb0.size
  have ht1 := ht.below hb0 hB
  have hc1 : (w.alloc (.cells #[Value.slice A qs.length c] 64)).cell? ⟨w.heap.size, 0, none⟩ = some (.slice A qs.length c) := by simp
  by_cases hlong : 10 < qs.length
  · have HE : Hid (false = validQ qs) := Lib.hid (validQ_long hlong).symm
    have hd : decide ((10 : Int) < (qs.length : Int)) = true := decide_eq_true (by omega)
    have HB := Lib.hid hb0
    clear h h1 ht ht1 hb0 ho hc1
    go_enter Tryz.func78, Tryz.ntmps78
    go_wp2
    go_ret
    exact ⟨ret_bool' HE.out, HB.out⟩
  · have hd : decide ((10 : Int) < (qs.length : Int)) = false := decide_eq_false (by omega)
    have HB := Lib.hid hb0
    clear h ht hb0 ho
    go_enter Tryz.func78, Tryz.ntmps78
    go_wp2
    generalize hW : w.alloc (.cells #[Value.slice A qs.length c] 64) = w1 at *
    go_loop [3, 5, 13] (fun s _ i => ∃ k : Nat, k ≤ qs.length ∧ i = .int .i64 k ∧ s = .int .i64 (total (qs.take k)) ∧ (qs.take k).all validB = true) (fun _ _ i => qs.length - (intOf i).toNat)
    case atStart => exact ⟨0, Nat.zero_le _, rfl, by simp [total], by simp⟩
    case round =>
      obtain ⟨k, hk, rfl, rfl, hall⟩ := hrel
      by_cases hlt : k < qs.length
      · obtain ⟨b, off, rfl, hbb, hcells⟩ := h1.2 (by omega)
        obtain ⟨A', c', hcell, hcc, hrd⟩ := hcells k hlt
        have hV := validForm_impl A' _ c' _ w1 hrd ht1 hcc
        have htt := total_take hlt
        have hta := total_valid hall
        rw [List.length_take] at hta
        cases hv : validB (qs.getD k []) with
        | false =>
          have HE : Hid (false = validQ qs) := Lib.hid (validQ_bad hlt hv).symm
          rw [hv] at hV
          have HV := Lib.hid hV
          clear hV hcells h1 ht1 htt hta hall hrd hv
          generalize (qs.getD k []).length = M at *
          go_wp2_with (go_at_call 37; refine HV.out.mono ?_; rintro e w' ⟨rfl, rfl⟩)
          go_ret
          exact ⟨ret_bool' HE.out, HB.out⟩
        | true =>
          have hml := valid_len hv
          have HA := Lib.hid (allv_step hlt hall hv)
          rw [hv] at hV
          have HV := Lib.hid hV
          clear hV hcells h1 ht1 hall hrd hv
          generalize (qs.getD k []).length = M at *
          generalize total (qs.take k) = T at *
          have HT := Lib.hid htt
          clear htt
          go_wp2_with (go_at_call 37; refine HV.out.mono ?_; rintro e w' ⟨rfl, rfl⟩)
          go_round
          case rel => exact ⟨k + 1, by omega, by go_num, by rw [HT.out]; go_num, HA.out⟩
          case measure => simp [intOf]; omega
      · have hkl : k = qs.length := by omega
        subst hkl
        rw [total_all qs (Nat.le_refl _)]
        rw [List.take_of_length_le (Nat.le_refl _)] at hall
        have htv := total_valid hall
        have HE : Hid (decide (((total qs : Nat) : Int) ≤ 60) = validQ qs) := Lib.hid (by
          unfold validQ
          rw [hall, decide_eq_true (show qs.length ≤ 10 by omega)]
          simp only [Bool.true_and]
          by_cases h : total qs ≤ 60
          · rw [decide_eq_true h, decide_eq_true (by omega)]
          · rw [decide_eq_false h, decide_eq_false (by omega)])
        generalize total qs = T at *
        clear hall h1 ht1
        go_wp2
        go_ret
        exact ⟨ret_bool' (by rw [← HE.out]), HB.out⟩

set_option maxHeartbeats 1000000 in
theorem sValidSeq_any (A : Option Addr) (n c : Nat) (qs : List (List Int)) (w : World) (h : RdQ w w.heap.size A n qs) (hn : n ≤ 1048576) (hc : n ≤ c) :
    Calls Tryz.prog 56 #[.agg #[.slice A n c]] w fun e w' => e = .returned (.bool (validQ qs)) ∧ Below w.heap.size w w' := by
  have hl := h.len
  subst hl
  have hb0 : Below w.heap.size w (w.alloc (.cells #[Value.slice A qs.length c] 64)) := (Below.refl _ _).alloc (Nat.le_refl _) _
  have h1 := (h.below hb0).more hb0.size
  have hc1 : (w.alloc (.cells #[Value.slice A qs.length c] 64)).cell? ⟨w.heap.size, 0, none⟩ = some (.slice A qs.length c) := by simp
  have HB := Lib.hid hb0
  clear h hb0
  go_enter Tryz.func56, Tryz.ntmps56
  go_wp2
  generalize hW : w.alloc (.cells #[Value.slice A qs.length c] 64) = w1 at *
  go_loop [3, 4] (fun s i => ∃ k : Nat, k ≤ qs.length ∧ i = .int .i64 k ∧ s = .int .i64 (total (qs.take k)) ∧ (qs.take k).all validB = true) (fun _ i => qs.length - (intOf i).toNat)
  case atStart => exact ⟨0, Nat.zero_le _, rfl, by simp [total], by simp⟩
  case round =>
    obtain ⟨k, hk, rfl, rfl, hall⟩ := hrel
    by_cases hlt : k < qs.length
    · obtain ⟨b, off, rfl, hbb, hcells⟩ := h1.2 (by omega)
      obtain ⟨A', c', hcell, hcc, hrd⟩ := hcells k hlt
      have hV := sValidForm_any A' _ c' _ w1 hrd
      have htt := total_take hlt
      have hta := total_valid hall
      rw [List.length_take] at hta
      cases hv : validB (qs.getD k []) with
      | false =>
        have HE : Hid (false = validQ qs) := Lib.hid (validQ_bad hlt hv).symm
        rw [hv] at hV
        have HV := Lib.hid hV
        clear hV hcells h1 htt hta hall hrd hv
        generalize (qs.getD k []).length = M at *
        go_wp2_with (go_at_call 33; refine HV.out.mono ?_; rintro e w' ⟨rfl, rfl⟩)
        go_ret
        exact ⟨ret_bool' HE.out, HB.out⟩
      | true =>
        have hml := valid_len hv
        have HA := Lib.hid (allv_step hlt hall hv)
        rw [hv] at hV
        have HV := Lib.hid hV
        clear hV hcells h1 hall hrd hv
        generalize (qs.getD k []).length = M at *
        generalize total (qs.take k) = T at *
        have HT := Lib.hid htt
        clear htt
        go_wp2_with (go_at_call 33; refine HV.out.mono ?_; rintro e w' ⟨rfl, rfl⟩)
        go_round
        case rel => exact ⟨k + 1, by omega, by go_num, by rw [HT.out]; go_num, HA.out⟩
        case measure => simp [intOf]; omega
    · have hkl : k = qs.length := by omega
      subst hkl
      rw [total_all qs (Nat.le_refl _)]
      rw [List.take_of_length_le (Nat.le_refl _)] at hall
      have htv := total_valid hall
      by_cases hlong : 10 < qs.length
      · have HE : Hid (false = validQ qs) := Lib.hid (validQ_long hlong).symm
        have hd : decide ((qs.length : Int) ≤ 10) = false := decide_eq_false (by omega)
        generalize total qs = T at *
        clear hall h1
        go_wp2
        go_ret
        exact ⟨ret_bool' HE.out, HB.out⟩
      · have hd : decide ((qs.length : Int) ≤ 10) = true := decide_eq_true (by omega)
        have HE : Hid (decide (((total qs : Nat) : Int) ≤ 60) = validQ qs) := Lib.hid (by
          unfold validQ
          rw [hall, decide_eq_true (show qs.length ≤ 10 by omega)]
          simp only [Bool.true_and]
          by_cases h : total qs ≤ 60
          · rw [decide_eq_true h, decide_eq_true (by omega)]
          · rw [decide_eq_false h, decide_eq_false (by omega)])
        generalize total qs = T at *
        clear hall h1
        go_wp2
        go_ret
        exact ⟨ret_bool' (by rw [← HE.out]), HB.out⟩

theorem box_below (w : World) (v : Value) (t : TypeId) : Below w.heap.size w (w.alloc (.cells #[v] t)) := (Below.refl _ _).alloc (Nat.le_refl _) _

theorem undrew {w w' : World} (h : Below w.drew.heap.size w.drew w') : Below w.heap.size w w' := ⟨h.os, h.tape, h.output, h.size, h.block⟩
/-- The marks that a row of slices bears. -/
def mrkQ (k : Int) : List (List Int) → List (List Int)
  | [] => []
  | q :: qs => markL k q.length :: mrkQ (k + q.length) qs
theorem mrkQ_len : ∀ (k : Int) (qs : List (List Int)), (mrkQ k qs).length = qs.length
  | _, [] => rfl
  | k, q :: qs => by simp [mrkQ, mrkQ_len]
theorem mrkQ_app : ∀ (k : Int) (xs ys : List (List Int)), mrkQ k (xs ++ ys) = mrkQ k xs ++ mrkQ (k + total xs) ys
  | k, [], ys => by simp [mrkQ, total]
  | k, x :: xs, ys => by
    have e : k + (x.length : Int) + (total xs : Nat) = k + (total (x :: xs) : Nat) := by simp [total]; omega
    rw [List.cons_append, mrkQ, mrkQ, mrkQ_app, e]; rfl
/-- How far the marking of a row has come. -/
def mrq (qs : List (List Int)) (k : Int) (j : Nat) : List (List Int) := mrkQ k (qs.take j) ++ qs.drop j
theorem mrq_zero (qs : List (List Int)) (k : Int) : mrq qs k 0 = qs := by simp [mrq, mrkQ]
theorem mrq_all (qs : List (List Int)) (k : Int) : mrq qs k qs.length = mrkQ k qs := by simp [mrq]
theorem mrq_len (qs : List (List Int)) (k : Int) {j : Nat} (h : j ≤ qs.length) : (mrq qs k j).length = qs.length := by
  unfold mrq; rw [List.length_append, mrkQ_len, List.length_take, List.length_drop]; omega
theorem mrq_get (qs : List (List Int)) (k : Int) {j : Nat} (h : j < qs.length) : (mrq qs k j).getD j [] = qs.getD j [] := by
  have hl : (mrkQ k (qs.take j)).length = j := by rw [mrkQ_len, List.length_take]; omega
  unfold mrq
  rw [List.getD_eq_getElem?_getD, List.getElem?_append_right (by omega), hl, Nat.sub_self, List.getElem?_drop]
  simp [List.getD]
theorem mrq_step (qs : List (List Int)) (k : Int) {j : Nat} (h : j < qs.length) : (mrq qs k j).set j (markL (k + total (qs.take j)) (qs.getD j []).length) = mrq qs k (j + 1) := by
  have hl : (mrkQ k (qs.take j)).length = j := by rw [mrkQ_len, List.length_take]; omega
  unfold mrq
  rw [List.set_append_right _ _ (by omega), hl, Nat.sub_self, List.drop_eq_getElem_cons h, List.set_cons_zero, List.take_succ_eq_append_getElem h, mrkQ_app, List.append_assoc]
  have e3 : qs.getD j [] = qs[j] := by simp [List.getD, h]
  rw [e3]
  rfl

set_option maxHeartbeats 1000000 in
theorem markSS_any (A : Option Addr) (n c : Nat) (hs : Nat → Option Addr × Nat) (qs : List (List Int)) (k : Int) (w : World) (lo hi : Nat) (h : OwnQ w lo hi (.slice A n c) hs qs) (hn : qs.length = n) (hn1 : n ≤ 1048576) (ht : total qs ≤ 1048576) (hk0 : 0 ≤ k) (hk1 : k ≤ 536870912) :
    Calls Tryz.prog 13 #[.slice A n c, .int .i64 k] w fun e w' => e = .returned (.int .i64 (k + total qs)) ∧ OwnQ w' lo hi (.slice A n c) hs (mrkQ k qs) ∧ Kept lo hi w w' := by
  subst hn
  go_enter Tryz.func13, Tryz.ntmps13
  go_wp2
  go_loopw [1, 5] (fun v i wr => ∃ j : Nat, j ≤ qs.length ∧ i = .int .i64 j ∧ v = .int .i64 (k + total (qs.take j)) ∧ OwnQ wr lo hi (.slice A qs.length c) hs (mrq qs k j) ∧ Kept lo hi w wr) (fun _ i _ => qs.length - (intOf i).toNat)
  case atStart => exact ⟨0, Nat.zero_le _, rfl, by simp [total], by rw [mrq_zero]; exact h, Kept.refl _ _ _⟩
  case round =>
    obtain ⟨j, hj, rfl, rfl, hown, hkp⟩ := hrel
    clear h
    by_cases hlt : j < qs.length
    · have hml := mrq_len qs k hj
      have hstep := mrq_step qs k hlt
      have hget := mrq_get qs k hlt
      have htt := total_take hlt
      have htl := total_le hlt
      obtain ⟨g, cap, hv', hlo, hgl⟩ := hown.outer.form (by omega)
      have hA : A = some ⟨g, 0, none⟩ ∧ c = cap := by rw [hml] at hv'; injection hv' with a b c'; exact ⟨a, c'⟩
      obtain ⟨rfl, rfl⟩ := hA
      obtain ⟨_, hcell⟩ := hown.at hml hlt
      have hin := hown.inner j (by rw [hml]; exact hlt)
      rw [hget] at hin
      have hvv : hv hs (mrq qs k j) j = .slice (hs j).1 (qs.getD j []).length (hs j).2 := by unfold hv; rw [hget]
      have hput := fun (w' : World) (a : _) (b : _) => hown.put (w' := w') (q := markL (k + total (qs.take j)) (qs.getD j []).length) (by rw [hml]; exact hlt) (by rw [hget, markL_len]) a b
      rw [hstep] at hput
      have hgr : ∀ b, (hv hs (mrq qs k j) j).ownBlock = some b → lo ≤ b ∧ b < hi := fun b e => ⟨(hin.lt b e).1, hown.top j b (by rw [hml]; exact hlt) e⟩
      rw [hvv] at hin hcell hput hgr
      rw [markL_len] at hput
      have HM := Lib.hid (mark_any (hs j).1 (qs.getD j []).length (hs j).2 (qs.getD j []) (k + total (qs.take j)) wr lo hin (by omega) (by omega) (by omega))
      have HP := Lib.hid hput; have HG := Lib.hid hgr; have HK := Lib.hid hkp
      have HT : Hid (k + (total (qs.take (j + 1)) : Nat) = k + total (qs.take j) + (qs.getD j []).length) := Lib.hid (by rw [htt]; omega)
      clear hin hput hgr hkp hown hstep hget hvv htt hml hv'
      generalize (qs.getD j []).length = M at *
      generalize total (qs.take j) = T at *
      go_wp2_with (fail)
      refine HM.out.mono ?_
      rintro e w2 ⟨rfl, own2, gr2⟩
      have HO2 := Lib.hid (HP.out w2 own2 gr2)
      have HK2 := Lib.hid (HK.out.trans (Kept.of_grown gr2 HG.out))
      clear own2 gr2
      go_wp2
      go_roundw
      case rel => exact ⟨j + 1, by omega, by go_num, by rw [HT.out], HO2.out, HK2.out⟩
      case measure => simp [intOf]; omega
    · have hkl : j = qs.length := by omega
      subst hkl
      rw [mrq_all] at hown
      rw [total_all qs (Nat.le_refl _)]
      have HS := Lib.hid hown; have HK := Lib.hid hkp
      clear hown hkp
      go_wp2
      go_ret
      exact ⟨rfl, HS.out, HK.out⟩

set_option maxHeartbeats 1000000 in
theorem sameForms_any (A B : Option Addr) (n m c d : Nat) (zs ys : List (List Int)) (w : World) (P Q : Nat) (h : RdQ w P A n zs) (h' : RdQ w Q B m ys) (hn : n ≤ 1048576) (hm : m ≤ 1048576) (hz : ∀ q ∈ zs, q.length ≤ 1048576) (hy : ∀ q ∈ ys, q.length ≤ 1048576) :
    Calls Tryz.prog 70 #[.slice A n c, .slice B m d] w (SameD zs ys w) := by
  have hl := h.len
  have hl' := h'.len
  subst hl hl'
  by_cases hlen : zs.length = ys.length
  · have hd : ((zs.length : Int) != (ys.length : Int)) = false := by simp; omega
    have H := Lib.hid hlen; clear hlen
    go_enter Tryz.func70, Tryz.ntmps70
    go_wp2
    go_loopw [5] (fun i wr => ∃ k : Nat, k ≤ zs.length ∧ i = .int .i64 k ∧ zs.take k = ys.take k ∧ ∃ m, wr = w.drewN m) (fun i _ => zs.length - (intOf i).toNat)
    case atStart => exact ⟨0, Nat.zero_le _, rfl, by simp, 0, rfl⟩
    case round =>
      obtain ⟨k, hk, rfl, htk, hb⟩ := hrel
      clear hd
      by_cases hlt : k < zs.length
      · have hlt' : k < ys.length := by have := H.out; omega
        obtain ⟨b, off, rfl, hbb, hcells⟩ := h.2 (by omega)
        obtain ⟨b', off', rfl, hbb', hcells'⟩ := h'.2 (by omega)
        obtain ⟨A1, c1, hc1, _, hr1⟩ := hcells k hlt
        obtain ⟨A2, c2, hc2, _, hr2⟩ := hcells' k hlt'
        have hc := drewN_cell hb hc1
        have hc' := drewN_cell hb hc2
        have HT := Lib.hid htk; have HB := Lib.hid hb
        have HZ := Lib.hid (hz _ (getD_mem hlt)); have HY := Lib.hid (hy _ (getD_mem hlt'))
        have HC : Hid (∀ j, Calls Tryz.prog 69 #[.slice A1 (zs.getD k []).length c1, .slice A2 (ys.getD k []).length c2] (wr.drewN j) fun e w' => e = .returned (.bool (decide (zs.getD k [] = ys.getD k []))) ∧ ∃ m, w' = (wr.drewN j).drewN m) :=
          Lib.hid fun j => sameInts_d A1 A2 _ _ c1 c2 _ _ _ P Q (hr1.keep fun p _ => by obtain ⟨m, rfl⟩ := hb; rfl) (hr2.keep fun p _ => by obtain ⟨m, rfl⟩ := hb; rfl) HZ.out HY.out
        clear hcells hcells' htk hb h h' hz hy hr1 hr2 hc1 hc2
        by_cases he : zs.getD k [] = ys.getD k []
        · have HE := Lib.hid (takeq_step HT.out hlt hlt' he)
          rw [decide_eq_true he] at HC
          clear he HZ HY
          generalize (zs.getD k []).length = l1 at *
          generalize (ys.getD k []).length = l2 at *
          go_wp2
          go_quiet (first | (go_at_call 69; refine Calls.quiet_of (HC.out _)))
          go_wp2
          go_roundw
          case rel => exact ⟨k + 1, by omega, by go_num, HE.out, drewN_more HB.out _⟩
          case measure => simp [intOf]; omega
        · have HE := Lib.hid (neq_at he)
          rw [decide_eq_false he] at HC
          clear he HZ HY
          generalize (zs.getD k []).length = l1 at *
          generalize (ys.getD k []).length = l2 at *
          go_wp2
          go_quiet (first | (go_at_call 69; refine Calls.quiet_of (HC.out _)))
          go_wp2
          go_ret
          exact ⟨ret_no HE.out, drewN_more HB.out _⟩
      · have hkl : k = zs.length := by omega
        subst hkl
        have e : zs = ys := by
          have := htk
          rw [List.take_of_length_le (Nat.le_refl _), List.take_of_length_le (by have := H.out; omega)] at this
          exact this
        have HE := Lib.hid e; have HB := Lib.hid hb
        clear e htk hb h h' hz hy
        go_wp2
        go_ret
        exact ⟨ret_yes HE.out, HB.out⟩
  · have hd : ((zs.length : Int) != (ys.length : Int)) = true := by simp; omega
    have HE : Hid (¬ zs = ys) := Lib.hid fun e => hlen (by rw [e])
    clear hlen h h' hz hy
    go_enter Tryz.func70, Tryz.ntmps70
    go_wp2
    go_ret
    exact ⟨ret_no HE.out, 0, rfl⟩

set_option maxHeartbeats 1000000 in
theorem equalFunc_any (A B : Option Addr) (n m c d : Nat) (zs ys : List (List Int)) (w : World) (P Q : Nat) (h : RdQ w P A n zs) (h' : RdQ w Q B m ys) (hn : n ≤ 1048576) (hm : m ≤ 1048576) (hz : ∀ q ∈ zs, q.length ≤ 1048576) (hy : ∀ q ∈ ys, q.length ≤ 1048576) :
    Calls Tryz.prog 116 #[.slice A n c, .slice B m d, .func (.func 102) #[] #[]] w (SameD zs ys w) := by
  have hl := h.len
  have hl' := h'.len
  subst hl hl'
  by_cases hlen : zs.length = ys.length
  · have hd : ((zs.length : Int) != (ys.length : Int)) = false := by simp; omega
    have H := Lib.hid hlen; clear hlen
    go_enter Tryz.func116, Tryz.ntmps116
    go_wp2
    go_loopw [17] (fun i wr => ∃ k : Nat, k ≤ zs.length ∧ i = .int .i64 k ∧ zs.take k = ys.take k ∧ ∃ m, wr = w.drewN m) (fun i _ => zs.length - (intOf i).toNat)
    case atStart => exact ⟨0, Nat.zero_le _, rfl, by simp, 0, rfl⟩
    case round =>
      obtain ⟨k, hk, rfl, htk, hb⟩ := hrel
      clear hd
      by_cases hlt : k < zs.length
      · have hlt' : k < ys.length := by have := H.out; omega
        obtain ⟨b, off, rfl, hbb, hcells⟩ := h.2 (by omega)
        obtain ⟨b', off', rfl, hbb', hcells'⟩ := h'.2 (by omega)
        obtain ⟨A1, c1, hc1, _, hr1⟩ := hcells k hlt
        obtain ⟨A2, c2, hc2, _, hr2⟩ := hcells' k hlt'
        have hc := drewN_cell hb hc1
        have hc' := drewN_cell hb hc2
        have HT := Lib.hid htk; have HB := Lib.hid hb
        have HZ := Lib.hid (hz _ (getD_mem hlt)); have HY := Lib.hid (hy _ (getD_mem hlt'))
        have HC : Hid (Calls Tryz.prog 102 #[.slice A1 (zs.getD k []).length c1, .slice A2 (ys.getD k []).length c2] wr fun e w' => e = .returned (.bool (decide (zs.getD k [] = ys.getD k []))) ∧ ∃ m, w' = wr.drewN m) :=
          Lib.hid (equal_d A1 A2 _ _ c1 c2 _ _ _ P Q (hr1.keep fun p _ => by obtain ⟨m, rfl⟩ := hb; rfl) (hr2.keep fun p _ => by obtain ⟨m, rfl⟩ := hb; rfl) HZ.out HY.out)
        clear hcells hcells' htk hb h h' hz hy hr1 hr2 hc1 hc2
        by_cases he : zs.getD k [] = ys.getD k []
        · have HE := Lib.hid (takeq_step HT.out hlt hlt' he)
          rw [decide_eq_true he] at HC
          clear he HZ HY
          generalize (zs.getD k []).length = l1 at *
          generalize (ys.getD k []).length = l2 at *
          go_wp2_with (fail)
          refine HC.out.mono ?_
          rintro e wr2 ⟨rfl, hb2⟩
          have HB2 := Lib.hid (drewN_trans HB.out hb2)
          clear hb2
          go_wp2
          go_roundw
          case rel => exact ⟨k + 1, by omega, by go_num, HE.out, HB2.out⟩
          case measure => simp [intOf]; omega
        · have HE := Lib.hid (neq_at he)
          rw [decide_eq_false he] at HC
          clear he HZ HY
          generalize (zs.getD k []).length = l1 at *
          generalize (ys.getD k []).length = l2 at *
          go_wp2_with (fail)
          refine HC.out.mono ?_
          rintro e wr2 ⟨rfl, hb2⟩
          have HB2 := Lib.hid (drewN_trans HB.out hb2)
          clear hb2
          go_wp2
          go_ret
          exact ⟨ret_no HE.out, HB2.out⟩
      · have hkl : k = zs.length := by omega
        subst hkl
        have e : zs = ys := by
          have := htk
          rw [List.take_of_length_le (Nat.le_refl _), List.take_of_length_le (by have := H.out; omega)] at this
          exact this
        have HE := Lib.hid e; have HB := Lib.hid hb
        clear e htk hb h h' hz hy
        go_wp2
        go_ret
        exact ⟨ret_yes HE.out, HB.out⟩
  · have hd : ((zs.length : Int) != (ys.length : Int)) = true := by simp; omega
    have HE : Hid (¬ zs = ys) := Lib.hid fun e => hlen (by rw [e])
    clear hlen h h' hz hy
    go_enter Tryz.func116, Tryz.ntmps116
    go_wp2
    go_ret
    exact ⟨ret_no HE.out, 0, rfl⟩

theorem two_boxes (w : World) (a b : Value) (t : TypeId) : Below w.heap.size w ((w.alloc (.cells #[a] t)).alloc (.cells #[b] t)) ∧ ((w.alloc (.cells #[a] t)).alloc (.cells #[b] t)).cell? ⟨w.heap.size, 0, none⟩ = some a ∧
    ((w.alloc (.cells #[a] t)).alloc (.cells #[b] t)).cell? ⟨w.heap.size + 1, 0, none⟩ = some b ∧ ((w.alloc (.cells #[a] t)).alloc (.cells #[b] t)).heap.size = w.heap.size + 1 + 1 := by
  have e : (w.alloc (.cells #[a] t)).heap.size = w.heap.size + 1 := by simp
  refine ⟨((Below.refl _ _).alloc (Nat.le_refl _) _).alloc (by simp) _, ?_, ?_, by simp⟩
  · refine cell_of_row _ _ 0 #[a] t (0, 0) ?_
    rw [Below.heap_alloc _ _ _ (by simp)]
    exact heap_alloc_new _ _
  · refine cell_of_row _ _ 0 #[b] t (0, 0) ?_
    rw [← e]
    exact heap_alloc_new _ _
end Go.Proofs.YthbkcpacgnmcfaaGreatDoor
