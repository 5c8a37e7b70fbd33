/- A sequent is valid: ValidSeq of the program and of the model. The laws' helpers at sequents, and the marks at rows of slices. Two sequents compared: SameSeq of the program and of the model. -/
import Derived.Test.YtgpocnapkflihaaGreatDoorRowH
import Derived.Test.YtgpocnapkflihaaGreatDoorQEqD
namespace Go.Proofs.YtgpocnapkflihaaGreatDoor
set_option linter.unusedSimpArgs false
set_option linter.unusedVariables false
open Go.ChangeAt Go.ChangeShapes Go.RowKit Go.WideShapes

/-- The sequent is valid. -/
def validQ (qs : List (List Int)) : Bool := decide (qs.length ≤ 10) && (qs.all validB && decide (total qs ≤ 60))
theorem validQ_long {qs : List (List Int)} (h : 10 < qs.length) : validQ qs = false := by unfold validQ; rw [decide_eq_false (by omega)]; rfl
theorem validQ_bad {qs : List (List Int)} {k : Nat} (h : k < qs.length) (hb : validB (qs.getD k []) = false) : validQ qs = false := by
  have : qs.all validB = false := by
    rw [List.all_eq_false]
    exact ⟨_, getD_mem h, by rw [hb]; decide⟩
  simp [validQ, this]
theorem allv_step {qs : List (List Int)} {k : Nat} (h : k < qs.length) (ha : (qs.take k).all validB = true) (hb : validB (qs.getD k []) = true) : (qs.take (k + 1)).all validB = true := by
  rw [List.take_succ_eq_append_getElem h, List.all_append, ha]
  have e : qs.getD k [] = qs[k] := by simp [List.getD, h]
  rw [e] at hb
  simp [hb]
theorem validQ_at {qs : List (List Int)} (h : validQ qs = true) {k : Nat} (hk : k < qs.length) : validB (qs.getD k []) = true := by
  cases hb : validB (qs.getD k []) with
  | true => rfl
  | false => rw [validQ_bad hk hb] at h; cases h
theorem validQ_len {qs : List (List Int)} (h : validQ qs = true) : qs.length ≤ 10 := by
  by_cases hl : qs.length ≤ 10
  · exact hl
  · rw [validQ_long (by omega)] at h; cases h
theorem validQ_mem {qs : List (List Int)} (h : validQ qs = true) {q : List Int} (hq : q ∈ qs) : validB q = true := by
  unfold validQ at h
  simp only [Bool.and_eq_true, List.all_eq_true] at h
  exact h.2.1 q hq
theorem total_valid {qs : List (List Int)} (h : qs.all validB = true) : total qs ≤ 24 * qs.length := by
  induction qs with
  | nil => simp [total]
  | cons q qs ih =>
    simp only [List.all_cons, Bool.and_eq_true] at h
    have := ih h.2
    have hl := valid_len h.1
    simp [total] at this ⊢
    omega

theorem box_below (w : World) (v : Value) (t : TypeId) : Below w.heap.size w (w.alloc (.cells #[v] t)) := (Below.refl _ _).alloc (Nat.le_refl _) _

theorem undrew {w w' : World} (h : Below w.drew.heap.size w.drew w') : Below w.heap.size w w' := ⟨h.os, h.tape, h.output, h.size, h.block⟩
theorem heap_two (w : World) (a b c : Obj) : (((w.alloc a).alloc b).alloc c).heap[w.heap.size + 1]? = some b := by
  have h : (w.alloc a).heap.size = w.heap.size + 1 := by simp
  rw [Below.heap_alloc _ _ _ (by simp), ← h]
  exact heap_alloc_new _ _
theorem heap_three (w : World) (a b c : Obj) : (((w.alloc a).alloc b).alloc c).heap[w.heap.size + 1 + 1]? = some c := by
  have h : ((w.alloc a).alloc b).heap.size = w.heap.size + 1 + 1 := by simp
  rw [← h]
  exact heap_alloc_new _ _
/-- What the copy of a sequent leaves. -/
def CopiedSeq (w : World) (n : Nat) (qs : List (List Int)) (e : Ending) (w' : World) : Prop :=
  ∃ hs A, e = .returned (.agg #[.slice A n n]) ∧ OwnQ w' w.heap.size w'.heap.size (.slice A n n) hs qs ∧ Below w.heap.size w w'

/-- The marks that a row of slices bears. -/
def mrkQ (k : Int) : List (List Int) → List (List Int)
  | [] => []
  | q :: qs => markL k q.length :: mrkQ (k + q.length) qs
theorem mrkQ_len : ∀ (k : Int) (qs : List (List Int)), (mrkQ k qs).length = qs.length
  | _, [] => rfl
  | k, q :: qs => by simp [mrkQ, mrkQ_len]
theorem mrkQ_app : ∀ (k : Int) (xs ys : List (List Int)), mrkQ k (xs ++ ys) = mrkQ k xs ++ mrkQ (k + total xs) ys
  | k, [], ys => by simp [mrkQ, total]
  | k, x :: xs, ys => by
    have e : k + (x.length : Int) + (total xs : Nat) = k + (total (x :: xs) : Nat) := by simp [total]; omega
    rw [List.cons_append, mrkQ, mrkQ, mrkQ_app, e]; rfl
theorem total_mrk : ∀ (k : Int) (qs : List (List Int)), total (mrkQ k qs) = total qs
  | _, [] => rfl
  | k, q :: qs => by
    have := total_mrk (k + q.length) qs
    simp only [total, mrkQ, List.map_cons, List.sum_cons, markL_len] at this ⊢
    omega
theorem mrkQ_at (k : Int) {qs : List (List Int)} {j : Nat} (h : j < qs.length) : (mrkQ k qs).getD j [] = markL (k + total (qs.take j)) (qs.getD j []).length := by
  have e : qs = qs.take j ++ (qs.getD j [] :: qs.drop (j + 1)) := by
    have e3 : qs.getD j [] = qs[j] := by simp [List.getD, h]
    rw [e3, List.getElem_cons_drop]
    exact (List.take_append_drop _ _).symm
  have hl : (mrkQ k (qs.take j)).length = j := by rw [mrkQ_len, List.length_take]; omega
  conv => lhs; rw [e, mrkQ_app]
  rw [List.getD_eq_getElem?_getD, List.getElem?_append_right (by omega), hl, Nat.sub_self]
  rfl
/-- How far the marking of a row has come. -/
def mrq (qs : List (List Int)) (k : Int) (j : Nat) : List (List Int) := mrkQ k (qs.take j) ++ qs.drop j
theorem mrq_zero (qs : List (List Int)) (k : Int) : mrq qs k 0 = qs := by simp [mrq, mrkQ]
theorem mrq_all (qs : List (List Int)) (k : Int) : mrq qs k qs.length = mrkQ k qs := by simp [mrq]
theorem mrq_len (qs : List (List Int)) (k : Int) {j : Nat} (h : j ≤ qs.length) : (mrq qs k j).length = qs.length := by
  unfold mrq; rw [List.length_append, mrkQ_len, List.length_take, List.length_drop]; omega
theorem mrq_get (qs : List (List Int)) (k : Int) {j : Nat} (h : j < qs.length) : (mrq qs k j).getD j [] = qs.getD j [] := by
  have hl : (mrkQ k (qs.take j)).length = j := by rw [mrkQ_len, List.length_take]; omega
  unfold mrq
  rw [List.getD_eq_getElem?_getD, List.getElem?_append_right (by omega), hl, Nat.sub_self, List.getElem?_drop]
  simp [List.getD]
theorem mrq_step (qs : List (List Int)) (k : Int) {j : Nat} (h : j < qs.length) : (mrq qs k j).set j (markL (k + total (qs.take j)) (qs.getD j []).length) = mrq qs k (j + 1) := by
  have hl : (mrkQ k (qs.take j)).length = j := by rw [mrkQ_len, List.length_take]; omega
  unfold mrq
  rw [List.set_append_right _ _ (by omega), hl, Nat.sub_self, List.drop_eq_getElem_cons h, List.set_cons_zero, List.take_succ_eq_append_getElem h, mrkQ_app, List.append_assoc]
  have e3 : qs.getD j [] = qs[j] := by simp [List.getD, h]
  rw [e3]
  rfl

set_option maxHeartbeats 1000000 in
theorem markSS_any (A : Option Addr) (n c : Nat) (hs : Nat → Option Addr × Nat) (qs : List (List Int)) (k : Int) (w : World) (lo hi : Nat) (h : OwnQ w lo hi (.slice A n c) hs qs) (hn : qs.length = n) (hn1 : n ≤ 1048576) (ht : total qs ≤ 1048576) (hk0 : 0 ≤ k) (hk1 : k ≤ 536870912) :
    Calls Tryz.prog 34 #[.slice A n c, .int .i64 k] w fun e w' => e = .returned (.int .i64 (k + total qs)) ∧ OwnQ w' lo hi (.slice A n c) hs (mrkQ k qs) ∧ Kept lo hi w w' := by
  subst hn
  go_enter Tryz.func34, Tryz.ntmps34
  go_wp2
  go_loopw [1, 5] (fun v i wr => ∃ j : Nat, j ≤ qs.length ∧ i = .int .i64 j ∧ v = .int .i64 (k + total (qs.take j)) ∧ OwnQ wr lo hi (.slice A qs.length c) hs (mrq qs k j) ∧ Kept lo hi w wr) (fun _ i _ => qs.length - (intOf i).toNat)
  case atStart => exact ⟨0, Nat.zero_le _, rfl, by simp [total], by rw [mrq_zero]; exact h, Kept.refl _ _ _⟩
  case round =>
    obtain ⟨j, hj, rfl, rfl, hown, hkp⟩ := hrel
    clear h
    by_cases hlt : j < qs.length
    · have hml := mrq_len qs k hj
      have hstep := mrq_step qs k hlt
      have hget := mrq_get qs k hlt
      have htt := total_take hlt
      have htl := total_le hlt
      obtain ⟨g, cap, hv', hlo, hgl⟩ := hown.outer.form (by omega)
      have hA : A = some ⟨g, 0, none⟩ ∧ c = cap := by rw [hml] at hv'; injection hv' with a b c'; exact ⟨a, c'⟩
      obtain ⟨rfl, rfl⟩ := hA
      obtain ⟨_, hcell⟩ := hown.at hml hlt
      have hin := hown.inner j (by rw [hml]; exact hlt)
      rw [hget] at hin
      have hvv : hv hs (mrq qs k j) j = .slice (hs j).1 (qs.getD j []).length (hs j).2 := by unfold hv; rw [hget]
      have hput := fun (w' : World) (a : _) (b : _) => hown.put (w' := w') (q := markL (k + total (qs.take j)) (qs.getD j []).length) (by rw [hml]; exact hlt) (by rw [hget, markL_len]) a b
      rw [hstep] at hput
      have hgr : ∀ b, (hv hs (mrq qs k j) j).ownBlock = some b → lo ≤ b ∧ b < hi := fun b e => ⟨(hin.lt b e).1, hown.top j b (by rw [hml]; exact hlt) e⟩
      rw [hvv] at hin hcell hput hgr
      rw [markL_len] at hput
      have HM := Lib.hid (mark_any (hs j).1 (qs.getD j []).length (hs j).2 (qs.getD j []) (k + total (qs.take j)) wr lo hin (by omega) (by omega) (by omega))
      have HP := Lib.hid hput; have HG := Lib.hid hgr; have HK := Lib.hid hkp
      have HT : Hid (k + (total (qs.take (j + 1)) : Nat) = k + total (qs.take j) + (qs.getD j []).length) := Lib.hid (by rw [htt]; omega)
      clear hin hput hgr hkp hown hstep hget hvv htt hml hv'
      generalize (qs.getD j []).length = M at *
      generalize total (qs.take j) = T at *
      go_wp2_with (fail)
      refine HM.out.mono ?_
      rintro e w2 ⟨rfl, own2, gr2⟩
      have HO2 := Lib.hid (HP.out w2 own2 gr2)
      have HK2 := Lib.hid (HK.out.trans (Kept.of_grown gr2 HG.out))
      clear own2 gr2
      go_wp2
      go_roundw
      case rel => exact ⟨j + 1, by omega, by go_num, by rw [HT.out], HO2.out, HK2.out⟩
      case measure => simp [intOf]; omega
    · have hkl : j = qs.length := by omega
      subst hkl
      rw [mrq_all] at hown
      rw [total_all qs (Nat.le_refl _)]
      have HS := Lib.hid hown; have HK := Lib.hid hkp
      clear hown hkp
      go_wp2
      go_ret
      exact ⟨rfl, HS.out, HK.out⟩

set_option maxHeartbeats 1000000 in
theorem heldSS_any (A : Option Addr) (n c : Nat) (qs : List (List Int)) (k : Int) (w : World) (h : RdQ w w.heap.size A n (mrkQ k qs)) (hn1 : n ≤ 1048576) (ht : total qs ≤ 1048576) (hk0 : 0 ≤ k) (hk1 : k ≤ 536870912) :
    Calls Tryz.prog 37 #[.slice A n c, .int .i64 k] w fun e w' => e = .returned (.int .i64 (k + total qs)) ∧ w = w' := by
  have hl := h.len
  rw [mrkQ_len] at hl
  subst hl
  go_enter Tryz.func37, Tryz.ntmps37
  go_wp2
  go_loop [1, 5] (fun v i => ∃ j : Nat, j ≤ qs.length ∧ i = .int .i64 j ∧ v = .int .i64 (k + total (qs.take j))) (fun _ i => qs.length - (intOf i).toNat)
  case atStart => exact ⟨0, Nat.zero_le _, rfl, by simp [total]⟩
  case round =>
    obtain ⟨j, hj, rfl, rfl⟩ := hrel
    by_cases hlt : j < qs.length
    · obtain ⟨b, off, rfl, hbb, hcells⟩ := h.2 (by omega)
      obtain ⟨A', c', hcell, _, hrd⟩ := hcells j hlt
      rw [mrkQ_at k hlt, markL_len] at hcell hrd
      have htt := total_take hlt
      have htl := total_le hlt
      have HM := Lib.hid (held_any A' (qs.getD j []).length c' (k + total (qs.take j)) w hrd (by omega) (by omega) (by omega))
      have HT : Hid (k + (total (qs.take (j + 1)) : Nat) = k + total (qs.take j) + (qs.getD j []).length) := Lib.hid (by rw [htt]; omega)
      clear hcells h hrd htt
      generalize (qs.getD j []).length = M at *
      generalize total (qs.take j) = T at *
      have hd : decide (k + (T : Int) + (M : Int) < 0) = false := decide_eq_false (by omega)
      go_wp2_with (fail)
      refine HM.out.mono ?_
      rintro e w' ⟨rfl, rfl⟩
      go_wp2
      go_round
      case rel => exact ⟨j + 1, by omega, by go_num, by rw [HT.out]⟩
      case measure => simp [intOf]; omega
    · have hkl : j = qs.length := by omega
      subst hkl
      rw [total_all qs (Nat.le_refl _)]
      clear h
      go_wp2
      go_ret
      exact ⟨rfl, rfl⟩

/-- Both are valid and equal. -/
def sameQ (zs ys : List (List Int)) : Bool := validQ zs && (validQ ys && decide (zs = ys))
theorem two_boxes (w : World) (a b : Value) (t : TypeId) : Below w.heap.size w ((w.alloc (.cells #[a] t)).alloc (.cells #[b] t)) ∧ ((w.alloc (.cells #[a] t)).alloc (.cells #[b] t)).cell? ⟨w.heap.size, 0, none⟩ = some a ∧
    ((w.alloc (.cells #[a] t)).alloc (.cells #[b] t)).cell? ⟨w.heap.size + 1, 0, none⟩ = some b ∧ ((w.alloc (.cells #[a] t)).alloc (.cells #[b] t)).heap.size = w.heap.size + 1 + 1 := by
  have e : (w.alloc (.cells #[a] t)).heap.size = w.heap.size + 1 := by simp
  refine ⟨((Below.refl _ _).alloc (Nat.le_refl _) _).alloc (by simp) _, ?_, ?_, by simp⟩
  · refine cell_of_row _ _ 0 #[a] t (0, 0) ?_
    rw [Below.heap_alloc _ _ _ (by simp)]
    exact heap_alloc_new _ _
  · refine cell_of_row _ _ 0 #[b] t (0, 0) ?_
    rw [← e]
    exact heap_alloc_new _ _

end Go.Proofs.YtgpocnapkflihaaGreatDoor
