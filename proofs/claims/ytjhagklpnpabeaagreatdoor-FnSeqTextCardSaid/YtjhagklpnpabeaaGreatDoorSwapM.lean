/- Mathematics for FnSwapSeq: exchanging twice restores, and neither an exchange nor the dual changes whether a sequent is balanced. -/
import Derived.Test.YtjhagklpnpabeaaGreatDoorMsetI
import Derived.Test.YtjhagklpnpabeaaGreatDoorBal
import Derived.Test.YtjhagklpnpabeaaGreatDoorDualM
namespace Go.Proofs.YtjhagklpnpabeaaGreatDoor
open Go.ChangeShapes Go.WideShapes Go.ChangeAt Go.RowKit

theorem swp_swp {qs : List (List Int)} {i j : Nat} (hi : i < qs.length) (hj : j < qs.length) : swp (swp qs i j) i j = qs := by
  apply List.ext_getElem?
  intro k
  by_cases hk : k < qs.length
  · have h1 : (swp (swp qs i j) i j).getD k [] = qs.getD k [] := by
      rw [swp_get (by rw [swp_len]; exact hi) (by rw [swp_len]; exact hj), swp_get hi hj]
      congr 1
      by_cases e1 : k = j
      · subst e1
        rw [if_pos rfl]
        by_cases e2 : i = k
        · rw [if_pos e2]; exact e2
        · rw [if_neg e2, if_pos rfl]
      · rw [if_neg e1]
        by_cases e2 : k = i
        · subst e2
          rw [if_pos rfl, if_pos rfl]
        · rw [if_neg e2, if_neg e1, if_neg e2]
    have h2 : k < (swp (swp qs i j) i j).length := by rw [swp_len, swp_len]; exact hk
    rw [List.getElem?_eq_getElem h2, List.getElem?_eq_getElem hk]
    simpa [List.getD, h2, hk] using h1
  · rw [List.getElem?_eq_none (by rw [swp_len, swp_len]; omega), List.getElem?_eq_none (by omega)]
theorem validQ_perm {xs ys : List (List Int)} (h : xs.Perm ys) : validQ xs = validQ ys := by
  unfold validQ
  have h1 : xs.all validB = ys.all validB := by
    rw [Bool.eq_iff_iff, List.all_eq_true, List.all_eq_true]
    exact ⟨fun hx q hq => hx q (h.mem_iff.2 hq), fun hx q hq => hx q (h.mem_iff.1 hq)⟩
  have h2 : total xs = total ys := by
    unfold total
    exact (h.map List.length).sum_nat
  rw [h1, h2, h.length_eq]
theorem bal_perm {xs ys : List (List Int)} (a : Int) (h : xs.Perm ys) : bal a xs = bal a ys := by
  unfold bal
  induction h with
  | nil => rfl
  | cons x _ ih => simp only [List.map_cons, List.sum_cons]; rw [ih]
  | swap x y l => simp only [List.map_cons, List.sum_cons]; omega
  | trans _ _ h1 h2 => exact h1.trans h2
theorem balQ_perm {xs ys : List (List Int)} (h : xs.Perm ys) : balQ xs = balQ ys := by
  unfold balQ
  rw [validQ_perm h]
  have : (fun i : Nat => decide (bal ((i : Int) + 1) xs = 0)) = fun i : Nat => decide (bal ((i : Int) + 1) ys = 0) := by
    funext i
    rw [bal_perm _ h]
  rw [this]

theorem leaf_neg {a : Int} (h : leafB a = true) : leafB (-a) = true := by
  have := leaf_iff.1 h
  exact leaf_iff.2 (by omega)
theorem du_at {x a : Int} (hx : 0 ≤ arZ x) (ha : leafB a = true) : duZ x = a ↔ x = -a := by
  obtain ⟨_, _, h3, _, h5⟩ := du_sym hx
  constructor
  · intro e
    have hl : leafB x = true := by rw [← h3, e]; exact ha
    have := h5 hl
    omega
  · intro e
    have hl : leafB x = true := by rw [e]; exact leaf_neg ha
    have := h5 hl
    omega
theorem count_dual {a : Int} (ha : leafB a = true) : ∀ {q : List Int}, (∀ x ∈ q, 0 ≤ arZ x) → (q.map duZ).count a = q.count (-a)
  | [], _ => rfl
  | x :: xs, h => by
    have ih := count_dual ha (q := xs) (fun y hy => h y (by simp [hy]))
    have hd := du_at (h x (by simp)) ha
    rw [List.map_cons, List.count_cons, List.count_cons, ih]
    by_cases e : x = -a
    · have e2 := hd.2 e
      rw [e2, e]
      simp
    · have e2 : ¬ duZ x = a := fun h => e (hd.1 h)
      simp [e2, e]
theorem cntZ_dual {q : List Int} (hv : validB q = true) {a : Int} (ha : leafB a = true) : cntZ (q.map duZ) a = cntZ q (-a) := by
  rw [cntZ_count (valid_dual hv), cntZ_count hv, count_dual ha (valid_all hv)]
theorem bal_dual {a : Int} (h1 : 1 ≤ a) (h8 : a ≤ 8) : ∀ {qs : List (List Int)}, (∀ q ∈ qs, validB q = true) → bal a (qs.map dualL) = - bal a qs
  | [], _ => by simp [bal]
  | q :: qs, h => by
    have ih := bal_dual h1 h8 (qs := qs) (fun y hy => h y (by simp [hy]))
    have hv := h q (by simp)
    have ha : leafB a = true := leaf_iff.2 (by omega)
    have e1 : ∀ (x : List Int) (xs : List (List Int)), bal a (x :: xs) = (cntZ x a - cntZ x (-a)) + bal a xs := fun x xs => by simp [bal]
    rw [List.map_cons, e1, e1, ih, dualL_yes hv, cntZ_dual hv ha, cntZ_dual hv (leaf_neg ha), Int.neg_neg]
    omega
theorem validQ_dual {qs : List (List Int)} (h : validQ qs = true) : validQ (qs.map dualL) = true := by
  have hm : ∀ q ∈ qs, validB q = true := fun q hq => validQ_mem h hq
  have ht : total (qs.map dualL) = total qs := by
    unfold total
    rw [List.map_map]
    congr 1
    exact List.map_congr_left fun q hq => by simp [dualL_yes (hm q hq)]
  have ha : (qs.map dualL).all validB = true := List.all_eq_true.2 fun x hx => by
    obtain ⟨q, hq, rfl⟩ := List.mem_map.1 hx
    rw [dualL_yes (hm q hq)]
    exact valid_dual (hm q hq)
  unfold validQ at h ⊢
  rw [ht, ha, List.length_map]
  simp only [Bool.and_eq_true] at h ⊢
  exact ⟨h.1, trivial, h.2.2⟩
theorem balQ_dual {qs : List (List Int)} (h : validQ qs = true) : balQ (dualQ qs) = balQ qs := by
  rw [dualQ_yes h]
  unfold balQ
  rw [validQ_dual h, h, Bool.eq_iff_iff]
  simp only [Bool.true_and, List.all_eq_true, List.mem_range, decide_eq_true_eq]
  constructor
  · intro hx i hi
    have := hx i hi
    rw [bal_dual (by omega) (by omega) (fun q hq => validQ_mem h hq)] at this
    omega
  · intro hx i hi
    have := hx i hi
    rw [bal_dual (by omega) (by omega) (fun q hq => validQ_mem h hq)]
    omega
/-- What the law asks of an exchange that is possible. -/
theorem swap_facts {qs : List (List Int)} {i j : Int} (h : swapB qs i j = true) : ∃ V, swapQ qs i j = V ∧ swapB V i j = true ∧ swapQ V i j = qs ∧ V.length = qs.length ∧ validQ V = true ∧ validQ qs = true ∧ sameQ qs qs = true ∧ msQ V qs = true ∧ balQ V = balQ qs ∧ balQ (dualQ qs) = balQ qs := by
  have hB := h
  unfold swapB at hB
  simp only [Bool.and_eq_true] at hB
  obtain ⟨hv, p1, p2⟩ := hB
  obtain ⟨I, rfl, hI⟩ := posB_nat p1
  obtain ⟨J, rfl, hJ⟩ := posB_nat p2
  have hp := swp_perm hI hJ
  have hvV : validQ (swp qs I J) = true := (validQ_perm hp).trans hv
  have hs := swapQ_yes h
  rw [Int.toNat_natCast, Int.toNat_natCast] at hs
  have hB2 : swapB (swp qs I J) I J = true := by
    unfold swapB
    rw [hvV, swp_len, p1, p2]
    rfl
  refine ⟨swp qs I J, hs, hB2, ?_, swp_len _ _ _, hvV, hv, ?_, ?_, balQ_perm hp, balQ_dual hv⟩
  · have := swapQ_yes hB2
    rw [Int.toNat_natCast, Int.toNat_natCast, swp_swp hI hJ] at this
    exact this
  · simp [sameQ, hv]
  · unfold msQ
    rw [hvV, hv, decide_eq_true (srt_perm.2 hp)]
    rfl
end Go.Proofs.YtjhagklpnpabeaaGreatDoor
