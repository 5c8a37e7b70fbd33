/- Mathematics: the leaves of a sequent, and mates of them. -/
import Derived.Test.YtfanapddopafiaaDoorQPgJ
import Derived.Test.YtfanapddopafiaaDoorQSubA
namespace Go.Proofs.YtfanapddopafiaaDoor
open Go.ChangeAt Go.ChangeShapes Go.RowKit Go.WideShapes

theorem scan_ends : ∀ (xs : List Int) (m a : Int), 1 ≤ m → 0 ≤ a → scan xs m a = a + xs.length → ∃ y ∈ xs, arZ y = 0
  | [], m, a, _, ha, h => by
    rw [show scan [] m a = -1 from rfl] at h
    simp at h; omega
  | x :: xs, m, a, hm, ha, h => by
    simp only [List.length_cons] at h
    by_cases h0 : arZ x = -1
    · rw [scan_bad xs m a h0] at h; omega
    · have hx := arZ_lo x
      by_cases h1 : m + arZ x = 1
      · exact ⟨x, by simp, by omega⟩
      · rw [scan_on xs m a (by omega) h1] at h
        obtain ⟨y, hy, hz⟩ := scan_ends xs (m + arZ x - 1) (a + 1) (by omega) (by omega) (by omega)
        exact ⟨y, List.mem_cons_of_mem _ hy, hz⟩
theorem form_bits {f : List Int} (h : formN f = true) {y : Int} (hy : y ∈ f) : bitZ y = 0 ∨ bitZ y = 1 := by
  have hv := formN_valid h
  have h1 := of_decide_eq_true (show decide (0 ≤ fragV f ∧ fragV f ≤ 1) = true from h)
  unfold fragV at h1
  rw [hv, if_pos rfl] at h1
  unfold fragK sumB at h1
  have ho : ∀ v, bitZ y = v → occ f v f.length = true := fun v e => by
    unfold occ
    rw [List.take_length, List.any_eq_true]
    exact ⟨y, hy, by simp [e]⟩
  have hz : ∀ b, bz b = 0 ∨ bz b = 1 := fun b => by cases b <;> simp [bz]
  have z1 := hz (occ f 1 f.length); have z2 := hz (occ f 2 f.length); have z4 := hz (occ f 4 f.length); have z8 := hz (occ f 8 f.length)
  rcases bitZ_cases y with e | e | e | e | e
  · exact .inl e
  · exact .inr e
  · rw [ho 2 e] at h1; simp only [show bz true = 1 from rfl] at h1; omega
  · rw [ho 4 e] at h1; simp only [show bz true = 1 from rfl] at h1; omega
  · rw [ho 8 e] at h1; simp only [show bz true = 1 from rfl] at h1; omega
/-- A formula without units has a leaf. -/
theorem leavesL_pos {f : List Int} (h : formN f = true) : 0 < (leavesL f).length := by
  have hv := formN_valid h
  obtain ⟨h1, _, hfe⟩ := valid_len hv
  have hs := fe_nat (f := f) (a := 0) (by omega)
  rw [show ((0 : Nat) : Int) = 0 from rfl, hfe, List.drop_zero] at hs
  obtain ⟨y, hy, hz⟩ := scan_ends f 1 0 (by omega) (by omega) (by rw [← hs]; simp)
  have hb := form_bits h hy
  have hlf : leafB y = true := by
    rcases sym_cases y with ⟨hl, _⟩ | ⟨_, _, hc⟩ | ⟨_, _, ha, _⟩
    · exact hl
    · exfalso
      have : y = 13 ∨ y = 14 := by omega
      rcases this with rfl | rfl <;> exact absurd hb (by decide)
    · omega
  unfold leavesL
  rw [hv, if_pos rfl]
  exact List.length_pos_of_mem (List.mem_filter.2 ⟨hy, hlf⟩)
/-- The leaves of the first k formulas. -/
def lvK (qs : List (List Int)) (k : Nat) : List Int := (qs.take k).flatMap leavesL
theorem lvK_zero (qs : List (List Int)) : lvK qs 0 = [] := rfl
theorem lvK_succ {qs : List (List Int)} {k : Nat} (h : k < qs.length) : lvK qs (k + 1) = lvK qs k ++ leavesL (qs.getD k []) := by
  unfold lvK
  rw [takeL_succ (d := []) h, List.flatMap_append]
  simp
theorem lvK_len (qs : List (List Int)) : ∀ k, (lvK qs k).length ≤ 24 * k
  | 0 => by rw [lvK_zero]; exact Nat.zero_le _
  | k + 1 => by
    have h3 := lvK_len qs k
    by_cases h : k < qs.length
    · have h1 := leavesL_len (qs.getD k [])
      rw [lvK_succ h, List.length_append]
      omega
    · unfold lvK at h3 ⊢
      rw [List.take_of_length_le (by omega)] at h3 ⊢
      omega
/-- The leaves of a sequent. -/
def lvQ (qs : List (List Int)) : List Int := lvK qs qs.length
theorem lvQ_leaf {qs : List (List Int)} {x : Int} (h : x ∈ lvQ qs) : leafB x = true := by
  unfold lvQ lvK at h
  obtain ⟨q, _, hx⟩ := List.mem_flatMap.1 h
  unfold leavesL at hx
  cases hv : validB q with
  | true => rw [hv, if_pos rfl] at hx; exact (List.mem_filter.1 hx).2
  | false => rw [hv] at hx; simp at hx
/-- What stands at a place among mates. -/
def mt1 (M X : List Int) (j : Nat) : Bool := inW M.length (M.getD j 0) && (decide (M.getD (M.getD j 0).toNat 0 = (j : Int)) && decide (X.getD (M.getD j 0).toNat 0 = - X.getD j 0))
def matesB (M X : List Int) : Bool := decide (M.length = X.length) && (List.range M.length).all (mt1 M X)
theorem matesB_len {M X : List Int} (h : ¬ M.length = X.length) : matesB M X = false := by unfold matesB; rw [decide_eq_false h]; rfl
theorem matesB_bad {M X : List Int} {j : Nat} (hj : j < M.length) (h : mt1 M X j = false) : matesB M X = false := by
  unfold matesB
  have : (List.range M.length).all (mt1 M X) = false := by
    rw [List.all_eq_false]
    exact ⟨j, List.mem_range.2 hj, by rw [h]; decide⟩
  rw [this, Bool.and_false]
theorem matesB_yes {M X : List Int} (h1 : M.length = X.length) (h : ∀ j, j < M.length → mt1 M X j = true) : matesB M X = true := by
  unfold matesB
  rw [decide_eq_true h1, Bool.true_and, List.all_eq_true]
  exact fun j hj => h j (List.mem_range.1 hj)
theorem matesB_at {M X : List Int} (h : matesB M X = true) : M.length = X.length ∧ ∀ j, j < M.length → mt1 M X j = true := by
  unfold matesB at h
  rw [Bool.and_eq_true, List.all_eq_true] at h
  exact ⟨of_decide_eq_true h.1, fun j hj => h.2 j (List.mem_range.2 hj)⟩
theorem mt1_out {M X : List Int} {j : Nat} (h : inW M.length (M.getD j 0) = false) : mt1 M X j = false := by unfold mt1; rw [h]; rfl
theorem mt1_back {M X : List Int} {j : Nat} (h : ¬ M.getD (M.getD j 0).toNat 0 = (j : Int)) : mt1 M X j = false := by unfold mt1; rw [decide_eq_false h]; simp
theorem mt1_sign {M X : List Int} {j : Nat} (h : ¬ X.getD (M.getD j 0).toNat 0 = - X.getD j 0) : mt1 M X j = false := by unfold mt1; rw [decide_eq_false h]; simp
theorem mt1_yes {M X : List Int} {j : Nat} (h1 : inW M.length (M.getD j 0) = true) (h2 : M.getD (M.getD j 0).toNat 0 = (j : Int)) (h3 : X.getD (M.getD j 0).toNat 0 = - X.getD j 0) : mt1 M X j = true := by unfold mt1; rw [h1, decide_eq_true h2, decide_eq_true h3]; rfl
/-- IsMates. -/
def imB (qs : List (List Int)) (M : List Int) : Bool := validQ qs && (qs.all formN && matesB M (lvQ qs))
theorem imB_no {qs : List (List Int)} {M : List Int} (h : validQ qs = false) : imB qs M = false := by unfold imB; rw [h]; rfl
theorem imB_bad {qs : List (List Int)} {M : List Int} {k : Nat} (hk : k < qs.length) (h : formN (qs.getD k []) = false) : imB qs M = false := by unfold imB; rw [all_bad hk h]; simp
theorem imB_is {qs : List (List Int)} {M : List Int} (h : validQ qs = true) (h2 : ∀ j, j < qs.length → formN (qs.getD j []) = true) : imB qs M = matesB M (lvQ qs) := by
  have : qs.all formN = true := by
    rw [List.all_eq_true]
    intro q hq
    obtain ⟨j, hj, rfl⟩ := List.getElem_of_mem hq
    have := h2 j hj
    simpa [List.getD, hj] using this
  unfold imB
  rw [h, this]; rfl
theorem leaf_neg {x : Int} (h : leafB x = true) : IntKind.i64.wrap (-x) = -x := by
  have := leaf_iff.1 h
  have : x = 1 ∨ x = 2 ∨ x = 3 ∨ x = 4 ∨ x = 5 ∨ x = 6 ∨ x = 7 ∨ x = 8 ∨ x = -1 ∨ x = -2 ∨ x = -3 ∨ x = -4 ∨ x = -5 ∨ x = -6 ∨ x = -7 ∨ x = -8 := by omega
  rcases this with rfl | rfl | rfl | rfl | rfl | rfl | rfl | rfl | rfl | rfl | rfl | rfl | rfl | rfl | rfl | rfl <;> decide
end Go.Proofs.YtfanapddopafiaaDoor
