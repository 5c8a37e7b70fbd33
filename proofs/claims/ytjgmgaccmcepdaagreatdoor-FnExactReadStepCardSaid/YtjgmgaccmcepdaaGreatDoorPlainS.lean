/- PlainStep of the model: the walk. -/
import Derived.Test.YtjgmgaccmcepdaaGreatDoorPlainI
namespace Go.Proofs.YtjgmgaccmcepdaaGreatDoor
open Go.ChangeAt Go.ChangeShapes Go.RowKit Go.WideShapes

def ruK (r : Int) : Int :=
  if r = 1 then 0 else if r = 2 then 2 else if r = 3 then 2 else if r = 4 then 2 else if r = 5 then 0 else if r = 6 then 0 else if r = 7 then 2 else if r = 8 then 1 else if r = 9 then 1 else if r = 10 then 1 else if r = 11 then 1 else if r = 12 then 0 else if r = 13 then 2 else if r = 14 then 2 else -1
theorem ruK_range : ∀ r : Int, 1 ≤ r → r ≤ 14 → ruK r = 0 ∨ ruK r = 1 ∨ ruK r = 2 :=
  ru_cases (by decide) (by decide) (by decide) (by decide) (by decide) (by decide) (by decide) (by decide) (by decide) (by decide) (by decide) (by decide) (by decide) (by decide)
theorem ruI_K : ∀ r : Int, 1 ≤ r → r ≤ 14 → ruI r = decide (0 < ruK r) :=
  ru_cases (by decide) (by decide) (by decide) (by decide) (by decide) (by decide) (by decide) (by decide) (by decide) (by decide) (by decide) (by decide) (by decide) (by decide)
theorem ruJ_K : ∀ r : Int, 1 ≤ r → r ≤ 14 → ruJ r = decide (1 < ruK r) :=
  ru_cases (by decide) (by decide) (by decide) (by decide) (by decide) (by decide) (by decide) (by decide) (by decide) (by decide) (by decide) (by decide) (by decide) (by decide)
theorem inR_two (x : Int) : inR x = decide (0 ≤ x ∧ x ≤ 39) := by
  unfold inR
  by_cases h1 : 0 ≤ x
  · by_cases h2 : x < 40
    · rw [decide_eq_true h1, decide_eq_true h2, decide_eq_true (by omega)]; rfl
    · rw [decide_eq_false h2, decide_eq_false (show ¬ (0 ≤ x ∧ x ≤ 39) by omega), Bool.and_false]
  · rw [decide_eq_false h1, decide_eq_false (show ¬ (0 ≤ x ∧ x ≤ 39) by omega)]; rfl
theorem isIndex_any (x : Int) (w : World) : Calls Tryz.prog 69 #[.int .i64 x] w fun e w' => e = .returned (.bool (inR x)) ∧ w = w' := by
  have HI := Lib.hid (inRange_any x 0 39 w)
  rw [← inR_two] at HI
  go_enter Tryz.func69, Tryz.ntmps69
  go_wp2_with (fail)
  refine HI.out.mono ?_
  rintro e w' ⟨rfl, rfl⟩
  go_wp2
  go_ret
  exact ⟨rfl, rfl⟩
set_option maxHeartbeats 2000000 in
theorem premises_any (w : World) : ∀ r : Int, 1 ≤ r → r ≤ 14 → Calls Tryz.prog 67 #[.int .i64 r] w fun e w' => e = .returned (.int .i64 (ruP r)) ∧ w = w' := by
  have HI := Lib.hid (fun n h => inRange_yes n 1 14 w h)
  refine ru_cases ?_ ?_ ?_ ?_ ?_ ?_ ?_ ?_ ?_ ?_ ?_ ?_ ?_ ?_
  all_goals
    go_enter Tryz.func67, Tryz.ntmps67
    go_wp2_with (go_at_call 143; refine (HI.out _ (by decide)).mono ?_; rintro e w' ⟨rfl, rfl⟩)
    go_ret
    exact ⟨by kernel_rfl, rfl⟩
theorem premises_none (r : Int) (w : World) (h : ¬ (1 ≤ r ∧ r ≤ 14)) : Calls Tryz.prog 67 #[.int .i64 r] w fun e w' => e = .returned (.int .i64 (-1)) ∧ w = w' := by
  have HI := Lib.hid (inRange_any r 1 14 w)
  rw [decide_eq_false h] at HI
  have h1 : (r == 1) = false := by simp only [beq_eq_false_iff_ne, ne_eq]; omega
  have h5 : (r == 5) = false := by simp only [beq_eq_false_iff_ne, ne_eq]; omega
  have h2 : (r == 2) = false := by simp only [beq_eq_false_iff_ne, ne_eq]; omega
  have h3 : (r == 3) = false := by simp only [beq_eq_false_iff_ne, ne_eq]; omega
  have h7 : (r == 7) = false := by simp only [beq_eq_false_iff_ne, ne_eq]; omega
  go_enter Tryz.func67, Tryz.ntmps67
  go_wp2_with (fail)
  refine HI.out.mono ?_
  rintro e w' ⟨rfl, rfl⟩
  go_wp2
  go_ret
  exact ⟨rfl, rfl⟩
set_option maxHeartbeats 2000000 in
theorem positions_any (w : World) : ∀ r : Int, 1 ≤ r → r ≤ 14 → Calls Tryz.prog 68 #[.int .i64 r] w fun e w' => e = .returned (.int .i64 (ruK r)) ∧ w = w' := by
  refine ru_cases ?_ ?_ ?_ ?_ ?_ ?_ ?_ ?_ ?_ ?_ ?_ ?_ ?_ ?_
  all_goals
    go_enter Tryz.func68, Tryz.ntmps68
    go_wp2
    go_ret
    exact ⟨by kernel_rfl, rfl⟩
set_option maxHeartbeats 2000000 in
theorem usesForm_any (w : World) : ∀ r : Int, 1 ≤ r → r ≤ 14 → Calls Tryz.prog 70 #[.int .i64 r] w fun e w' => e = .returned (.bool (ruF r)) ∧ w = w' := by
  refine ru_cases ?_ ?_ ?_ ?_ ?_ ?_ ?_ ?_ ?_ ?_ ?_ ?_ ?_ ?_
  all_goals
    go_enter Tryz.func70, Tryz.ntmps70
    go_wp2
    go_ret
    exact ⟨by kernel_rfl, rfl⟩

set_option maxRecDepth 100000 in
set_option maxHeartbeats 16000000 in
theorem sPlainStep_any (r a b i j : Int) (A : Option Addr) (n c : Nat) (f : List Int) (w : World) (h : RdI w w.heap.size A n f) :
    Calls Tryz.prog 16 #[Value.agg #[Value.int .i64 r, Value.int .i64 a, Value.int .i64 b, Value.int .i64 i, Value.int .i64 j, Value.slice A n c]] w fun e w' => e = .returned (.bool (plainB r a b i j f)) ∧ Below w.heap.size w w' := by
  obtain ⟨w1, hw1⟩ : ∃ w1, w1 = w.alloc (.cells #[Value.int .i64 r, Value.int .i64 a, Value.int .i64 b, Value.int .i64 i, Value.int .i64 j, Value.slice A n c] 30) := ⟨_, rfl⟩
  have hb1 := box_any w (.cells #[Value.int .i64 r, Value.int .i64 a, Value.int .i64 b, Value.int .i64 i, Value.int .i64 j, Value.slice A n c] 30)
  have p1 : (w.alloc (.cells #[Value.int .i64 r, Value.int .i64 a, Value.int .i64 b, Value.int .i64 i, Value.int .i64 j, Value.slice A n c] 30)).heap[w.heap.size]? = some (.cells #[Value.int .i64 r, Value.int .i64 a, Value.int .i64 b, Value.int .i64 i, Value.int .i64 j, Value.slice A n c] 30 (0, 0)) := heap_alloc_new _ _
  rw [← hw1] at hb1 p1
  have x0 : w1.cell? ⟨w.heap.size, 0, none⟩ = some (.int .i64 r) := cell_of_row _ _ 0 _ _ (0, 0) p1
  have x1 : w1.cell? ⟨w.heap.size, 1, none⟩ = some (.int .i64 a) := cell_of_row _ _ 1 _ _ (0, 0) p1
  have x2 : w1.cell? ⟨w.heap.size, 2, none⟩ = some (.int .i64 b) := cell_of_row _ _ 2 _ _ (0, 0) p1
  have x3 : w1.cell? ⟨w.heap.size, 3, none⟩ = some (.int .i64 i) := cell_of_row _ _ 3 _ _ (0, 0) p1
  have x4 : w1.cell? ⟨w.heap.size, 4, none⟩ = some (.int .i64 j) := cell_of_row _ _ 4 _ _ (0, 0) p1
  have x5 : w1.cell? ⟨w.heap.size, 5, none⟩ = some (.slice A n c) := cell_of_row _ _ 5 _ _ (0, 0) p1
  by_cases hr : 1 ≤ r ∧ r ≤ 14
  · obtain ⟨h1, h2⟩ := hr
    have HP := Lib.hid (premises_any w1 r h1 h2)
    have HK := Lib.hid (positions_any w1 r h1 h2)
    have HU := Lib.hid (usesForm_any w1 r h1 h2)
    have HI := Lib.hid (fun x => isIndex_any x w1)
    have HV := Lib.hid (sValidForm_any A n c f w1 ((h.below hb1).more hb1.size))
    have hl := h.len
    have hLn : decide (f.length = 0) = ((n : Int) == 0) := by rw [hl]; by_cases e : n = 0 <;> simp [e, Int.natCast_eq_zero]
    have HPL : Hid (plainB r a b i j f = (fitV (decide (0 < ruK r)) (decide (1 < ruK r)) (ruF r) i j f && (idxB (decide (0 < ruP r)) a (-1) && (idxB (decide (1 < ruP r)) b (-1) && (idxB (decide (0 < ruK r)) i 0 && idxB (decide (1 < ruK r)) j 0))))) := Lib.hid (by unfold plainB; rw [decide_eq_true h1, decide_eq_true h2, Bool.true_and, Bool.true_and, ruI_K r h1 h2, ruJ_K r h1 h2])
    have hpr := ruP_range r h1 h2; have hkr := ruK_range r h1 h2
    have HB1 := Lib.hid hb1
    have HLN := Lib.hid hLn
    clear hb1 p1 h hl hLn
    generalize plainB r a b i j f = PB at *
    generalize ruP r = p at *; generalize ruK r = k at *; generalize ruF r = z at *
    go_enter Tryz.func16, Tryz.ntmps16
    go_wp2_with (fail)
    rw [← hw1]
    clear hw1
    refine HP.out.mono ?_
    rintro e w' ⟨rfl, rfl⟩
    clear HP
    rcases hpr with rfl | rfl | rfl
    · have ea0 : decide (0 < (0 : Int)) = false := rfl
      have ea1 : decide (1 < (0 : Int)) = false := rfl
      by_cases ha : a = (-1)
      · have qa : idxB false a (-1) = true := idx_same ha
        have ea : (a != (-1)) = false := by rw [ha]; rfl
        clear ha
        by_cases hb : b = (-1)
        · have qb : idxB false b (-1) = true := idx_same hb
          have eb : (b != (-1)) = false := by rw [hb]; rfl
          clear hb
          rcases hkr with rfl | rfl | rfl
          · have ek0 : decide (0 < (0 : Int)) = false := rfl
            have ek1 : decide (1 < (0 : Int)) = false := rfl
            by_cases hi : i = 0
            · have qi : idxB false i 0 = true := idx_same hi
              have ei : (i != 0) = false := by rw [hi]; rfl
              clear hi
              by_cases hj : j = 0
              · have qj : idxB false j 0 = true := idx_same hj
                have ej : (j != 0) = false := by rw [hj]; rfl
                clear hj
                have fi : decide (i = 0) = true := qi
                have fj : decide (j = 0) = true := qj
                cases z with
                | true =>
                  have HE : Hid (validB f = PB) := Lib.hid (by rw [HPL.out]; unfold fitV; simp only [ea0, ea1, qa, qb, qi, qj]; first | (simp [fi, fj]; done) | simp)
                  go_wp2_with (first | (go_at_call 69; refine (HI.out _).mono ?_; rintro e w' ⟨rfl, rfl⟩) | (go_at_call 68; refine HK.out.mono ?_; rintro e w' ⟨rfl, rfl⟩) | (go_at_call 70; refine HU.out.mono ?_; rintro e w' ⟨rfl, rfl⟩) | (go_at_call 71; refine HV.out.mono ?_; rintro e w' ⟨rfl, rfl⟩))
                  go_ret
                  exact ⟨ret_bool HE.out, HB1.out⟩
                | false =>
                  have HE : Hid (((n : Int) == 0) = PB) := Lib.hid (by rw [HPL.out]; unfold fitV; rw [HLN.out]; simp only [ea0, ea1, qa, qb, qi, qj]; first | (simp [fi, fj]; done) | simp)
                  go_wp2_with (first | (go_at_call 69; refine (HI.out _).mono ?_; rintro e w' ⟨rfl, rfl⟩) | (go_at_call 68; refine HK.out.mono ?_; rintro e w' ⟨rfl, rfl⟩) | (go_at_call 70; refine HU.out.mono ?_; rintro e w' ⟨rfl, rfl⟩) | (go_at_call 71; refine HV.out.mono ?_; rintro e w' ⟨rfl, rfl⟩))
                  go_ret
                  exact ⟨ret_bool HE.out, HB1.out⟩
              · have hj' : idxB false j 0 = false := idx_other hj
                have ej : (j != 0) = true := by simpa using hj
                clear hj
                have HE : Hid (false = PB) := Lib.hid (by rw [HPL.out]; first | (simp [idxB]; done) | (simp [idxB] at hj'; simp [idxB, hj']))
                go_wp2_with (first | (go_at_call 69; refine (HI.out _).mono ?_; rintro e w' ⟨rfl, rfl⟩) | (go_at_call 68; refine HK.out.mono ?_; rintro e w' ⟨rfl, rfl⟩))
                go_ret
                exact ⟨ret_bool HE.out, HB1.out⟩
            · have hi' : idxB false i 0 = false := idx_other hi
              have ei : (i != 0) = true := by simpa using hi
              clear hi
              have HE : Hid (false = PB) := Lib.hid (by rw [HPL.out]; first | (simp [idxB]; done) | (simp [idxB] at hi'; simp [idxB, hi']))
              go_wp2_with (first | (go_at_call 69; refine (HI.out _).mono ?_; rintro e w' ⟨rfl, rfl⟩) | (go_at_call 68; refine HK.out.mono ?_; rintro e w' ⟨rfl, rfl⟩))
              go_ret
              exact ⟨ret_bool HE.out, HB1.out⟩
          · have ek0 : decide (0 < (1 : Int)) = true := rfl
            have ek1 : decide (1 < (1 : Int)) = false := rfl
            cases hi : inR i with
            | false =>
              have HE : Hid (false = PB) := Lib.hid (by rw [HPL.out]; first | (simp [idxB, hi]; done) | (simp [idxB] at hi; simp [idxB, hi]))
              go_wp2_with (first | (go_at_call 69; refine (HI.out _).mono ?_; rintro e w' ⟨rfl, rfl⟩) | (go_at_call 68; refine HK.out.mono ?_; rintro e w' ⟨rfl, rfl⟩))
              go_ret
              exact ⟨ret_bool HE.out, HB1.out⟩
            | true =>
              have qi : idxB true i 0 = true := hi
              by_cases hj : j = 0
              · have qj : idxB false j 0 = true := idx_same hj
                have ej : (j != 0) = false := by rw [hj]; rfl
                clear hj
                have fi : decide (0 < (1 : Int)) = true := rfl
                have fj : decide (j = 0) = true := qj
                cases z with
                | true =>
                  have HE : Hid (validB f = PB) := Lib.hid (by rw [HPL.out]; unfold fitV; simp only [ea0, ea1, ek0, ek1, qa, qb, qi, qj]; first | (simp [fj]; done) | simp)
                  go_wp2_with (first | (go_at_call 69; refine (HI.out _).mono ?_; rintro e w' ⟨rfl, rfl⟩) | (go_at_call 68; refine HK.out.mono ?_; rintro e w' ⟨rfl, rfl⟩) | (go_at_call 70; refine HU.out.mono ?_; rintro e w' ⟨rfl, rfl⟩) | (go_at_call 71; refine HV.out.mono ?_; rintro e w' ⟨rfl, rfl⟩))
                  go_ret
                  exact ⟨ret_bool HE.out, HB1.out⟩
                | false =>
                  have HE : Hid (((n : Int) == 0) = PB) := Lib.hid (by rw [HPL.out]; unfold fitV; rw [HLN.out]; simp only [ea0, ea1, ek0, ek1, qa, qb, qi, qj]; first | (simp [fj]; done) | simp)
                  go_wp2_with (first | (go_at_call 69; refine (HI.out _).mono ?_; rintro e w' ⟨rfl, rfl⟩) | (go_at_call 68; refine HK.out.mono ?_; rintro e w' ⟨rfl, rfl⟩) | (go_at_call 70; refine HU.out.mono ?_; rintro e w' ⟨rfl, rfl⟩) | (go_at_call 71; refine HV.out.mono ?_; rintro e w' ⟨rfl, rfl⟩))
                  go_ret
                  exact ⟨ret_bool HE.out, HB1.out⟩
              · have hj' : idxB false j 0 = false := idx_other hj
                have ej : (j != 0) = true := by simpa using hj
                clear hj
                have HE : Hid (false = PB) := Lib.hid (by rw [HPL.out]; first | (simp [idxB]; done) | (simp [idxB] at hj'; simp [idxB, hj']))
                go_wp2_with (first | (go_at_call 69; refine (HI.out _).mono ?_; rintro e w' ⟨rfl, rfl⟩) | (go_at_call 68; refine HK.out.mono ?_; rintro e w' ⟨rfl, rfl⟩))
                go_ret
                exact ⟨ret_bool HE.out, HB1.out⟩
          · have ek0 : decide (0 < (2 : Int)) = true := rfl
            have ek1 : decide (1 < (2 : Int)) = true := rfl
            cases hi : inR i with
            | false =>
              have HE : Hid (false = PB) := Lib.hid (by rw [HPL.out]; first | (simp [idxB, hi]; done) | (simp [idxB] at hi; simp [idxB, hi]))
              go_wp2_with (first | (go_at_call 69; refine (HI.out _).mono ?_; rintro e w' ⟨rfl, rfl⟩) | (go_at_call 68; refine HK.out.mono ?_; rintro e w' ⟨rfl, rfl⟩))
              go_ret
              exact ⟨ret_bool HE.out, HB1.out⟩
            | true =>
              have qi : idxB true i 0 = true := hi
              cases hj : inR j with
              | false =>
                have HE : Hid (false = PB) := Lib.hid (by rw [HPL.out]; first | (simp [idxB, hj]; done) | (simp [idxB] at hj; simp [idxB, hj]))
                go_wp2_with (first | (go_at_call 69; refine (HI.out _).mono ?_; rintro e w' ⟨rfl, rfl⟩) | (go_at_call 68; refine HK.out.mono ?_; rintro e w' ⟨rfl, rfl⟩))
                go_ret
                exact ⟨ret_bool HE.out, HB1.out⟩
              | true =>
                have qj : idxB true j 0 = true := hj
                have fi : decide (0 < (2 : Int)) = true := rfl
                have fj : decide (1 < (2 : Int)) = true := rfl
                cases z with
                | true =>
                  have HE : Hid (validB f = PB) := Lib.hid (by rw [HPL.out]; unfold fitV; simp only [ea0, ea1, ek0, ek1, qa, qb, qi, qj]; first | (simp; done) | simp)
                  go_wp2_with (first | (go_at_call 69; refine (HI.out _).mono ?_; rintro e w' ⟨rfl, rfl⟩) | (go_at_call 68; refine HK.out.mono ?_; rintro e w' ⟨rfl, rfl⟩) | (go_at_call 70; refine HU.out.mono ?_; rintro e w' ⟨rfl, rfl⟩) | (go_at_call 71; refine HV.out.mono ?_; rintro e w' ⟨rfl, rfl⟩))
                  go_ret
                  exact ⟨ret_bool HE.out, HB1.out⟩
                | false =>
                  have HE : Hid (((n : Int) == 0) = PB) := Lib.hid (by rw [HPL.out]; unfold fitV; rw [HLN.out]; simp only [ea0, ea1, ek0, ek1, qa, qb, qi, qj]; first | (simp; done) | simp)
                  go_wp2_with (first | (go_at_call 69; refine (HI.out _).mono ?_; rintro e w' ⟨rfl, rfl⟩) | (go_at_call 68; refine HK.out.mono ?_; rintro e w' ⟨rfl, rfl⟩) | (go_at_call 70; refine HU.out.mono ?_; rintro e w' ⟨rfl, rfl⟩) | (go_at_call 71; refine HV.out.mono ?_; rintro e w' ⟨rfl, rfl⟩))
                  go_ret
                  exact ⟨ret_bool HE.out, HB1.out⟩
        · have hb' : idxB false b (-1) = false := idx_other hb
          have eb : (b != (-1)) = true := by simpa using hb
          clear hb
          have HE : Hid (false = PB) := Lib.hid (by rw [HPL.out]; first | (simp [idxB]; done) | (simp [idxB] at hb'; simp [idxB, hb']))
          go_wp2_with (first | (go_at_call 69; refine (HI.out _).mono ?_; rintro e w' ⟨rfl, rfl⟩) | (go_at_call 68; refine HK.out.mono ?_; rintro e w' ⟨rfl, rfl⟩))
          go_ret
          exact ⟨ret_bool HE.out, HB1.out⟩
      · have ha' : idxB false a (-1) = false := idx_other ha
        have ea : (a != (-1)) = true := by simpa using ha
        clear ha
        have HE : Hid (false = PB) := Lib.hid (by rw [HPL.out]; first | (simp [idxB]; done) | (simp [idxB] at ha'; simp [idxB, ha']))
        go_wp2_with (first | (go_at_call 69; refine (HI.out _).mono ?_; rintro e w' ⟨rfl, rfl⟩) | (go_at_call 68; refine HK.out.mono ?_; rintro e w' ⟨rfl, rfl⟩))
        go_ret
        exact ⟨ret_bool HE.out, HB1.out⟩
    · have ea0 : decide (0 < (1 : Int)) = true := rfl
      have ea1 : decide (1 < (1 : Int)) = false := rfl
      cases ha : inR a with
      | false =>
        have HE : Hid (false = PB) := Lib.hid (by rw [HPL.out]; first | (simp [idxB, ha]; done) | (simp [idxB] at ha; simp [idxB, ha]))
        go_wp2_with (first | (go_at_call 69; refine (HI.out _).mono ?_; rintro e w' ⟨rfl, rfl⟩) | (go_at_call 68; refine HK.out.mono ?_; rintro e w' ⟨rfl, rfl⟩))
        go_ret
        exact ⟨ret_bool HE.out, HB1.out⟩
      | true =>
        have qa : idxB true a (-1) = true := ha
        by_cases hb : b = (-1)
        · have qb : idxB false b (-1) = true := idx_same hb
          have eb : (b != (-1)) = false := by rw [hb]; rfl
          clear hb
          rcases hkr with rfl | rfl | rfl
          · have ek0 : decide (0 < (0 : Int)) = false := rfl
            have ek1 : decide (1 < (0 : Int)) = false := rfl
            by_cases hi : i = 0
            · have qi : idxB false i 0 = true := idx_same hi
              have ei : (i != 0) = false := by rw [hi]; rfl
              clear hi
              by_cases hj : j = 0
              · have qj : idxB false j 0 = true := idx_same hj
                have ej : (j != 0) = false := by rw [hj]; rfl
                clear hj
                have fi : decide (i = 0) = true := qi
                have fj : decide (j = 0) = true := qj
                cases z with
                | true =>
                  have HE : Hid (validB f = PB) := Lib.hid (by rw [HPL.out]; unfold fitV; simp only [ea0, ea1, ek0, ek1, qa, qb, qi, qj]; first | (simp [fi, fj]; done) | simp)
                  go_wp2_with (first | (go_at_call 69; refine (HI.out _).mono ?_; rintro e w' ⟨rfl, rfl⟩) | (go_at_call 68; refine HK.out.mono ?_; rintro e w' ⟨rfl, rfl⟩) | (go_at_call 70; refine HU.out.mono ?_; rintro e w' ⟨rfl, rfl⟩) | (go_at_call 71; refine HV.out.mono ?_; rintro e w' ⟨rfl, rfl⟩))
                  go_ret
                  exact ⟨ret_bool HE.out, HB1.out⟩
                | false =>
                  have HE : Hid (((n : Int) == 0) = PB) := Lib.hid (by rw [HPL.out]; unfold fitV; rw [HLN.out]; simp only [ea0, ea1, ek0, ek1, qa, qb, qi, qj]; first | (simp [fi, fj]; done) | simp)
                  go_wp2_with (first | (go_at_call 69; refine (HI.out _).mono ?_; rintro e w' ⟨rfl, rfl⟩) | (go_at_call 68; refine HK.out.mono ?_; rintro e w' ⟨rfl, rfl⟩) | (go_at_call 70; refine HU.out.mono ?_; rintro e w' ⟨rfl, rfl⟩) | (go_at_call 71; refine HV.out.mono ?_; rintro e w' ⟨rfl, rfl⟩))
                  go_ret
                  exact ⟨ret_bool HE.out, HB1.out⟩
              · have hj' : idxB false j 0 = false := idx_other hj
                have ej : (j != 0) = true := by simpa using hj
                clear hj
                have HE : Hid (false = PB) := Lib.hid (by rw [HPL.out]; first | (simp [idxB]; done) | (simp [idxB] at hj'; simp [idxB, hj']))
                go_wp2_with (first | (go_at_call 69; refine (HI.out _).mono ?_; rintro e w' ⟨rfl, rfl⟩) | (go_at_call 68; refine HK.out.mono ?_; rintro e w' ⟨rfl, rfl⟩))
                go_ret
                exact ⟨ret_bool HE.out, HB1.out⟩
            · have hi' : idxB false i 0 = false := idx_other hi
              have ei : (i != 0) = true := by simpa using hi
              clear hi
              have HE : Hid (false = PB) := Lib.hid (by rw [HPL.out]; first | (simp [idxB]; done) | (simp [idxB] at hi'; simp [idxB, hi']))
              go_wp2_with (first | (go_at_call 69; refine (HI.out _).mono ?_; rintro e w' ⟨rfl, rfl⟩) | (go_at_call 68; refine HK.out.mono ?_; rintro e w' ⟨rfl, rfl⟩))
              go_ret
              exact ⟨ret_bool HE.out, HB1.out⟩
          · have ek0 : decide (0 < (1 : Int)) = true := rfl
            have ek1 : decide (1 < (1 : Int)) = false := rfl
            cases hi : inR i with
            | false =>
              have HE : Hid (false = PB) := Lib.hid (by rw [HPL.out]; first | (simp [idxB, hi]; done) | (simp [idxB] at hi; simp [idxB, hi]))
              go_wp2_with (first | (go_at_call 69; refine (HI.out _).mono ?_; rintro e w' ⟨rfl, rfl⟩) | (go_at_call 68; refine HK.out.mono ?_; rintro e w' ⟨rfl, rfl⟩))
              go_ret
              exact ⟨ret_bool HE.out, HB1.out⟩
            | true =>
              have qi : idxB true i 0 = true := hi
              by_cases hj : j = 0
              · have qj : idxB false j 0 = true := idx_same hj
                have ej : (j != 0) = false := by rw [hj]; rfl
                clear hj
                have fi : decide (0 < (1 : Int)) = true := rfl
                have fj : decide (j = 0) = true := qj
                cases z with
                | true =>
                  have HE : Hid (validB f = PB) := Lib.hid (by rw [HPL.out]; unfold fitV; simp only [ea0, ea1, qa, qb, qi, qj]; first | (simp [fj]; done) | simp)
                  go_wp2_with (first | (go_at_call 69; refine (HI.out _).mono ?_; rintro e w' ⟨rfl, rfl⟩) | (go_at_call 68; refine HK.out.mono ?_; rintro e w' ⟨rfl, rfl⟩) | (go_at_call 70; refine HU.out.mono ?_; rintro e w' ⟨rfl, rfl⟩) | (go_at_call 71; refine HV.out.mono ?_; rintro e w' ⟨rfl, rfl⟩))
                  go_ret
                  exact ⟨ret_bool HE.out, HB1.out⟩
                | false =>
                  have HE : Hid (((n : Int) == 0) = PB) := Lib.hid (by rw [HPL.out]; unfold fitV; rw [HLN.out]; simp only [ea0, ea1, qa, qb, qi, qj]; first | (simp [fj]; done) | simp)
                  go_wp2_with (first | (go_at_call 69; refine (HI.out _).mono ?_; rintro e w' ⟨rfl, rfl⟩) | (go_at_call 68; refine HK.out.mono ?_; rintro e w' ⟨rfl, rfl⟩) | (go_at_call 70; refine HU.out.mono ?_; rintro e w' ⟨rfl, rfl⟩) | (go_at_call 71; refine HV.out.mono ?_; rintro e w' ⟨rfl, rfl⟩))
                  go_ret
                  exact ⟨ret_bool HE.out, HB1.out⟩
              · have hj' : idxB false j 0 = false := idx_other hj
                have ej : (j != 0) = true := by simpa using hj
                clear hj
                have HE : Hid (false = PB) := Lib.hid (by rw [HPL.out]; first | (simp [idxB]; done) | (simp [idxB] at hj'; simp [idxB, hj']))
                go_wp2_with (first | (go_at_call 69; refine (HI.out _).mono ?_; rintro e w' ⟨rfl, rfl⟩) | (go_at_call 68; refine HK.out.mono ?_; rintro e w' ⟨rfl, rfl⟩))
                go_ret
                exact ⟨ret_bool HE.out, HB1.out⟩
          · have ek0 : decide (0 < (2 : Int)) = true := rfl
            have ek1 : decide (1 < (2 : Int)) = true := rfl
            cases hi : inR i with
            | false =>
              have HE : Hid (false = PB) := Lib.hid (by rw [HPL.out]; first | (simp [idxB, hi]; done) | (simp [idxB] at hi; simp [idxB, hi]))
              go_wp2_with (first | (go_at_call 69; refine (HI.out _).mono ?_; rintro e w' ⟨rfl, rfl⟩) | (go_at_call 68; refine HK.out.mono ?_; rintro e w' ⟨rfl, rfl⟩))
              go_ret
              exact ⟨ret_bool HE.out, HB1.out⟩
            | true =>
              have qi : idxB true i 0 = true := hi
              cases hj : inR j with
              | false =>
                have HE : Hid (false = PB) := Lib.hid (by rw [HPL.out]; first | (simp [idxB, hj]; done) | (simp [idxB] at hj; simp [idxB, hj]))
                go_wp2_with (first | (go_at_call 69; refine (HI.out _).mono ?_; rintro e w' ⟨rfl, rfl⟩) | (go_at_call 68; refine HK.out.mono ?_; rintro e w' ⟨rfl, rfl⟩))
                go_ret
                exact ⟨ret_bool HE.out, HB1.out⟩
              | true =>
                have qj : idxB true j 0 = true := hj
                have fi : decide (0 < (2 : Int)) = true := rfl
                have fj : decide (1 < (2 : Int)) = true := rfl
                cases z with
                | true =>
                  have HE : Hid (validB f = PB) := Lib.hid (by rw [HPL.out]; unfold fitV; simp only [ea0, ea1, ek0, ek1, qa, qb, qi, qj]; first | (simp; done) | simp)
                  go_wp2_with (first | (go_at_call 69; refine (HI.out _).mono ?_; rintro e w' ⟨rfl, rfl⟩) | (go_at_call 68; refine HK.out.mono ?_; rintro e w' ⟨rfl, rfl⟩) | (go_at_call 70; refine HU.out.mono ?_; rintro e w' ⟨rfl, rfl⟩) | (go_at_call 71; refine HV.out.mono ?_; rintro e w' ⟨rfl, rfl⟩))
                  go_ret
                  exact ⟨ret_bool HE.out, HB1.out⟩
                | false =>
                  have HE : Hid (((n : Int) == 0) = PB) := Lib.hid (by rw [HPL.out]; unfold fitV; rw [HLN.out]; simp only [ea0, ea1, ek0, ek1, qa, qb, qi, qj]; first | (simp; done) | simp)
                  go_wp2_with (first | (go_at_call 69; refine (HI.out _).mono ?_; rintro e w' ⟨rfl, rfl⟩) | (go_at_call 68; refine HK.out.mono ?_; rintro e w' ⟨rfl, rfl⟩) | (go_at_call 70; refine HU.out.mono ?_; rintro e w' ⟨rfl, rfl⟩) | (go_at_call 71; refine HV.out.mono ?_; rintro e w' ⟨rfl, rfl⟩))
                  go_ret
                  exact ⟨ret_bool HE.out, HB1.out⟩
        · have hb' : idxB false b (-1) = false := idx_other hb
          have eb : (b != (-1)) = true := by simpa using hb
          clear hb
          have HE : Hid (false = PB) := Lib.hid (by rw [HPL.out]; first | (simp [idxB]; done) | (simp [idxB] at hb'; simp [idxB, hb']))
          go_wp2_with (first | (go_at_call 69; refine (HI.out _).mono ?_; rintro e w' ⟨rfl, rfl⟩) | (go_at_call 68; refine HK.out.mono ?_; rintro e w' ⟨rfl, rfl⟩))
          go_ret
          exact ⟨ret_bool HE.out, HB1.out⟩
    · have ea0 : decide (0 < (2 : Int)) = true := rfl
      have ea1 : decide (1 < (2 : Int)) = true := rfl
      cases ha : inR a with
      | false =>
        have HE : Hid (false = PB) := Lib.hid (by rw [HPL.out]; first | (simp [idxB, ha]; done) | (simp [idxB] at ha; simp [idxB, ha]))
        go_wp2_with (first | (go_at_call 69; refine (HI.out _).mono ?_; rintro e w' ⟨rfl, rfl⟩) | (go_at_call 68; refine HK.out.mono ?_; rintro e w' ⟨rfl, rfl⟩))
        go_ret
        exact ⟨ret_bool HE.out, HB1.out⟩
      | true =>
        have qa : idxB true a (-1) = true := ha
        cases hb : inR b with
        | false =>
          have HE : Hid (false = PB) := Lib.hid (by rw [HPL.out]; first | (simp [idxB, hb]; done) | (simp [idxB] at hb; simp [idxB, hb]))
          go_wp2_with (first | (go_at_call 69; refine (HI.out _).mono ?_; rintro e w' ⟨rfl, rfl⟩) | (go_at_call 68; refine HK.out.mono ?_; rintro e w' ⟨rfl, rfl⟩))
          go_ret
          exact ⟨ret_bool HE.out, HB1.out⟩
        | true =>
          have qb : idxB true b (-1) = true := hb
          rcases hkr with rfl | rfl | rfl
          · have ek0 : decide (0 < (0 : Int)) = false := rfl
            have ek1 : decide (1 < (0 : Int)) = false := rfl
            by_cases hi : i = 0
            · have qi : idxB false i 0 = true := idx_same hi
              have ei : (i != 0) = false := by rw [hi]; rfl
              clear hi
              by_cases hj : j = 0
              · have qj : idxB false j 0 = true := idx_same hj
                have ej : (j != 0) = false := by rw [hj]; rfl
                clear hj
                have fi : decide (i = 0) = true := qi
                have fj : decide (j = 0) = true := qj
                cases z with
                | true =>
                  have HE : Hid (validB f = PB) := Lib.hid (by rw [HPL.out]; unfold fitV; simp only [ea0, ea1, ek0, ek1, qa, qb, qi, qj]; first | (simp [fi, fj]; done) | simp)
                  go_wp2_with (first | (go_at_call 69; refine (HI.out _).mono ?_; rintro e w' ⟨rfl, rfl⟩) | (go_at_call 68; refine HK.out.mono ?_; rintro e w' ⟨rfl, rfl⟩) | (go_at_call 70; refine HU.out.mono ?_; rintro e w' ⟨rfl, rfl⟩) | (go_at_call 71; refine HV.out.mono ?_; rintro e w' ⟨rfl, rfl⟩))
                  go_ret
                  exact ⟨ret_bool HE.out, HB1.out⟩
                | false =>
                  have HE : Hid (((n : Int) == 0) = PB) := Lib.hid (by rw [HPL.out]; unfold fitV; rw [HLN.out]; simp only [ea0, ea1, ek0, ek1, qa, qb, qi, qj]; first | (simp [fi, fj]; done) | simp)
                  go_wp2_with (first | (go_at_call 69; refine (HI.out _).mono ?_; rintro e w' ⟨rfl, rfl⟩) | (go_at_call 68; refine HK.out.mono ?_; rintro e w' ⟨rfl, rfl⟩) | (go_at_call 70; refine HU.out.mono ?_; rintro e w' ⟨rfl, rfl⟩) | (go_at_call 71; refine HV.out.mono ?_; rintro e w' ⟨rfl, rfl⟩))
                  go_ret
                  exact ⟨ret_bool HE.out, HB1.out⟩
              · have hj' : idxB false j 0 = false := idx_other hj
                have ej : (j != 0) = true := by simpa using hj
                clear hj
                have HE : Hid (false = PB) := Lib.hid (by rw [HPL.out]; first | (simp [idxB]; done) | (simp [idxB] at hj'; simp [idxB, hj']))
                go_wp2_with (first | (go_at_call 69; refine (HI.out _).mono ?_; rintro e w' ⟨rfl, rfl⟩) | (go_at_call 68; refine HK.out.mono ?_; rintro e w' ⟨rfl, rfl⟩))
                go_ret
                exact ⟨ret_bool HE.out, HB1.out⟩
            · have hi' : idxB false i 0 = false := idx_other hi
              have ei : (i != 0) = true := by simpa using hi
              clear hi
              have HE : Hid (false = PB) := Lib.hid (by rw [HPL.out]; first | (simp [idxB]; done) | (simp [idxB] at hi'; simp [idxB, hi']))
              go_wp2_with (first | (go_at_call 69; refine (HI.out _).mono ?_; rintro e w' ⟨rfl, rfl⟩) | (go_at_call 68; refine HK.out.mono ?_; rintro e w' ⟨rfl, rfl⟩))
              go_ret
              exact ⟨ret_bool HE.out, HB1.out⟩
          · have ek0 : decide (0 < (1 : Int)) = true := rfl
            have ek1 : decide (1 < (1 : Int)) = false := rfl
            cases hi : inR i with
            | false =>
              have HE : Hid (false = PB) := Lib.hid (by rw [HPL.out]; first | (simp [idxB, hi]; done) | (simp [idxB] at hi; simp [idxB, hi]))
              go_wp2_with (first | (go_at_call 69; refine (HI.out _).mono ?_; rintro e w' ⟨rfl, rfl⟩) | (go_at_call 68; refine HK.out.mono ?_; rintro e w' ⟨rfl, rfl⟩))
              go_ret
              exact ⟨ret_bool HE.out, HB1.out⟩
            | true =>
              have qi : idxB true i 0 = true := hi
              by_cases hj : j = 0
              · have qj : idxB false j 0 = true := idx_same hj
                have ej : (j != 0) = false := by rw [hj]; rfl
                clear hj
                have fi : decide (0 < (1 : Int)) = true := rfl
                have fj : decide (j = 0) = true := qj
                cases z with
                | true =>
                  have HE : Hid (validB f = PB) := Lib.hid (by rw [HPL.out]; unfold fitV; simp only [ea0, ea1, ek0, ek1, qa, qb, qi, qj]; first | (simp [fj]; done) | simp)
                  go_wp2_with (first | (go_at_call 69; refine (HI.out _).mono ?_; rintro e w' ⟨rfl, rfl⟩) | (go_at_call 68; refine HK.out.mono ?_; rintro e w' ⟨rfl, rfl⟩) | (go_at_call 70; refine HU.out.mono ?_; rintro e w' ⟨rfl, rfl⟩) | (go_at_call 71; refine HV.out.mono ?_; rintro e w' ⟨rfl, rfl⟩))
                  go_ret
                  exact ⟨ret_bool HE.out, HB1.out⟩
                | false =>
                  have HE : Hid (((n : Int) == 0) = PB) := Lib.hid (by rw [HPL.out]; unfold fitV; rw [HLN.out]; simp only [ea0, ea1, ek0, ek1, qa, qb, qi, qj]; first | (simp [fj]; done) | simp)
                  go_wp2_with (first | (go_at_call 69; refine (HI.out _).mono ?_; rintro e w' ⟨rfl, rfl⟩) | (go_at_call 68; refine HK.out.mono ?_; rintro e w' ⟨rfl, rfl⟩) | (go_at_call 70; refine HU.out.mono ?_; rintro e w' ⟨rfl, rfl⟩) | (go_at_call 71; refine HV.out.mono ?_; rintro e w' ⟨rfl, rfl⟩))
                  go_ret
                  exact ⟨ret_bool HE.out, HB1.out⟩
              · have hj' : idxB false j 0 = false := idx_other hj
                have ej : (j != 0) = true := by simpa using hj
                clear hj
                have HE : Hid (false = PB) := Lib.hid (by rw [HPL.out]; first | (simp [idxB]; done) | (simp [idxB] at hj'; simp [idxB, hj']))
                go_wp2_with (first | (go_at_call 69; refine (HI.out _).mono ?_; rintro e w' ⟨rfl, rfl⟩) | (go_at_call 68; refine HK.out.mono ?_; rintro e w' ⟨rfl, rfl⟩))
                go_ret
                exact ⟨ret_bool HE.out, HB1.out⟩
          · have ek0 : decide (0 < (2 : Int)) = true := rfl
            have ek1 : decide (1 < (2 : Int)) = true := rfl
            cases hi : inR i with
            | false =>
              have HE : Hid (false = PB) := Lib.hid (by rw [HPL.out]; first | (simp [idxB, hi]; done) | (simp [idxB] at hi; simp [idxB, hi]))
              go_wp2_with (first | (go_at_call 69; refine (HI.out _).mono ?_; rintro e w' ⟨rfl, rfl⟩) | (go_at_call 68; refine HK.out.mono ?_; rintro e w' ⟨rfl, rfl⟩))
              go_ret
              exact ⟨ret_bool HE.out, HB1.out⟩
            | true =>
              have qi : idxB true i 0 = true := hi
              cases hj : inR j with
              | false =>
                have HE : Hid (false = PB) := Lib.hid (by rw [HPL.out]; first | (simp [idxB, hj]; done) | (simp [idxB] at hj; simp [idxB, hj]))
                go_wp2_with (first | (go_at_call 69; refine (HI.out _).mono ?_; rintro e w' ⟨rfl, rfl⟩) | (go_at_call 68; refine HK.out.mono ?_; rintro e w' ⟨rfl, rfl⟩))
                go_ret
                exact ⟨ret_bool HE.out, HB1.out⟩
              | true =>
                have qj : idxB true j 0 = true := hj
                have fi : decide (0 < (2 : Int)) = true := rfl
                have fj : decide (1 < (2 : Int)) = true := rfl
                cases z with
                | true =>
                  have HE : Hid (validB f = PB) := Lib.hid (by rw [HPL.out]; unfold fitV; simp only [ea0, ea1, qa, qb, qi, qj]; first | (simp; done) | simp)
                  go_wp2_with (first | (go_at_call 69; refine (HI.out _).mono ?_; rintro e w' ⟨rfl, rfl⟩) | (go_at_call 68; refine HK.out.mono ?_; rintro e w' ⟨rfl, rfl⟩) | (go_at_call 70; refine HU.out.mono ?_; rintro e w' ⟨rfl, rfl⟩) | (go_at_call 71; refine HV.out.mono ?_; rintro e w' ⟨rfl, rfl⟩))
                  go_ret
                  exact ⟨ret_bool HE.out, HB1.out⟩
                | false =>
                  have HE : Hid (((n : Int) == 0) = PB) := Lib.hid (by rw [HPL.out]; unfold fitV; rw [HLN.out]; simp only [ea0, ea1, qa, qb, qi, qj]; first | (simp; done) | simp)
                  go_wp2_with (first | (go_at_call 69; refine (HI.out _).mono ?_; rintro e w' ⟨rfl, rfl⟩) | (go_at_call 68; refine HK.out.mono ?_; rintro e w' ⟨rfl, rfl⟩) | (go_at_call 70; refine HU.out.mono ?_; rintro e w' ⟨rfl, rfl⟩) | (go_at_call 71; refine HV.out.mono ?_; rintro e w' ⟨rfl, rfl⟩))
                  go_ret
                  exact ⟨ret_bool HE.out, HB1.out⟩
  · have HP := Lib.hid (premises_none r w1 hr)
    have HPL : Hid (plainB r a b i j f = false) := Lib.hid (by
      unfold plainB
      by_cases h1 : 1 ≤ r
      · rw [decide_eq_false (show ¬ r ≤ 14 by omega), Bool.false_and, Bool.and_false]
      · rw [decide_eq_false h1, Bool.false_and])
    have HB1 := Lib.hid hb1
    clear hb1 p1 h hr
    generalize plainB r a b i j f = PB at *
    go_enter Tryz.func16, Tryz.ntmps16
    go_wp2_with (fail)
    rw [← hw1]
    clear hw1
    refine HP.out.mono ?_
    rintro e w' ⟨rfl, rfl⟩
    go_wp2
    go_ret
    exact ⟨ret_bool (by rw [HPL.out]), HB1.out⟩
end Go.Proofs.YtjgmgaccmcepdaaGreatDoor
