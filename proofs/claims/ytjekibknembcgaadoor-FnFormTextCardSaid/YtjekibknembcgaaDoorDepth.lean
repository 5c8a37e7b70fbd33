/- DepthOf: of the program and of the model. -/
import Derived.Test.YtjekibknembcgaaDoorOpnd
namespace Go.Proofs.YtjekibknembcgaaDoor
open Go.RowKit

theorem ret_two {a b : Int} {x y : Value} (h : a = b) (h' : x = y) : Ending.returned (.tuple #[.int .i64 a, x]) = .returned (.tuple #[.int .i64 b, y]) := by rw [h, h']

/-- In the list f a formula begins at a, ends before e, and has the depth d. -/
inductive Dp (f : List Int) : Nat → Nat → Int → Prop
  | leaf {a : Nat} : a < f.length → arZ (f.getD a 0) = 0 → Dp f a (a + 1) 0
  | one {a e : Nat} {d : Int} : a < f.length → arZ (f.getD a 0) = 1 → fe f ((a + 1 : Nat) : Int) = e → Dp f (a + 1) e d → Dp f a e (1 + d)
  | two {a e1 e : Nat} {d1 d2 : Int} : a < f.length → arZ (f.getD a 0) = 2 → fe f ((a + 1 : Nat) : Int) = e1 → fe f (e1 : Int) = e → Dp f (a + 1) e1 d1 → Dp f e1 e d2 → Dp f a e (max (1 + d1) (1 + d2))

theorem Dp.bd {f : List Int} {a e : Nat} {d : Int} (h : Dp f a e d) : a < e ∧ e ≤ f.length ∧ 0 ≤ d ∧ d ≤ (e : Int) - a := by
  induction h with
  | leaf h _ => omega
  | one h _ _ _ ih => omega
  | two h _ _ _ _ _ ih1 ih2 => omega

theorem dp_ex (f : List Int) : ∀ (n a e : Nat), f.length - a ≤ n → fe f a = e → ∃ d, Dp f a e d := by
  intro n
  induction n with
  | zero =>
    intro a e hn he
    have := fe_bd f a
    omega
  | succ n ih =>
    intro a e hn he
    have hb := fe_bd f a
    have ha : a < f.length := by omega
    have e0 := fe_any f a
    rw [drop_cons ha] at e0
    rcases arZ_cases (f.getD a 0) with h | h | h | h
    · rw [scan_bad _ _ _ h] at e0; omega
    · rw [scan_end _ _ _ (by omega) (by omega)] at e0
      have : e = a + 1 := by omega
      subst this
      exact ⟨0, .leaf ha h⟩
    · rw [scan_on _ _ _ (by omega) (by omega), h] at e0
      have e1 : fe f ((a + 1 : Nat) : Int) = e := by rw [fe_any f (a + 1), ← he, e0]; rfl
      obtain ⟨d, hd⟩ := ih (a + 1) e (by omega) e1
      exact ⟨_, .one ha h e1 hd⟩
    · rw [scan_on _ _ _ (by omega) (by omega), h] at e0
      have hne : scan (f.drop (a + 1)) (1 + 1) ((a : Int) + 1) ≠ -1 := by
        have e1 : scan (f.drop (a + 1)) (1 + 1) ((a : Int) + 1) = e := by rw [← he, e0]; rfl
        rw [e1]; omega
      obtain ⟨q, q1, q2, q3, q4⟩ := scan_split (f.drop (a + 1)) 1 ((a : Int) + 1) (by omega) hne
      have e1 : fe f ((a + 1 : Nat) : Int) = ((a + 1 + q : Nat) : Int) := by
        rw [fe_any f (a + 1), show ((a + 1 : Nat) : Int) = (a : Int) + 1 by omega, q3]; omega
      have e2 : fe f ((a + 1 + q : Nat) : Int) = e := by
        rw [fe_any f (a + 1 + q), ← List.drop_drop, show ((a + 1 + q : Nat) : Int) = (a : Int) + 1 + q by omega, ← q4, ← he, e0]
        rfl
      obtain ⟨d1, h1⟩ := ih (a + 1) (a + 1 + q) (by omega) e1
      obtain ⟨d2, h2⟩ := ih (a + 1 + q) e (by omega) e2
      exact ⟨_, .two ha h e1 e2 h1 h2⟩

set_option maxHeartbeats 4000000 in
theorem depthAt_any (A : Option Addr) (c : Nat) (f : List Int) (w : World) (h : RdI w w.heap.size A f.length f) (ht : Arit w) (hnc : f.length ≤ c) (h24 : f.length ≤ 24) {a e : Nat} {d : Int} (hd : Dp f a e d) :
    Calls Tryd.prog 82 #[.slice A f.length c, .int .i64 a] w fun r w' => r = .returned (.int .i64 d) ∧ w = w' := by
  induction hd with
  | @leaf a ha h0 =>
    obtain ⟨b1, off1, rfl, hb1, hc1⟩ := h.2 (by omega)
    have hc := hc1 a ha
    generalize f.getD a 0 = x at *
    clear hc1
    go_enter Tryd.func82, Tryd.ntmps82
    go_wp2_with (go_at_call 65; refine (arityOf_any x _ ht).mono ?_; rintro r w' ⟨rfl, rfl⟩)
    refine wp_loop_rounds 1 ?_
    rw [rounds_succ]
    go_wp2
    go_ret
    exact ⟨rfl, rfl⟩
  | @one a e d ha h0 hfe hd ih =>
    obtain ⟨b1, off1, rfl, hb1, hc1⟩ := h.2 (by omega)
    have hc := hc1 a ha
    generalize f.getD a 0 = x at *
    have hbd := hd.bd
    have HIH := Lib.hid ih
    have HE : Hid (feI f ((a + 1 : Nat) : Int) = e) := Lib.hid (by rw [feI_small h24]; exact hfe)
    have hd0 : 0 ≤ d := by omega
    have hd1 : d ≤ 24 := by omega
    clear hc1 ih hfe hd hbd
    go_enter Tryd.func82, Tryd.ntmps82
    go_wp2_with (go_at_call 65; refine (arityOf_any x _ ht).mono ?_; rintro r w' ⟨rfl, rfl⟩)
    refine wp_loop_rounds 2 ?_
    rw [rounds_succ]
    go_wp2_with (first | (go_at_call 82; refine HIH.out.mono ?_; rintro r w' ⟨rfl, rfl⟩) | (go_at_call 66; refine (formEnd_impl _ _ _ f ((a + 1 : Nat) : Int) _ h ht hnc).mono ?_; rw [HE.out]; rintro r w' ⟨rfl, rfl⟩))
    rw [rounds_succ]
    go_wp2
    go_ret
    refine ⟨ret_i64 ?_, rfl⟩
    omega
  | @two a e1 e d1 d2 ha h0 hf1 hf2 hd1 hd2 ih1 ih2 =>
    obtain ⟨b1, off1, rfl, hb1, hc1⟩ := h.2 (by omega)
    have hc := hc1 a ha
    generalize f.getD a 0 = x at *
    have hbd1 := hd1.bd
    have hbd2 := hd2.bd
    have HIH1 := Lib.hid ih1
    have HIH2 := Lib.hid ih2
    have HE1 : Hid (feI f ((a + 1 : Nat) : Int) = e1) := Lib.hid (by rw [feI_small h24]; exact hf1)
    have HE2 : Hid (feI f (e1 : Int) = e) := Lib.hid (by rw [feI_small h24]; exact hf2)
    have hd10 : 0 ≤ d1 := by omega
    have hd11 : d1 ≤ 24 := by omega
    have hd20 : 0 ≤ d2 := by omega
    have hd21 : d2 ≤ 24 := by omega
    clear hc1 ih1 ih2 hf1 hf2 hd1 hd2 hbd1 hbd2
    go_enter Tryd.func82, Tryd.ntmps82
    go_wp2_with (go_at_call 65; refine (arityOf_any x _ ht).mono ?_; rintro r w' ⟨rfl, rfl⟩)
    refine wp_loop_rounds 3 ?_
    rw [rounds_succ]
    go_wp2_with (first | (go_at_call 82; refine HIH1.out.mono ?_; rintro r w' ⟨rfl, rfl⟩) | (go_at_call 66; refine (formEnd_impl _ _ _ f ((a + 1 : Nat) : Int) _ h ht hnc).mono ?_; rw [HE1.out]; rintro r w' ⟨rfl, rfl⟩))
    rw [rounds_succ]
    go_wp2_with (first | (go_at_call 82; refine HIH2.out.mono ?_; rintro r w' ⟨rfl, rfl⟩) | (go_at_call 66; refine (formEnd_impl _ _ _ f (e1 : Int) _ h ht hnc).mono ?_; rw [HE2.out]; rintro r w' ⟨rfl, rfl⟩))
    rw [rounds_succ]
    go_wp2
    go_ret
    refine ⟨ret_i64 ?_, rfl⟩
    omega

theorem dep_ex {f : List Int} (h : validB f = true) : ∃ d, Dp f 0 f.length d := dp_ex f f.length 0 f.length (by omega) (valid_len h).2.2
open Classical in
/-- DepthOf. -/
noncomputable def depV (f : List Int) : Int := if h : validB f = true then (dep_ex h).choose else -1
theorem depV_no {f : List Int} (h : validB f = false) : depV f = -1 := by unfold depV; rw [dif_neg (by rw [h]; decide)]
theorem depV_yes {f : List Int} (h : validB f = true) : Dp f 0 f.length (depV f) := by unfold depV; rw [dif_pos h]; exact (dep_ex h).choose_spec

set_option maxHeartbeats 400000 in
theorem depthOf_impl (A : Option Addr) (n c : Nat) (f : List Int) (w : World) (h : RdI w w.heap.size A n f) (ht : Arit w) (hnc : n ≤ c) :
    Calls Tryd.prog 51 #[.slice A n c] w fun e w' => e = .returned (.int .i64 (depV f)) ∧ w = w' := by
  have hl := h.len
  subst hl
  cases hv : validB f with
  | false =>
    rw [depV_no hv]
    go_enter Tryd.func51, Tryd.ntmps51
    go_wp2_with (go_at_call 50; refine (validForm_impl _ _ _ f _ h ht hnc).mono ?_; rintro e w' ⟨rfl, rfl⟩)
    go_ret
    exact ⟨rfl, rfl⟩
  | true =>
    have HD := Lib.hid (depthAt_any A c f w h ht hnc (valid_len hv).2.1 (depV_yes hv))
    go_enter Tryd.func51, Tryd.ntmps51
    go_wp2_with (first | (go_at_call 50; refine (validForm_impl _ _ _ f _ h ht hnc).mono ?_; rintro e w' ⟨rfl, rfl⟩) | (go_at_call 82; refine HD.out.mono ?_; rintro e w' ⟨rfl, rfl⟩))
    go_ret
    exact ⟨rfl, rfl⟩

end Go.Proofs.YtjekibknembcgaaDoor
