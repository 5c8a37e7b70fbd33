/- The program's SubstForm. -/
import Derived.Test.YtoniekjchabjlaaDoorBndD
namespace Go.Proofs.YtoniekjchabjlaaDoor
open Go.ChangeAt Go.ChangeShapes Go.RowKit Go.WideShapes

theorem givesB_nilB (w w' : World) (h : Below w.heap.size w w') : GivesB w [] false (.returned (.tuple #[.slice none 0 0, .bool false])) w' := ⟨none, 0, rfl, World.ownsRow_nil _ _ _ _, h⟩
set_option maxRecDepth 100000 in
set_option maxHeartbeats 4000000 in
theorem substForm_impl (A : Option Addr) (n c : Nat) (f : List Int) (B : Option Addr) (m d : Nat) (qs : List (List Int)) (w : World) (h : RdI w w.heap.size A n f) (h' : RdQ w w.heap.size B m qs) (hnc : n ≤ c) (hm : m ≤ 1048576) (ht : Arit w) (hu : Dual w) :
    Calls Tryd.prog 13 #[.slice A n c, .slice B m d] w (GivesB w (sfL f qs) (sfB f qs)) := by
  have HC := Lib.hid (bindingOf_any B m d qs w h' hm ht)
  have HR := Lib.hid h
  have HLN := Lib.hid h.len
  clear h h'
  cases hb : bndB qs with
  | false =>
    have e1 : sfB f qs = false := sfB_no2 hb
    rw [sfL_no e1, e1]
    have HBF := Lib.hid hb
    clear e1 hb
    go_enter Tryd.func13, Tryd.ntmps13
    go_wp2_with (fail)
    refine HC.out.mono ?_
    rintro e w1 ⟨cs, rfl, o1, b1⟩
    obtain ⟨hg, w2, hw2, hg2, o2, b2, hs2⟩ := bnd_var b1 o1
    have HG := Lib.hid hg; have HO1 := Lib.hid o1; have HB2 := Lib.hid b2; have HW2 := Lib.hid hw2
    rw [HBF.out]
    clear hg hw2 hg2 o2 b2 hs2 o1 b1
    go_wp2_with (refine wpList_store_row rfl _ _ _ rfl w1.heap.size _ rfl rfl _ _ HG.out (by rw [HO1.out.size]; exact size_bnd) HO1.out.size.symm HO1.out.one ?_; rw [← HW2.out])
    go_ret2
    exact givesB_nilB _ _ HB2.out
  | true =>
    have HBT := Lib.hid hb
    have hqq := bndQ_yes hb
    have HOK := Lib.hid (bnd_at hb)
    cases hv : validB f with
    | false =>
      have e1 : sfB f qs = false := sfB_no1 hv
      rw [sfL_no e1, e1]
      have HVF := Lib.hid hv
      clear e1 hb hv hqq
      go_enter Tryd.func13, Tryd.ntmps13
      go_wp2_with (fail)
      refine HC.out.mono ?_
      rintro e w1 ⟨cs, rfl, o1, b1⟩
      obtain ⟨hg, w2, hw2, hg2, o2, b2, hs2⟩ := bnd_var b1 o1
      have HG := Lib.hid hg; have HO1 := Lib.hid o1; have HB2 := Lib.hid b2; have HW2 := Lib.hid hw2
      have HV := Lib.hid (validForm_impl A n c f w2 ((HR.out.below b2).more b2.size) (ht.below b2 ht.lt) hnc)
      rw [HBT.out]
      clear hg hw2 hg2 o2 b2 hs2 o1 b1
      go_wp2_with (first
        | (refine wpList_store_row rfl _ _ _ rfl w1.heap.size _ rfl rfl _ _ HG.out (by rw [HO1.out.size]; exact size_bnd) HO1.out.size.symm HO1.out.one ?_; rw [← HW2.out])
        | (go_at_call 47; refine HV.out.mono ?_; rintro e w' ⟨rfl, rfl⟩; rw [HVF.out]))
      go_ret2
      exact givesB_nilB _ _ HB2.out
    | true =>
      have hvl := valid_len hv
      have hn : n ≤ 1000 := by have := HLN.out; omega
      have hsb := sfB_is hv hb
      have HVT := Lib.hid hv
      rw [hqq.symm] at HOK
      have HQQ := Lib.hid hqq
      have hsy := @sfL_yes f qs
      have hsn := @sfL_no f qs
      obtain ⟨X, hX⟩ : ∃ X, X = sbL qs f := ⟨_, rfl⟩
      rw [← hX] at hsb hsy
      have HX := Lib.hid hX
      clear hb hv hqq hvl hX
      by_cases hx : X.length ≤ 24
      · have hd : decide (24 < (X.length : Int)) = false := decide_eq_false (by omega)
        have e1 : sfB f qs = true := by rw [hsb]; exact decide_eq_true hx
        rw [hsy e1, e1]
        clear e1 hsb hsy hsn
        go_enter Tryd.func13, Tryd.ntmps13
        go_wp2_with (fail)
        refine HC.out.mono ?_
        rintro e w1 ⟨cs, rfl, o1, b1⟩
        obtain ⟨hg, w2, hw2, hg2, o2, b2, hs2⟩ := bnd_var b1 o1
        have HG := Lib.hid hg; have HO1 := Lib.hid o1; have HB2 := Lib.hid b2; have HW2 := Lib.hid hw2; have HG2 := Lib.hid hg2
        have HR2 := Lib.hid ((HR.out.below b2).more b2.size)
        have HV := Lib.hid (validForm_impl A n c f w2 HR2.out (ht.below b2 ht.lt) hnc)
        have hF := inForm_any cs (bndQ qs) A n c f w2 o2 HOK.out HR2.out hn (ht.below b2 ht.lt) (hu.below b2 hu.lt)
        rw [HQQ.out, ← HX.out] at hF
        have HF := Lib.hid hF
        rw [HBT.out]
        clear hg hw2 hg2 o2 b2 hs2 o1 b1 hF
        go_wp2_with (first
          | (refine wpList_store_row rfl _ _ _ rfl w1.heap.size _ rfl rfl _ _ HG.out (by rw [HO1.out.size]; exact size_bnd) HO1.out.size.symm HO1.out.one ?_; rw [← HW2.out])
          | (refine wpList_load_row rfl _ _ rfl w1.heap.size rfl _ _ _ _ HG2.out Tryd.underlying62 rfl (by rw [HO1.out.size]; exact size_bnd) ?_)
          | (go_at_call 47; refine HV.out.mono ?_; rintro e w' ⟨rfl, rfl⟩; rw [HVT.out])
          | (go_at_call 48; refine HF.out.mono ?_; rintro e w3 ⟨A3, c3, rfl, o3, bel3⟩))
        have HO3 := Lib.hid (own_base o3 HB2.out.size); have HB3 := Lib.hid (HB2.out.trans (bel3.mono HB2.out.size))
        clear o3 bel3
        go_wp2
        go_ret2
        exact ⟨A3, c3, rfl, HO3.out, HB3.out⟩
      · have hd : decide (24 < (X.length : Int)) = true := decide_eq_true (by omega)
        have e1 : sfB f qs = false := by rw [hsb]; exact decide_eq_false hx
        rw [hsn e1, e1]
        clear e1 hsb hsy hsn
        go_enter Tryd.func13, Tryd.ntmps13
        go_wp2_with (fail)
        refine HC.out.mono ?_
        rintro e w1 ⟨cs, rfl, o1, b1⟩
        obtain ⟨hg, w2, hw2, hg2, o2, b2, hs2⟩ := bnd_var b1 o1
        have HG := Lib.hid hg; have HO1 := Lib.hid o1; have HB2 := Lib.hid b2; have HW2 := Lib.hid hw2; have HG2 := Lib.hid hg2
        have HR2 := Lib.hid ((HR.out.below b2).more b2.size)
        have HV := Lib.hid (validForm_impl A n c f w2 HR2.out (ht.below b2 ht.lt) hnc)
        have hF := inForm_any cs (bndQ qs) A n c f w2 o2 HOK.out HR2.out hn (ht.below b2 ht.lt) (hu.below b2 hu.lt)
        rw [HQQ.out, ← HX.out] at hF
        have HF := Lib.hid hF
        rw [HBT.out]
        clear hg hw2 hg2 o2 b2 hs2 o1 b1 hF
        go_wp2_with (first
          | (refine wpList_store_row rfl _ _ _ rfl w1.heap.size _ rfl rfl _ _ HG.out (by rw [HO1.out.size]; exact size_bnd) HO1.out.size.symm HO1.out.one ?_; rw [← HW2.out])
          | (refine wpList_load_row rfl _ _ rfl w1.heap.size rfl _ _ _ _ HG2.out Tryd.underlying62 rfl (by rw [HO1.out.size]; exact size_bnd) ?_)
          | (go_at_call 47; refine HV.out.mono ?_; rintro e w' ⟨rfl, rfl⟩; rw [HVT.out])
          | (go_at_call 48; refine HF.out.mono ?_; rintro e w3 ⟨A3, c3, rfl, o3, bel3⟩))
        have HB3 := Lib.hid (HB2.out.trans (bel3.mono HB2.out.size))
        clear o3 bel3
        go_wp2
        go_ret2
        exact givesB_nilB _ _ HB3.out
end Go.Proofs.YtoniekjchabjlaaDoor
