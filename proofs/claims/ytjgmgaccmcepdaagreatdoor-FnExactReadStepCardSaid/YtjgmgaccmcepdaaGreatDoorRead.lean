/- ReadForm: of the program and of the model. -/
import Derived.Test.YtjgmgaccmcepdaaGreatDoorReadS
import Derived.Test.YtjgmgaccmcepdaaGreatDoorText
namespace Go.Proofs.YtjgmgaccmcepdaaGreatDoor
open Go.RowKit

theorem pfZ_cases (L : List Int) : pfZ L = -1 ∨ 0 ≤ pfZ L := by
  by_cases hL : L.length ≤ 200
  · rcases pz_suf (L.length + 1) L with ⟨f, r, e, _⟩ | ⟨r, e, hs⟩
    · cases hx : skS r with
      | nil =>
        rw [(pfL_ok hL e hx).2]
        split
        · exact .inl rfl
        · exact .inr (by omega)
      | cons c r' =>
        have h := wholeZ_more e hx
        rw [(pfL_no hL (by rw [h]; omega)).2, h]
        exact .inr (by omega)
    · have h := wholeZ_no e
      rw [(pfL_no hL (by rw [h]; omega)).2, h]
      exact .inr (by omega)
  · rw [(pfL_big hL).2]; exact .inr (by omega)

/-- ReadForm: is there a formula with this text; the formula. -/
noncomputable def rdB (s : ByteArray) : Bool := decide (pfZ (bl s) = -1) && ((mkB (textL (pfL (bl s)))).toList == s.toList)
noncomputable def rdL (s : ByteArray) : List Int := if rdB s then pfL (bl s) else []
theorem rdB_no1 {s : ByteArray} (h : ¬ pfZ (bl s) = -1) : rdB s = false := by simp [rdB, h]
theorem rdB_no2 {s : ByteArray} (h : ((mkB (textL (pfL (bl s)))).toList == s.toList) = false) : rdB s = false := by simp only [rdB, h, Bool.and_false]
theorem rdB_yes {s : ByteArray} (h : pfZ (bl s) = -1) (h' : ((mkB (textL (pfL (bl s)))).toList == s.toList) = true) : rdB s = true := by simp only [rdB, h, h', decide_true, Bool.and_true]
theorem rdL_no {s : ByteArray} (h : rdB s = false) : rdL s = [] := by unfold rdL; rw [if_neg (by rw [h]; decide)]
theorem rdL_yes {s : ByteArray} (h : rdB s = true) : rdL s = pfL (bl s) := by unfold rdL; rw [if_pos h]
theorem rdL_len (s : ByteArray) : (rdL s).length ≤ 24 := by
  cases h : rdB s with
  | false => rw [rdL_no h]; simp
  | true => rw [rdL_yes h]; exact pfL_len _

set_option maxHeartbeats 1000000 in
theorem readForm_impl (s : ByteArray) (w : World) (hs : s.size ≤ 1048576) (ht : Arit w) (hu : Dual w) :
    Calls Tryz.prog 172 #[.string s] w (GivesB w (rdL s) (rdB s)) := by
  have hP := Lib.hid (parseForm_impl s w hs ht hu)
  have HT := Lib.hid ht
  rcases pfZ_cases (bl s) with hz | hz
  · cases heq : ((mkB (textL (pfL (bl s)))).toList == s.toList) with
    | true =>
      have hr := rdB_yes hz heq
      rw [rdL_yes hr, hr]
      rw [hz] at hP
      have HFT := Lib.hid (fun A n c w' => formText_impl A n c (pfL (bl s)) w')
      generalize pfL (bl s) = f at *
      generalize mkB (textL f) = B1 at *
      clear hz hr hu
      go_enter Tryz.func172, Tryz.ntmps172
      go_wp2_with (fail)
      refine hP.out.mono ?_
      rintro e w1 ⟨A1, c1, rfl, o1, bel1⟩
      have hF := Lib.hid (HFT.out A1 f.length c1 w1 (RdI.of_own o1) (HT.out.below bel1 HT.out.lt) (own_cap o1).1)
      have HO := Lib.hid o1; have HB := Lib.hid bel1
      clear o1 bel1 ht
      go_wp2_with (go_at_call 141; refine hF.out.mono ?_; rintro e w' ⟨rfl, rfl⟩)
      go_ret2
      exact ⟨_, _, rfl, HO.out, HB.out⟩
    | false =>
      have hr := rdB_no2 heq
      rw [rdL_no hr, hr]
      rw [hz] at hP
      have HFT := Lib.hid (fun A n c w' => formText_impl A n c (pfL (bl s)) w')
      generalize pfL (bl s) = f at *
      generalize mkB (textL f) = B1 at *
      clear hz hr hu
      go_enter Tryz.func172, Tryz.ntmps172
      go_wp2_with (fail)
      refine hP.out.mono ?_
      rintro e w1 ⟨A1, c1, rfl, o1, bel1⟩
      have hF := Lib.hid (HFT.out A1 f.length c1 w1 (RdI.of_own o1) (HT.out.below bel1 HT.out.lt) (own_cap o1).1)
      have HB := Lib.hid bel1
      clear o1 bel1 ht
      go_wp2_with (go_at_call 141; refine hF.out.mono ?_; rintro e w' ⟨rfl, rfl⟩)
      go_ret2
      exact ⟨_, _, rfl, World.ownsRow_nil _ _ _ _, HB.out⟩
  · have hr := rdB_no1 (s := s) (by omega)
    rw [rdL_no hr, hr]
    generalize pfZ (bl s) = z at *
    have hd : decide (0 ≤ z) = true := decide_eq_true hz
    generalize pfL (bl s) = f at *
    clear hz hr hu ht
    go_enter Tryz.func172, Tryz.ntmps172
    go_wp2_with (fail)
    refine hP.out.mono ?_
    rintro e w1 ⟨A1, c1, rfl, o1, bel1⟩
    have HB := Lib.hid bel1
    clear o1 bel1
    go_wp2_with (fail)
    go_ret2
    exact ⟨_, _, rfl, World.ownsRow_nil _ _ _ _, HB.out⟩

set_option maxHeartbeats 1000000 in
theorem sReadForm_any (s : ByteArray) (w : World) (hs : s.size ≤ 1048576) :
    Calls Tryz.prog 122 #[.string s] w (GivesB w (rdL s) (rdB s)) := by
  have hP := Lib.hid (sParseForm_any s w hs)
  rcases pfZ_cases (bl s) with hz | hz
  · cases heq : ((mkB (textL (pfL (bl s)))).toList == s.toList) with
    | true =>
      have hr := rdB_yes hz heq
      rw [rdL_yes hr, hr]
      rw [hz] at hP
      have HFT := Lib.hid (fun A n c w' => sFormText_any A n c (pfL (bl s)) w')
      generalize pfL (bl s) = f at *
      generalize mkB (textL f) = B1 at *
      clear hz hr
      go_enter Tryz.func122, Tryz.ntmps122
      go_wp2_with (fail)
      refine hP.out.mono ?_
      rintro e w1 ⟨A1, c1, rfl, o1, bel1⟩
      have hF := Lib.hid (HFT.out A1 f.length c1 w1 (RdI.of_own o1))
      have HO := Lib.hid o1; have HB := Lib.hid bel1
      clear o1 bel1
      go_wp2_with (fail)
      refine hF.out.mono ?_
      rintro e w2 ⟨rfl, bel2⟩
      have HO2 := Lib.hid (own_below HO.out bel2 (Nat.le_refl _)); have HB2 := Lib.hid (HB.out.trans (bel2.mono HB.out.size))
      clear bel2
      go_wp2
      go_ret2
      exact ⟨_, _, rfl, HO2.out, HB2.out⟩
    | false =>
      have hr := rdB_no2 heq
      rw [rdL_no hr, hr]
      rw [hz] at hP
      have HFT := Lib.hid (fun A n c w' => sFormText_any A n c (pfL (bl s)) w')
      generalize pfL (bl s) = f at *
      generalize mkB (textL f) = B1 at *
      clear hz hr
      go_enter Tryz.func122, Tryz.ntmps122
      go_wp2_with (fail)
      refine hP.out.mono ?_
      rintro e w1 ⟨A1, c1, rfl, o1, bel1⟩
      have hF := Lib.hid (HFT.out A1 f.length c1 w1 (RdI.of_own o1))
      have HB := Lib.hid bel1
      clear o1 bel1
      go_wp2_with (fail)
      refine hF.out.mono ?_
      rintro e w2 ⟨rfl, bel2⟩
      have HB2 := Lib.hid (HB.out.trans (bel2.mono HB.out.size))
      clear bel2
      go_wp2
      go_ret2
      exact ⟨_, _, rfl, World.ownsRow_nil _ _ _ _, HB2.out⟩
  · have hr := rdB_no1 (s := s) (by omega)
    rw [rdL_no hr, hr]
    generalize pfZ (bl s) = z at *
    have hd : decide (0 ≤ z) = true := decide_eq_true hz
    generalize pfL (bl s) = f at *
    clear hz hr
    go_enter Tryz.func122, Tryz.ntmps122
    go_wp2_with (fail)
    refine hP.out.mono ?_
    rintro e w1 ⟨A1, c1, rfl, o1, bel1⟩
    have HB := Lib.hid bel1
    clear o1 bel1
    go_wp2_with (fail)
    go_ret2
    exact ⟨_, _, rfl, World.ownsRow_nil _ _ _ _, HB.out⟩
end Go.Proofs.YtjgmgaccmcepdaaGreatDoor
