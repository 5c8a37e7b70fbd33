/- The model's MatchForm. -/
import Derived.Test.YtoniekjchabjlaaDoorSubG
import Derived.Test.YtoniekjchabjlaaDoorPartsM
namespace Go.Proofs.YtoniekjchabjlaaDoor
open Go.ChangeAt Go.ChangeShapes Go.RowKit Go.WideShapes

def cutM (f : List Int) (a : Nat) : List Int := (f.drop a).take ((fe f a).toNat - a)
/-- What an atom of the pattern is bound to. -/
def mtP (f : List Int) (x : Int) (a : Nat) : List Int := if x < 0 then dualL (cutM f a) else cutM f a
def mtS (f : List Int) (x : Int) (s : Nat × List (List Int)) : Option (Nat × List (List Int)) :=
  if leafB x = true then
    if fe f s.1 < 0 then none
    else if 0 < (elt s.2 x).length ∧ elt s.2 x ≠ mtP f x s.1 then none
    else some ((fe f s.1).toNat, s.2.set (x.natAbs - 1) (mtP f x s.1))
  else if s.1 < f.length ∧ f.getD s.1 0 = x then some (s.1 + 1, s.2) else none
def mtR (f : List Int) : List Int → Nat × List (List Int) → Option (Nat × List (List Int))
  | [], s => some s
  | x :: p, s => (mtS f x s).bind (mtR f p)
theorem mtR_app (f : List Int) : ∀ (p q : List Int) (s : Nat × List (List Int)), mtR f (p ++ q) s = (mtR f p s).bind (mtR f q)
  | [], q, s => rfl
  | x :: p, q, s => by
    show (mtS f x s).bind (mtR f (p ++ q)) = ((mtS f x s).bind (mtR f p)).bind (mtR f q)
    cases mtS f x s with
    | none => rfl
    | some t => exact mtR_app f p q t
def mt0 : Nat × List (List Int) := (0, List.replicate 8 [])
def mtB (p f : List Int) : Bool := validB p && (validB f && (match mtR f p mt0 with | some s => decide (s.1 = f.length) | none => false))
def mtL (p f : List Int) : List (List Int) := if mtB p f = true then (match mtR f p mt0 with | some s => s.2 | none => []) else []
theorem mt_step {p f : List Int} {k : Nat} {s : Nat × List (List Int)} (hk : k < p.length) (h : mtR f (p.take k) mt0 = some s) : mtR f (p.take (k + 1)) mt0 = mtS f (p.getD k 0) s := by
  rw [List.take_succ_eq_append_getElem hk, mtR_app, h]
  have e : p.getD k 0 = p[k] := by simp [List.getD, hk]
  rw [e]
  show (mtS f p[k] s).bind (mtR f []) = _
  cases mtS f p[k] s <;> rfl
theorem mt_fail {p f : List Int} {k : Nat} {s : Nat × List (List Int)} (hk : k < p.length) (h : mtR f (p.take k) mt0 = some s) (hS : mtS f (p.getD k 0) s = none) : mtR f p mt0 = none := by
  have h1 := mt_step hk h
  rw [hS] at h1
  have e : p = p.take (k + 1) ++ p.drop (k + 1) := (List.take_append_drop _ _).symm
  rw [e, mtR_app, h1]
  rfl
theorem mtB_no1 {p f : List Int} (h : validB p = false) : mtB p f = false := by unfold mtB; rw [h]; rfl
theorem mtB_no2 {p f : List Int} (h : validB f = false) : mtB p f = false := by unfold mtB; rw [h, Bool.false_and, Bool.and_false]
theorem mtB_none {p f : List Int} (h : mtR f p mt0 = none) : mtB p f = false := by unfold mtB; rw [h, Bool.and_false, Bool.and_false]
theorem mtB_some {p f : List Int} {s : Nat × List (List Int)} (hp : validB p = true) (hf : validB f = true) (h : mtR f p mt0 = some s) : mtB p f = decide (s.1 = f.length) := by unfold mtB; rw [hp, hf, h]; rfl
theorem mtL_no {p f : List Int} (h : mtB p f = false) : mtL p f = [] := by unfold mtL; rw [h]; rfl
theorem mtL_yes {p f : List Int} {s : Nat × List (List Int)} (h : mtB p f = true) (hs : mtR f p mt0 = some s) : mtL p f = s.2 := by unfold mtL; rw [if_pos h, hs]
theorem mtS_op {f : List Int} {x : Int} {a : Nat} {out : List (List Int)} (hl : leafB x = false) (h : a < f.length) (he : f.getD a 0 = x) : mtS f x (a, out) = some (a + 1, out) := by unfold mtS; rw [if_neg (by rw [hl]; simp), if_pos ⟨h, he⟩]
theorem mtS_opn {f : List Int} {x : Int} {a : Nat} {out : List (List Int)} (hl : leafB x = false) (h : ¬ (a < f.length ∧ f.getD a 0 = x)) : mtS f x (a, out) = none := by unfold mtS; rw [if_neg (by rw [hl]; simp), if_neg h]
theorem mtS_end {f : List Int} {x : Int} {a : Nat} {out : List (List Int)} (hl : leafB x = true) (h : fe f a < 0) : mtS f x (a, out) = none := by unfold mtS; rw [if_pos hl, if_pos h]
theorem mtS_yes {f : List Int} {x : Int} {a E : Nat} {out : List (List Int)} (hl : leafB x = true) (h : fe f a = E) (he : ¬ (0 < (elt out x).length ∧ elt out x ≠ mtP f x a)) : mtS f x (a, out) = some (E, out.set (x.natAbs - 1) (mtP f x a)) := by
  unfold mtS
  rw [if_pos hl, if_neg (by show ¬ fe f a < 0; omega), if_neg he, h]
  rfl
theorem mtS_not {f : List Int} {x : Int} {a E : Nat} {out : List (List Int)} (hl : leafB x = true) (h : fe f a = E) (h0 : 0 < (elt out x).length) (he : elt out x ≠ mtP f x a) : mtS f x (a, out) = none := by
  unfold mtS
  rw [if_pos hl, if_neg (by show ¬ fe f a < 0; omega), if_pos ⟨h0, he⟩]
theorem set_small {out : List (List Int)} {D : List Int} {j : Nat} (h : ∀ q ∈ out, q.length ≤ 24) (hD : D.length ≤ 24) : ∀ q ∈ out.set j D, q.length ≤ 24 := fun q hq => by
  rcases List.mem_or_eq_of_mem_set hq with h1 | rfl
  · exact h q h1
  · exact hD

set_option maxRecDepth 100000 in
set_option maxHeartbeats 16000000 in
theorem sMatch_any (A : Option Addr) (n c : Nat) (p : List Int) (B : Option Addr) (m d : Nat) (f : List Int) (w : World) (h : RdI w w.heap.size A n p) (h' : RdI w w.heap.size B m f) (hmd : m ≤ d) :
    Calls Tryd.prog 41 #[.slice A n c, .slice B m d] w (GivesSSB w (mtL p f) (mtB p f)) := by
  have hl := h.len
  subst hl
  have hl' := h'.len
  subst hl'
  have HP := Lib.hid (sValidForm_any A _ c p w h)
  have HF := Lib.hid (sValidForm_any B _ d f w h')
  cases hvp : validB p with
  | false =>
    have hs := mtB_no1 (f := f) hvp
    rw [mtL_no hs, hs]
    rw [hvp] at HP
    clear h h' hs
    go_enter Tryd.func41, Tryd.ntmps41
    go_wp2_with (fail)
    refine HP.out.mono ?_
    rintro e w' ⟨rfl, rfl⟩
    go_wp2
    go_ret2
    exact givesSSB_nil _ _ (Below.refl _ _)
  | true =>
    rw [hvp] at HP
    cases hvf : validB f with
    | false =>
      have hs := mtB_no2 (p := p) hvf
      rw [mtL_no hs, hs]
      rw [hvf] at HF
      clear h h' hs
      go_enter Tryd.func41, Tryd.ntmps41
      go_wp2_with (fail)
      refine HP.out.mono ?_
      rintro e w' ⟨rfl, rfl⟩
      go_wp2_with (fail)
      refine HF.out.mono ?_
      rintro e w' ⟨rfl, rfl⟩
      go_wp2
      go_ret2
      exact givesSSB_nil _ _ (Below.refl _ _)
    | true =>
      rw [hvf] at HF
      have hlp := valid_len hvp
      have hlf := valid_len hvf
      obtain ⟨bp, op, rfl, hbp, hcp⟩ := h.2 (by omega)
      obtain ⟨bf, of_, rfl, hbf, hcf⟩ := h'.2 (by omega)
      have HCP := Lib.hid hcp; have HCF := Lib.hid hcf
      have HFN := Lib.hid (And.intro (fun hh : mtR f p mt0 = none => mtB_none hh) (fun s (hh : mtR f p mt0 = some s) => mtB_some hvp hvf hh))
      have HSEG := Lib.hid (fun (a E : Nat) (h1 : fe f a = E) (h2 : a < E) (h3 : E ≤ f.length) => seg_valid h1 h2 h3 hlf.2.1)
      have HFE := Lib.hid (fun (a : Nat) => fe_bd f a)
      have H' := Lib.hid h'
      have hp24 := hlp.2.1; have hf24 := hlf.2.1
      clear h h' hcp hcf hvp hvf hlp hlf
      go_enter Tryd.func41, Tryd.ntmps41
      go_wp2_with (fail)
      refine HP.out.mono ?_
      rintro e w' ⟨rfl, rfl⟩
      go_wp2_with (fail)
      refine HF.out.mono ?_
      rintro e w' ⟨rfl, rfl⟩
      go_wp2_with (fail)
      refine (emptyBinding_any w).mono ?_
      rintro e w4 ⟨hs0, g0, c0, rfl, own4, bel4⟩
      have HO4 := Lib.hid own4; have HB4 := Lib.hid bel4
      clear own4 bel4
      go_wp2_with (fail)
      go_loopw [7, 8] (fun a i wr => ∃ (k at_ : Nat) (hs : Nat → Option Addr × Nat) (out : List (List Int)), k ≤ p.length ∧ i = .int .i64 k ∧ a = .int .i64 (at_ : Int) ∧ OwnQ wr w.heap.size wr.heap.size (.slice (some ⟨g0, 0, none⟩) 8 c0) hs out ∧ Below w.heap.size w wr ∧
        mtR f (p.take k) mt0 = some (at_, out) ∧ out.length = 8 ∧ at_ ≤ f.length ∧ ∀ q ∈ out, q.length ≤ 24) (fun _ i _ => p.length - (intOf i).toNat)
      case atStart => exact ⟨0, 0, hs0, List.replicate 8 [], by omega, rfl, rfl, HO4.out, HB4.out, rfl, rfl, Nat.zero_le _, fun q hq => by rw [(List.mem_replicate.1 hq).2]; exact Nat.zero_le _⟩
      case round =>
        obtain ⟨k, at_, hs, out, hk, rfl, rfl, hown, hb, hist, hol, hat, hsm⟩ := hrel
        have hsz := hb.size
        have HO := Lib.hid hown; have HB := Lib.hid hb; have HOL := Lib.hid hol; have HSM := Lib.hid hsm
        clear hown hb hol hsm
        by_cases hlt : k < p.length
        · have hcx := (HB.out.cell (p := ⟨bp, op + k, none⟩) hbp).trans (HCP.out k hlt)
          have HST := Lib.hid (mt_step hlt hist)
          have HFL := Lib.hid (fun hh => mt_fail hlt hist hh)
          clear hist
          generalize p.getD k 0 = x at *
          cases hleaf : leafB x with
          | false =>
            by_cases ha : at_ < f.length
            · have hd1 : decide ((f.length : Int) ≤ (at_ : Int)) = false := decide_eq_false (by omega)
              have hai : (at_ : Int) < (f.length : Int) := by omega
              have hcy := (HB.out.cell (p := ⟨bf, of_ + at_, none⟩) hbf).trans (HCF.out at_ ha)
              have HY : Hid (f.getD at_ 0 = f.getD at_ 0) := Lib.hid rfl
              generalize hy : f.getD at_ 0 = y at *
              by_cases hxy : y = x
              · have hne : (y != x) = false := by rw [hxy]; simp
                have HH := Lib.hid (HST.out.trans (mtS_op hleaf ha (hy.trans hxy)))
                have hwa : IntKind.i64.wrap ((at_ : Int) + 1) = (at_ : Int) + 1 := IntWalk.i64_in _ (by omega)
                clear hy hxy
                go_wp2_with (fail)
                refine (isAtom_any x wr).mono ?_
                rintro e w' ⟨rfl, rfl⟩
                rw [hleaf]
                go_wp2_with (fail)
                go_quiet (fail)
                go_wp2
                go_roundw
                case rel => exact ⟨k + 1, at_ + 1, hs, out, by omega, by go_num, by go_num, (HO.out.below (below_drewN (Below.refl wr.heap.size wr) nq)).more (Nat.le_refl _) (below_drewN (Below.refl wr.heap.size wr) nq).size, below_drewN HB.out nq, HH.out, HOL.out, by omega, HSM.out⟩
                case measure => simp [intOf]; omega
              · have hne : (y != x) = true := by simpa using hxy
                have HNO := Lib.hid (HFN.out.1 (HFL.out (mtS_opn hleaf (fun hh => hxy (hy.symm.trans hh.2)))))
                clear hy hxy
                go_wp2_with (fail)
                refine (isAtom_any x wr).mono ?_
                rintro e w' ⟨rfl, rfl⟩
                rw [hleaf]
                go_wp2_with (fail)
                go_quiet (fail)
                go_wp2
                go_ret2
                rw [mtL_no HNO.out, HNO.out]
                exact givesSSB_nil _ _ (below_drewN HB.out nq)
            · have hd1 : decide ((f.length : Int) ≤ (at_ : Int)) = true := decide_eq_true (by omega)
              have HNO := Lib.hid (HFN.out.1 (HFL.out (mtS_opn hleaf (fun hh => ha hh.1))))
              go_wp2_with (fail)
              refine (isAtom_any x wr).mono ?_
              rintro e w' ⟨rfl, rfl⟩
              rw [hleaf]
              go_wp2_with (fail)
              go_quiet (fail)
              go_wp2
              go_ret2
              rw [mtL_no HNO.out, HNO.out]
              exact givesSSB_nil _ _ (below_drewN HB.out nq)
          | true =>
            have hE := Lib.hid (sformEnd_any (some ⟨bf, of_, none⟩) f.length d f at_ wr ((H'.out.below HB.out).more hsz) (by omega))
            rcases HFE.out at_ with hfe | ⟨_, hfe1, hfe2⟩
            · have HNO := Lib.hid (HFN.out.1 (HFL.out (mtS_end hleaf (by omega))))
              rw [hfe] at hE
              go_wp2_with (fail)
              refine (isAtom_any x wr).mono ?_
              rintro e w' ⟨rfl, rfl⟩
              rw [hleaf]
              go_wp2_with (fail)
              go_wp2_with (fail)
              refine hE.out.mono ?_
              rintro e w' ⟨rfl, rfl⟩
              go_wp2
              go_ret2
              rw [mtL_no HNO.out, HNO.out]
              exact givesSSB_nil _ _ HB.out
            · obtain ⟨E, hEE⟩ : ∃ E : Nat, fe f at_ = E := ⟨(fe f at_).toNat, by omega⟩
              rw [hEE] at hE hfe1 hfe2
              have hd0 : decide ((E : Int) < 0) = false := decide_eq_false (by omega)
              have haE : at_ < E := by omega
              have hEl : E ≤ f.length := by omega
              have hPv := HSEG.out at_ E hEE haE hEl
              have hcu : cutM f at_ = (f.drop at_).take (E - at_) := by unfold cutM; rw [hEE]; rfl
              have hPt := part_cut (c := d - at_) hbf HCF.out haE hEl
              have hPl : ((f.drop at_).take (E - at_)).length = E - at_ := by rw [List.length_take, List.length_drop]; omega
              have HCL := Lib.hid (copyInts_any _ _ wr ((hPt.below HB.out).more hsz) (by rw [hPl]; omega))
              have hdS : ¬ d = at_ := by omega
              have hSE : at_ ≤ E := by omega
              have hEd : E ≤ d := by omega
              have hlr := leaf_range hleaf
              obtain ⟨j, hj⟩ : ∃ j : Nat, j = x.natAbs - 1 := ⟨_, rfl⟩
              have hj8 : j < 8 := by omega
              have hj8' : (j : Int) < 8 := by omega
              have hel : elt out x = out.getD j [] := by unfold elt; rw [hj]
              have HYES := Lib.hid (fun he => HST.out.trans (mtS_yes hleaf hEE he))
              have HNOT := Lib.hid (fun h0 he => HFN.out.1 (HFL.out (mtS_not hleaf hEE h0 he)))
              rw [hel, ← hj] at HYES
              rw [hel] at HNOT
              have HMT : Hid (mtP f x at_ = if x < 0 then dualL ((f.drop at_).take (E - at_)) else (f.drop at_).take (E - at_)) := Lib.hid (by unfold mtP; rw [hcu])
              have hP0 : 0 < ((f.drop at_).take (E - at_)).length := by omega
              have hP24 : ((f.drop at_).take (E - at_)).length ≤ 24 := by omega
              clear hPt hcu hel hfe1 hfe2 hEE hPl
              generalize (f.drop at_).take (E - at_) = P at *
              generalize mtP f x at_ = D at *
              by_cases hx0 : x < 0
              · have hxd : decide (x < 0) = true := decide_eq_true hx0
                have hneg : IntKind.i64.wrap (-x) = -x := IntWalk.i64_in _ (by omega)
                have hidx : IntKind.i64.wrap (-x - 1) = (j : Int) := by rw [IntWalk.i64_in _ (by omega)]; omega
                rw [if_pos hx0] at HMT
                have hdu : P.map duZ = D := by rw [HMT.out]; unfold dualL; rw [if_pos hPv]
                have hD24 : D.length ≤ 24 := by rw [HMT.out]; exact dualL_len P
                clear HMT hj
                go_wp2_with (fail)
                refine (isAtom_any x wr).mono ?_
                rintro e w' ⟨rfl, rfl⟩
                rw [hleaf]
                go_wp2_with (fail)
                go_wp2_with (fail)
                refine hE.out.mono ?_
                rintro e w' ⟨rfl, rfl⟩
                go_wp2_with (fail)
                refine HCL.out.mono ?_
                rintro e w5 ⟨A5, c5, rfl, own5', bel5'⟩
                have hcx5 := (bel5'.cell (p := ⟨bp, op + k, none⟩) (by show bp < _; omega)).trans hcx
                have hs5 := bel5'.size
                have HD := Lib.hid (sdual_any A5 c5 P w5 (RdI.of_own own5') hPv)
                rw [hdu] at HD
                clear own5' hdu
                go_wp2_with (fail)
                refine HD.out.mono ?_
                rintro e w6 ⟨A6, c6, rfl, own6', bel6'⟩
                have own5 := own6'.mono hs5
                have bel5 := bel5'.trans (bel6'.mono hs5)
                have hs6 := bel5.size
                clear own6' bel6' bel5' HD HCL hE
                have hOx := HO.out.below bel5
                obtain ⟨hf6, ho6⟩ := hOx.at HOL.out hj8
                have ho : w6.cell? ⟨g0, j, none⟩ = some (.slice (hs j).1 (out.getD j []).length (hs j).2) := ho6
                have HRO := Lib.hid (RdI.of_own (hOx.inner j (by rw [HOL.out]; exact hj8)))
                have hO24 : (out.getD j []).length ≤ 24 := HSM.out _ (getD_mem (by rw [HOL.out]; exact hj8))
                have HRD := Lib.hid (RdI.of_own own5)
                have HO5 := Lib.hid own5; have HB5 := Lib.hid bel5
                clear hOx ho6 own5 bel5
                generalize out.getD j [] = O at *
                generalize (hs j).1 = oa at *
                generalize (hs j).2 = oc at *
                by_cases h0 : 0 < O.length
                · have hd2 : decide (0 < (O.length : Int)) = true := decide_eq_true (by omega)
                  have HSI := Lib.hid (sameInts_d oa A6 O.length D.length oc c6 O D w6 _ _ HRO.out HRD.out (by omega) (by omega))
                  go_wp2_with (fail)
                  refine HSI.out.mono ?_
                  rintro e w7 ⟨he, hdr⟩
                  subst he
                  have bd := drewN_below hdr w6.heap.size
                  have bel7 := HB5.out.trans (bd.mono hs6)
                  have own7 := own_below HO5.out bd (Nat.le_refl _)
                  by_cases hOD : O = D
                  · rw [decide_eq_true hOD]
                    have HHI := Lib.hid (HYES.out (fun hh => hh.2 hOD))
                    clear hOD ho hf6 hdr bd
                    obtain ⟨hF, hFb⟩ := HO.out.fill HOL.out hj8 rfl HB.out own7 bel7
                    obtain ⟨hf7, ho7⟩ := (HO.out.below bel7).at HOL.out hj8
                    obtain ⟨o, hoo⟩ : ∃ o, hv hs out j = o := ⟨_, rfl⟩
                    rw [hoo] at ho7
                    have HFF := Lib.hid hF; have HFB := Lib.hid hFb
                    have HLS : Hid ((out.set j D).length = 8) := Lib.hid (by rw [List.length_set]; exact HOL.out)
                    clear hF hFb hoo own7 bel7
                    go_wp2
                    go_roundw
                    case rel => exact ⟨k + 1, E, _, out.set j D, by omega, by go_num, rfl, HFF.out, HFB.out, HHI.out, HLS.out, hEl, set_small HSM.out hD24⟩
                    case measure => simp [intOf]; omega
                  · rw [decide_eq_false hOD]
                    have HNO := Lib.hid (HNOT.out h0 hOD)
                    have HBZ := Lib.hid (HB.out.trans (bel7.mono hsz))
                    clear bd bel7 own7 hdr
                    go_wp2
                    go_ret2
                    rw [mtL_no HNO.out, HNO.out]
                    exact givesSSB_nil _ _ HBZ.out
                · have hd2 : decide (0 < (O.length : Int)) = false := decide_eq_false (by omega)
                  have HHI := Lib.hid (HYES.out (fun hh => h0 hh.1))
                  have own7 := HO5.out; have bel7 := HB5.out
                  obtain ⟨hF, hFb⟩ := HO.out.fill HOL.out hj8 rfl HB.out own7 bel7
                  obtain ⟨hf7, ho7⟩ := (HO.out.below bel7).at HOL.out hj8
                  obtain ⟨o, hoo⟩ : ∃ o, hv hs out j = o := ⟨_, rfl⟩
                  rw [hoo] at ho7
                  have HFF := Lib.hid hF; have HFB := Lib.hid hFb
                  have HLS : Hid ((out.set j D).length = 8) := Lib.hid (by rw [List.length_set]; exact HOL.out)
                  clear hF hFb hoo own7 bel7
                  go_wp2
                  go_roundw
                  case rel => exact ⟨k + 1, E, _, out.set j D, by omega, by go_num, rfl, HFF.out, HFB.out, HHI.out, HLS.out, hEl, set_small HSM.out hD24⟩
                  case measure => simp [intOf]; omega
              · have hxd : decide (x < 0) = false := decide_eq_false hx0
                have hidx : IntKind.i64.wrap (x - 1) = (j : Int) := by rw [IntWalk.i64_in _ (by omega)]; omega
                rw [if_neg hx0] at HMT
                have hDe : P = D := HMT.out.symm
                subst hDe
                have hD24 := hP24
                clear HMT hj
                go_wp2_with (fail)
                refine (isAtom_any x wr).mono ?_
                rintro e w' ⟨rfl, rfl⟩
                rw [hleaf]
                go_wp2_with (fail)
                go_wp2_with (fail)
                refine hE.out.mono ?_
                rintro e w' ⟨rfl, rfl⟩
                go_wp2_with (fail)
                refine HCL.out.mono ?_
                rintro e w6 ⟨A6, c6, rfl, own5, bel5⟩
                have hcx5 := (bel5.cell (p := ⟨bp, op + k, none⟩) (by show bp < _; omega)).trans hcx
                have hs6 := bel5.size
                clear HCL hE
                have hOx := HO.out.below bel5
                obtain ⟨hf6, ho6⟩ := hOx.at HOL.out hj8
                have ho : w6.cell? ⟨g0, j, none⟩ = some (.slice (hs j).1 (out.getD j []).length (hs j).2) := ho6
                have HRO := Lib.hid (RdI.of_own (hOx.inner j (by rw [HOL.out]; exact hj8)))
                have hO24 : (out.getD j []).length ≤ 24 := HSM.out _ (getD_mem (by rw [HOL.out]; exact hj8))
                have HRD := Lib.hid (RdI.of_own own5)
                have HO5 := Lib.hid own5; have HB5 := Lib.hid bel5
                clear hOx ho6 own5 bel5
                generalize out.getD j [] = O at *
                generalize (hs j).1 = oa at *
                generalize (hs j).2 = oc at *
                by_cases h0 : 0 < O.length
                · have hd2 : decide (0 < (O.length : Int)) = true := decide_eq_true (by omega)
                  have HSI := Lib.hid (sameInts_d oa A6 O.length P.length oc c6 O P w6 _ _ HRO.out HRD.out (by omega) (by omega))
                  go_wp2_with (fail)
                  refine HSI.out.mono ?_
                  rintro e w7 ⟨he, hdr⟩
                  subst he
                  have bd := drewN_below hdr w6.heap.size
                  have bel7 := HB5.out.trans (bd.mono hs6)
                  have own7 := own_below HO5.out bd (Nat.le_refl _)
                  by_cases hOD : O = P
                  · rw [decide_eq_true hOD]
                    have HHI := Lib.hid (HYES.out (fun hh => hh.2 hOD))
                    clear hOD ho hf6 hdr bd
                    obtain ⟨hF, hFb⟩ := HO.out.fill HOL.out hj8 rfl HB.out own7 bel7
                    obtain ⟨hf7, ho7⟩ := (HO.out.below bel7).at HOL.out hj8
                    obtain ⟨o, hoo⟩ : ∃ o, hv hs out j = o := ⟨_, rfl⟩
                    rw [hoo] at ho7
                    have HFF := Lib.hid hF; have HFB := Lib.hid hFb
                    have HLS : Hid ((out.set j P).length = 8) := Lib.hid (by rw [List.length_set]; exact HOL.out)
                    clear hF hFb hoo own7 bel7
                    go_wp2
                    go_roundw
                    case rel => exact ⟨k + 1, E, _, out.set j P, by omega, by go_num, rfl, HFF.out, HFB.out, HHI.out, HLS.out, hEl, set_small HSM.out hD24⟩
                    case measure => simp [intOf]; omega
                  · rw [decide_eq_false hOD]
                    have HNO := Lib.hid (HNOT.out h0 hOD)
                    have HBZ := Lib.hid (HB.out.trans (bel7.mono hsz))
                    clear bd bel7 own7 hdr
                    go_wp2
                    go_ret2
                    rw [mtL_no HNO.out, HNO.out]
                    exact givesSSB_nil _ _ HBZ.out
                · have hd2 : decide (0 < (O.length : Int)) = false := decide_eq_false (by omega)
                  have HHI := Lib.hid (HYES.out (fun hh => h0 hh.1))
                  have own7 := HO5.out; have bel7 := HB5.out
                  obtain ⟨hF, hFb⟩ := HO.out.fill HOL.out hj8 rfl HB.out own7 bel7
                  obtain ⟨hf7, ho7⟩ := (HO.out.below bel7).at HOL.out hj8
                  obtain ⟨o, hoo⟩ : ∃ o, hv hs out j = o := ⟨_, rfl⟩
                  rw [hoo] at ho7
                  have HFF := Lib.hid hF; have HFB := Lib.hid hFb
                  have HLS : Hid ((out.set j P).length = 8) := Lib.hid (by rw [List.length_set]; exact HOL.out)
                  clear hF hFb hoo own7 bel7
                  go_wp2
                  go_roundw
                  case rel => exact ⟨k + 1, E, _, out.set j P, by omega, by go_num, rfl, HFF.out, HFB.out, HHI.out, HLS.out, hEl, set_small HSM.out hD24⟩
                  case measure => simp [intOf]; omega
        · have hkl : k = p.length := by omega
          subst hkl
          rw [List.take_of_length_le (Nat.le_refl _)] at hist
          have HSO := Lib.hid (HFN.out.2 _ hist)
          have HLY := Lib.hid (fun hb => mtL_yes (p := p) (f := f) hb hist)
          clear hist
          by_cases hae : at_ = f.length
          · have hne : ((at_ : Int) != (f.length : Int)) = false := by rw [hae]; simp
            have hB : mtB p f = true := by rw [HSO.out]; exact decide_eq_true hae
            have HG := Lib.hid (And.intro (HLY.out hB) hB)
            clear hB hae
            go_wp2
            go_ret2
            exact givesSSB_mk HOL.out HO.out HB.out HG.out.1.symm HG.out.2.symm
          · have hne : ((at_ : Int) != (f.length : Int)) = true := by simp; omega
            have hB : mtB p f = false := by rw [HSO.out]; exact decide_eq_false hae
            have HNO := Lib.hid hB
            clear hB
            go_wp2
            go_ret2
            rw [mtL_no HNO.out, HNO.out]
            exact givesSSB_nil _ _ HB.out
end Go.Proofs.YtoniekjchabjlaaDoor
