/- The model's subst and SubstForm. -/
import Derived.Test.YtoniekjchabjlaaDoorSubA
import Derived.Deep.QuietTactic
import Derived.BigQuiet
namespace Go.Proofs.YtoniekjchabjlaaDoor
open Go.ChangeAt Go.ChangeShapes Go.RowKit Go.WideShapes

/-- What an append of a list leaves of a row of one's own. -/
theorem row_more {w0 wr w7 : World} {base c L : Nat} {A : Option Addr} {T X : List Int} {v7 : Value} (hL : L = (T ++ X).length) (hbel : Below base w0 wr) (hbase : base ≤ wr.heap.size)
    (own : wr.ownsRow base 2 1 (.slice A T.length c) T.length (T.map (Value.int .i64)))
    (hown7 : w7.ownsRow base 2 1 v7 (T.length + X.length) (T.map (Value.int .i64) ++ X.map (Value.int .i64)))
    (hgrow7 : wr.grownBy w7 (Value.slice A T.length c).ownBlock) :
    ∃ A7 c7, v7 = .slice A7 L c7 ∧ Below base w0 w7 ∧ w7.ownsRow base 2 1 (.slice A7 L c7) L ((T ++ X).map (Value.int .i64)) := by
  obtain ⟨A7, c7, rfl⟩ := own_shape hown7
  have e : (T ++ X).length = T.length + X.length := List.length_append
  rw [hL, e, List.map_append]
  exact ⟨A7, c7, rfl, hbel.grown hgrow7 hbase (fun k hk => (own.lt k hk).1), hown7⟩

set_option maxRecDepth 100000 in
set_option maxHeartbeats 8000000 in
theorem sSubst_any (A : Option Addr) (n c : Nat) (f : List Int) (B : Option Addr) (m d : Nat) (qs : List (List Int)) (w : World) (h : RdI w w.heap.size A n f) (hv : validB f = true) (h' : RdQ w w.heap.size B m qs) (hb : bndB qs = true) :
    Calls Tryd.prog 51 #[.slice A n c, .slice B m d] w (Gives w (sbL qs f)) := by
  obtain ⟨i0, hi0, hz0, hz1, hz2⟩ := info_parts info_i64
  have hl := h.len
  subst hl
  have hm := h'.len
  have hm8 := bnd_len hb
  obtain rfl : m = 8 := by omega
  have hlen := valid_len hv
  have HAT := Lib.hid (fun k (hk : k < f.length) => valid_at hv hk)
  have HI := Lib.hid hi0; have HZ0 := Lib.hid hz0; have HZ1 := Lib.hid hz1; have HZ2 := Lib.hid hz2
  have HBN := Lib.hid hb
  have HSL := Lib.hid (sbL_len hb f)
  have h0 : (w.alloc (.cells #[] 2)).ownsRow w.heap.size 2 1 (.slice (some ⟨w.heap.size, 0, none⟩) 0 0) 0 [] := World.ownsRow_made w #[] 0 (Nat.le_refl _) (by simp [maxLen]) rfl
  have H0 := Lib.hid h0
  have HB0 := Lib.hid ((Below.refl w.heap.size w).alloc (Nat.le_refl _) (.cells #[] 2))
  obtain ⟨bq, oq, hBq, hbbq, hcq⟩ := h'.2 (by omega)
  subst hBq
  have HCQ := Lib.hid hcq
  have H := Lib.hid h
  clear hi0 hz0 hz1 hz2 hb h0 h h' hcq hm hm8
  go_enter Tryd.func51, Tryd.ntmps51
  go_wp2
  go_loopw [5, 6] (fun o i wr => ∃ (k : Nat) (Ar : Option Addr) (cr : Nat), k ≤ f.length ∧ i = .int .i64 k ∧ o = .slice Ar (sbL qs (f.take k)).length cr ∧ wr.ownsRow w.heap.size 2 1 (.slice Ar (sbL qs (f.take k)).length cr) (sbL qs (f.take k)).length ((sbL qs (f.take k)).map (Value.int .i64)) ∧ Below w.heap.size w wr) (fun _ i _ => f.length - (intOf i).toNat)
  case atStart => exact ⟨0, _, _, Nat.zero_le _, rfl, rfl, H0.out, HB0.out⟩
  case round =>
    obtain ⟨k, Ar, cr, hk, rfl, rfl, ho, hb⟩ := hrel
    have hsz := hb.size
    have HO := Lib.hid ho; have HB := Lib.hid hb
    have HTL : Hid ((sbL qs (f.take k)).length ≤ 576) := Lib.hid (by have := sbL_len HBN.out (f.take k); rw [List.length_take] at this; omega)
    clear ho
    by_cases hlt : k < f.length
    · obtain ⟨b, off, rfl, hbb, hcells⟩ := H.out.2 (by omega)
      have hc := (hb.cell (p := ⟨b, off + k, none⟩) hbb).trans (hcells k hlt)
      have hcase := HAT.out k hlt
      have HST := Lib.hid (sbL_take (qs := qs) hlt)
      generalize f.getD k 0 = x at *
      have hneg : IntKind.i64.wrap (-x) = -x := by
        refine IntWalk.i64_in _ ?_
        rcases hcase with h1 | ⟨_, h1⟩
        · unfold leafB at h1; have := of_decide_eq_true h1; omega
        · unfold operB at h1; have := of_decide_eq_true h1; omega
      clear hcells hb
      go_wp2_with (fail)
      go_quiet (fail)
      have bd := below_drewN (Below.refl wr.heap.size wr) nq
      obtain ⟨w2, hw2⟩ : ∃ w2, w2 = wr.drewN nq := ⟨_, rfl⟩
      rw [← hw2] at bd ⊢
      have hs2' : wr.heap.size ≤ w2.heap.size := bd.size
      have hs2 : w.heap.size ≤ w2.heap.size := by omega
      have HO2 := Lib.hid (own_below HO.out bd (Nat.le_refl _))
      have HB2 := Lib.hid (HB.out.trans (bd.mono hsz))
      have hc2 := (bd.cell (p := ⟨b, off + k, none⟩) (by show b < _; omega)).trans hc
      generalize hmx : max x (-x) = mx at *
      have HMX := Lib.hid hmx
      have HTL2 := HTL.out
      clear bd hw2 hmx hc HO HB hsz
      cases hleaf : leafB x with
      | false =>
        have e1 : sub1 qs x = [x] := by unfold sub1; rw [if_neg (by rw [hleaf]; simp)]
        rw [e1] at HST
        obtain ⟨L7, hL7⟩ : ∃ L7, L7 = (sbL qs (f.take k) ++ [x]).length := ⟨_, rfl⟩
        have HL7 := Lib.hid hL7
        clear hL7
        clear e1 hcase
        go_wp2_with (first | (go_at_call 65; refine (isAtom_any x _).mono ?_; rintro e w' ⟨rfl, rfl⟩; rw [hleaf]) | (at_builtin; refine wpList_append_own _ rfl _ _ 24 rfl w.heap.size 2 i0 (.int .i64 0) 1 8 Tryd.underlying24 HI.out HZ0.out HZ1.out HZ2.out rfl (by decide) _ _ _ rfl (HO2.out.alloc _) ⟨w2.heap.size, 0, none⟩ 1 1 [.int .i64 x] rfl rfl (cell_one_new _ _ _) (ints_one [x]) (by unfold maxLen; omega) (by omega) (by simp; omega) ?_; intro v7 w7 hown7 hgrow7 _; obtain ⟨A7, c7, rfl, hb7, ho7⟩ := row_more (X := [x]) HL7.out (HB2.out.alloc hs2 (.cells #[.int .i64 x] 2)) (by simp; omega) (HO2.out.alloc _) hown7 hgrow7; have HB7 := Lib.hid hb7; have HO7 := Lib.hid ho7; clear hown7 hgrow7 hb7 ho7))
        go_wp2
        go_roundw
        case rel => exact ⟨k + 1, A7, c7, by omega, by go_num, by rw [HST.out, HL7.out], by rw [HST.out, ← HL7.out]; exact HO7.out, HB7.out⟩
        case measure => simp [intOf]; omega
      | true =>
        have hlr := leaf_range hleaf
        obtain ⟨j, hj⟩ : ∃ j : Nat, j = x.natAbs - 1 := ⟨_, rfl⟩
        have hidx : IntKind.i64.wrap (mx - 1) = (j : Int) := by
          have e := HMX.out
          rw [IntWalk.i64_in _ (by omega)]
          omega
        have hj8 : j < 8 := by omega
        have hj8' : (j : Int) < 8 := by omega
        obtain ⟨A', c', hcell, hcc, hrd⟩ := HCQ.out j hj8
        have hcl2 := (HB2.out.cell (p := ⟨bq, oq + j, none⟩) hbbq).trans hcell
        have hel : elt qs x = qs.getD j [] := by unfold elt; rw [hj]
        clear hj hlr
        have HS1 : Hid (sub1 qs x = if 0 < (qs.getD j []).length then (if 0 < x then qs.getD j [] else dualL (qs.getD j [])) else [x]) := Lib.hid (by
          unfold sub1
          rw [hel]
          by_cases h0 : 0 < (qs.getD j []).length
          · rw [if_pos ⟨hleaf, h0⟩, if_pos h0]
          · rw [if_neg (fun h => h0 h.2), if_neg h0])
        have hok : elB (qs.getD j []) = true := bnd_at HBN.out j
        have HRD := Lib.hid ((hrd.below HB2.out).more HB2.out.size)
        clear hcell hrd hel hcase
        generalize qs.getD j [] = E at *
        have hE24 := elB_len hok
        by_cases h0 : 0 < E.length
        · have hl0 : ((E.length : Int) == 0) = false := beq_eq_false_iff_ne.2 (by omega)
          have hvE := elB_valid hok h0
          rw [HS1.out, if_pos h0] at HST
          by_cases hx0 : 0 < x
          · have hxd : decide (0 < x) = true := decide_eq_true hx0
            rw [if_pos hx0] at HST
            obtain ⟨L7, hL7⟩ : ∃ L7, L7 = (sbL qs (f.take k) ++ E).length := ⟨_, rfl⟩
            have HL7 := Lib.hid hL7
            clear hL7
            obtain ⟨be, oe, rfl, hbe, hce⟩ := HRD.out.2 h0
            have HN1 := Lib.hid (part_news hce)
            have HL1 : Hid ((E.map (Value.int .i64)).length = E.length * 1) := Lib.hid (by simp)
            have HHO := Lib.hid (ints_one E)
            clear hce HRD
            go_wp2_with (first | (go_at_call 65; refine (isAtom_any x _).mono ?_; rintro e w' ⟨rfl, rfl⟩; rw [hleaf]) | (at_builtin; refine wpList_append_own _ rfl _ _ 24 rfl w.heap.size 2 i0 (.int .i64 0) 1 8 Tryd.underlying24 HI.out HZ0.out HZ1.out HZ2.out rfl (by decide) _ _ _ rfl HO2.out ⟨be, oe, none⟩ E.length c' (E.map (Value.int .i64)) rfl HL1.out HN1.out HHO.out (by unfold maxLen; omega) (by omega) hs2 ?_; intro v7 w7 hown7 hgrow7 _; obtain ⟨A7, c7, rfl, hb7, ho7⟩ := row_more (X := E) HL7.out HB2.out hs2 HO2.out hown7 hgrow7; have HB7 := Lib.hid hb7; have HO7 := Lib.hid ho7; clear hown7 hgrow7 hb7 ho7))
            go_wp2
            go_roundw
            case rel => exact ⟨k + 1, A7, c7, by omega, by go_num, by rw [HST.out, HL7.out], by rw [HST.out, ← HL7.out]; exact HO7.out, HB7.out⟩
            case measure => simp [intOf]; omega
          · have hxd : decide (0 < x) = false := decide_eq_false hx0
            rw [if_neg hx0] at HST
            have hdu : E.map duZ = dualL E := by unfold dualL; rw [if_pos hvE]
            have HD := Lib.hid (sdual_any A' c' E w2 HRD.out hvE)
            rw [hdu] at HD
            have hD24 := dualL_len E
            have hD0 : 0 < (dualL E).length := by rw [← hdu, List.length_map]; exact h0
            clear HRD hdu
            generalize dualL E = D at *
            obtain ⟨L7, hL7⟩ : ∃ L7, L7 = (sbL qs (f.take k) ++ D).length := ⟨_, rfl⟩
            have HL7 := Lib.hid hL7
            clear hL7
            go_wp2_with (fail)
            refine (isAtom_any x _).mono ?_
            rintro e w' ⟨rfl, rfl⟩
            rw [hleaf]
            go_wp2_with (fail)
            refine HD.out.mono ?_
            rintro e w4 ⟨Ad, cd, rfl, ownd, beld⟩
            have hs4 := beld.size
            have HO4 := Lib.hid (own_below HO2.out beld (Nat.le_refl _))
            have HB4 := Lib.hid (HB2.out.trans (beld.mono hs2))
            obtain ⟨be, oe, rfl, hbe, hce⟩ := (RdI.of_own ownd).2 hD0
            have HN1 := Lib.hid (part_news hce)
            have HL1 : Hid ((D.map (Value.int .i64)).length = D.length * 1) := Lib.hid (by simp)
            have HHO := Lib.hid (ints_one D)
            have hs5 : w.heap.size ≤ w4.heap.size := by omega
            clear hce ownd beld
            go_wp2_with (at_builtin; refine wpList_append_own _ rfl _ _ 24 rfl w.heap.size 2 i0 (.int .i64 0) 1 8 Tryd.underlying24 HI.out HZ0.out HZ1.out HZ2.out rfl (by decide) _ _ _ rfl HO4.out ⟨be, oe, none⟩ D.length cd (D.map (Value.int .i64)) rfl HL1.out HN1.out HHO.out (by unfold maxLen; omega) (by omega) hs5 ?_; intro v7 w7 hown7 hgrow7 _; obtain ⟨A7, c7, rfl, hb7, ho7⟩ := row_more (X := D) HL7.out HB4.out hs5 HO4.out hown7 hgrow7; have HB7 := Lib.hid hb7; have HO7 := Lib.hid ho7; clear hown7 hgrow7 hb7 ho7)
            go_wp2
            go_roundw
            case rel => exact ⟨k + 1, A7, c7, by omega, by go_num, by rw [HST.out, HL7.out], by rw [HST.out, ← HL7.out]; exact HO7.out, HB7.out⟩
            case measure => simp [intOf]; omega
        · have hl0 : ((E.length : Int) == 0) = true := beq_iff_eq.2 (by omega)
          rw [HS1.out, if_neg h0] at HST
          obtain ⟨L7, hL7⟩ : ∃ L7, L7 = (sbL qs (f.take k) ++ [x]).length := ⟨_, rfl⟩
          have HL7 := Lib.hid hL7
          clear hL7
          clear HRD
          go_wp2_with (first | (go_at_call 65; refine (isAtom_any x _).mono ?_; rintro e w' ⟨rfl, rfl⟩; rw [hleaf]) | (at_builtin; refine wpList_append_own _ rfl _ _ 24 rfl w.heap.size 2 i0 (.int .i64 0) 1 8 Tryd.underlying24 HI.out HZ0.out HZ1.out HZ2.out rfl (by decide) _ _ _ rfl (HO2.out.alloc _) ⟨w2.heap.size, 0, none⟩ 1 1 [.int .i64 x] rfl rfl (cell_one_new _ _ _) (ints_one [x]) (by unfold maxLen; omega) (by omega) (by simp; omega) ?_; intro v7 w7 hown7 hgrow7 _; obtain ⟨A7, c7, rfl, hb7, ho7⟩ := row_more (X := [x]) HL7.out (HB2.out.alloc hs2 (.cells #[.int .i64 x] 2)) (by simp; omega) (HO2.out.alloc _) hown7 hgrow7; have HB7 := Lib.hid hb7; have HO7 := Lib.hid ho7; clear hown7 hgrow7 hb7 ho7))
          go_wp2
          go_roundw
          case rel => exact ⟨k + 1, A7, c7, by omega, by go_num, by rw [HST.out, HL7.out], by rw [HST.out, ← HL7.out]; exact HO7.out, HB7.out⟩
          case measure => simp [intOf]; omega
    · have hkl : k = f.length := by omega
      subst hkl
      rw [List.take_of_length_le (Nat.le_refl _)] at HO ⊢
      clear hb HTL
      generalize sbL qs f = R at *
      go_wp2
      go_ret
      exact ⟨Ar, cr, rfl, HO.out, HB.out⟩

theorem givesB_nilR (w : World) : GivesB w [] false (.returned (.tuple #[.slice none 0 0, .bool false])) w := ⟨_, _, rfl, World.ownsRow_nil _ _ _ _, Below.refl _ _⟩
set_option maxHeartbeats 2000000 in
theorem sSubstForm_any (A : Option Addr) (n c : Nat) (f : List Int) (B : Option Addr) (m d : Nat) (qs : List (List Int)) (w : World) (h : RdI w w.heap.size A n f) (h' : RdQ w w.heap.size B m qs) (hm : m ≤ 1048576) :
    Calls Tryd.prog 15 #[.slice A n c, .slice B m d] w (GivesB w (sfL f qs) (sfB f qs)) := by
  have hl := h.len
  subst hl
  have HV := Lib.hid (sValidForm_any A _ c f w h)
  cases hv : validB f with
  | false =>
    have hs := sfB_no1 (qs := qs) hv
    rw [sfL_no hs, hs]
    rw [hv] at HV
    clear h h' hs
    go_enter Tryd.func15, Tryd.ntmps15
    go_wp2_with (fail)
    refine HV.out.mono ?_
    rintro e w' ⟨rfl, rfl⟩
    go_wp2
    go_ret2
    exact givesB_nilR w
  | true =>
    rw [hv] at HV
    have HB := Lib.hid (sIsBinding_any B m d qs w h' hm)
    cases hb : bndB qs with
    | false =>
      have hs := sfB_no2 (f := f) hb
      rw [sfL_no hs, hs]
      rw [hb] at HB
      clear h h' hs
      go_enter Tryd.func15, Tryd.ntmps15
      go_wp2_with (fail)
      refine HV.out.mono ?_
      rintro e w' ⟨rfl, rfl⟩
      go_wp2_with (fail)
      refine HB.out.mono ?_
      rintro e w2 ⟨rfl, bel2⟩
      have HB2 := Lib.hid bel2
      clear bel2
      go_wp2
      go_ret2
      exact ⟨none, 0, rfl, World.ownsRow_nil _ _ _ _, HB2.out⟩
    | true =>
      rw [hb] at HB
      have his := sfB_is hv hb
      have HS := Lib.hid (fun w2 (bel : Below w.heap.size w w2) => sSubst_any A f.length c f B m d qs w2 ((h.below bel).more bel.size) hv ((h'.below bel).more bel.size) hb)
      by_cases h24 : (sbL qs f).length ≤ 24
      · have hd : decide (24 < ((sbL qs f).length : Int)) = false := decide_eq_false (by omega)
        rw [decide_eq_true h24] at his
        rw [sfL_yes his, his]
        clear h h' his h24
        generalize sbL qs f = R at *
        go_enter Tryd.func15, Tryd.ntmps15
        go_wp2_with (fail)
        refine HV.out.mono ?_
        rintro e w' ⟨rfl, rfl⟩
        go_wp2_with (fail)
        refine HB.out.mono ?_
        rintro e w2 ⟨rfl, bel2⟩
        have HB2 := Lib.hid bel2
        clear bel2
        go_wp2_with (fail)
        refine (HS.out w2 HB2.out).mono ?_
        rintro e w3 ⟨A3, c3, rfl, own3, bel3⟩
        have HO3 := Lib.hid own3
        have HB3 := Lib.hid (HB2.out.trans (bel3.mono HB2.out.size))
        have hs2 := HB2.out.size
        clear own3 bel3
        go_wp2
        go_ret2
        exact ⟨A3, c3, rfl, HO3.out.mono hs2, HB3.out⟩
      · have hd : decide (24 < ((sbL qs f).length : Int)) = true := decide_eq_true (by omega)
        rw [decide_eq_false h24] at his
        rw [sfL_no his, his]
        clear h h' his h24
        generalize sbL qs f = R at *
        go_enter Tryd.func15, Tryd.ntmps15
        go_wp2_with (fail)
        refine HV.out.mono ?_
        rintro e w' ⟨rfl, rfl⟩
        go_wp2_with (fail)
        refine HB.out.mono ?_
        rintro e w2 ⟨rfl, bel2⟩
        have HB2 := Lib.hid bel2
        clear bel2
        go_wp2_with (fail)
        refine (HS.out w2 HB2.out).mono ?_
        rintro e w3 ⟨A3, c3, rfl, own3, bel3⟩
        have HB3 := Lib.hid (HB2.out.trans (bel3.mono HB2.out.size))
        clear own3 bel3
        go_wp2
        go_ret2
        exact ⟨none, 0, rfl, World.ownsRow_nil _ _ _ _, HB3.out⟩
end Go.Proofs.YtoniekjchabjlaaDoor
