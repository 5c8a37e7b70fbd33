/- The model's LinkedNet. Made by mklds.py. -/
import Derived.Test.YtfanapddopafiaaDoorLdF
import Derived.Test.YtfanapddopafiaaDoorLdH
import Derived.Test.YtfanapddopafiaaDoorMtS
import Derived.Test.YtfanapddopafiaaDoorNetY
import Derived.Test.YtfanapddopafiaaDoorDepth
import Derived.Deep.RegionHeldLaw
import Derived.Deep.DeepCutAuto
namespace Go.Proofs.YtfanapddopafiaaDoor
set_option linter.unusedSimpArgs false
set_option linter.unusedVariables false
open Go.ChangeAt Go.ChangeShapes Go.RowKit Go.WideShapes

theorem wsQ_pre {qs : List (List Int)} {k : Nat} (h : k ≤ qs.length) : (wsQ qs).take (wsU qs k).length = wsU qs k := by
  rcases Nat.lt_or_ge k qs.length with h1 | h1
  · obtain ⟨rest, e⟩ := wsQ_split h1
    rw [e, List.take_left']
    rfl
  · rw [show k = qs.length by omega]
    show (wsU qs qs.length).take _ = _
    rw [List.take_length]
theorem ints_at {L : List Int} {k : Nat} (h : k < L.length) : L[k]? = some (L.getD k 0) := by simp [List.getD, h]
theorem own_some {w : World} {base n size : Nat} {e : TypeId} {v : Value} {xs : List Value} (h : w.ownsRow base e size v n xs) (hn : 0 < n) : ∃ g c, v = .slice (some ⟨g, 0, none⟩) n c := by
  obtain ⟨g, cap, hv, _⟩ := h.form hn
  exact ⟨g, cap, hv⟩
set_option maxRecDepth 100000 in
set_option maxHeartbeats 8000000 in
theorem sld_no (A B : Option Addr) (n c m d : Nat) (qs : List (List Int)) (M : List Int) (w : World) (h : RdQ w w.heap.size A n qs) (hM : RdI w w.heap.size B m M) (hn : n ≤ 1048576) (hnc : n ≤ c) (hm : m ≤ 1048576) (hv : imB qs M = false) :
    Calls Tryd.prog 22 #[.agg #[.slice A n c], .slice B m d] w (GivesNB w Nt.nil false) := by
  have hl := h.len
  subst hl
  have hl2 := hM.len
  subst hl2
  obtain ⟨w0, hw0⟩ : ∃ w0, w0 = (w.alloc (.cells #[.slice A qs.length c] 47)).alloc (.cells #[.slice none 0 0, .slice none 0 0, .slice none 0 0] 31) := ⟨_, rfl⟩
  obtain ⟨hb, g0, g1, hsz⟩ := two_any' w (.cells #[.slice A qs.length c] 47) (.cells #[.slice none 0 0, .slice none 0 0, .slice none 0 0] 31)
  rw [← hw0] at hb g0 g1 hsz
  have hs0 : w.heap.size + 2 ≤ w0.heap.size := by omega
  have HK : Hid (∀ wx : World, Below w0.heap.size w0 wx → wx.cell? ⟨w.heap.size, 0, none⟩ = some (.slice A qs.length c)) := Lib.hid fun wx hx => cell_of_row _ _ 0 _ _ (0, 0) ((hx.block w.heap.size (by omega)).trans g0)
  have HK2 := Lib.hid (fun (wx : World) (hx : Below w0.heap.size w0 wx) => (hx.block (w.heap.size + 1) (by omega)).trans g1)
  have HRL := Lib.hid (fun (wx : World) (hx : Below w0.heap.size w0 wx) => show RdQ wx w.heap.size A qs.length qs from (h.below (hb.trans (hx.mono hb.size))))
  have HM := Lib.hid (fun (wx : World) (hx : Below w0.heap.size w0 wx) => show RdI wx wx.heap.size B M.length M from ((hM.below (hb.trans (hx.mono hb.size))).more (Nat.le_trans hb.size hx.size)))
  have hV := sIsMates_any A B qs.length c M.length d qs M w0 ((h.below hb).more hb.size) (HM.out _ (Below.refl _ _)) hn hnc hm
  have HB0 := Lib.hid hb
  have y0 := HK.out _ (Below.refl _ w0)
  clear hb g0 g1 hsz h hM
  rw [hv] at hV
  have HV := Lib.hid hV
  clear hV hv
  go_enter Tryd.func22, Tryd.ntmps22
  go_upto_region 1 with (fail)
  rw [← hw0]
  clear hw0
  go_wp2_with (fail)
  refine HV.out.mono ?_
  rintro e u1 ⟨rfl, bel⟩
  have B1 := Lib.hid bel
  have O1 := Lib.hid (OwnN.nil u1 w0.heap.size u1.heap.size)
  clear bel y0
  have q1 := HK2.out _ B1.out
  obtain ⟨a0, a1, a2⟩ := three_cells q1
  have f0 := frozen_of_row _ _ 0 _ _ q1; have f1 := frozen_of_row _ _ 1 _ _ q1; have f2 := frozen_of_row _ _ 2 _ _ q1
  have Q1 := Lib.hid q1
  clear q1
  go_wp2
  (try simp only [Exit.inBlock, Exit.then])
  refine bodyPost_ret (results_cell_row_tmp rfl _ _ (w.heap.size + 1) _ _ (0, 0) _ rfl (set3_at Q1.out _ _ _) Tryd.underlying31 rfl (by kernel_rfl)) rfl ?_
  exact givesNB_of (ldDone HB0.out B1.out O1.out hs0)
set_option maxRecDepth 100000 in
set_option maxHeartbeats 8000000 in
theorem sld_ok (A B : Option Addr) (n c m d : Nat) (qs : List (List Int)) (M : List Int) (w : World) (h : RdQ w w.heap.size A n qs) (hM : RdI w w.heap.size B m M) (hn : n ≤ 1048576) (hnc : n ≤ c) (hm : m ≤ 1048576) (hv : imB qs M = true) (bb : Bool) (hX : valN (ldN qs M) = bb) :
    Calls Tryd.prog 22 #[.agg #[.slice A n c], .slice B m d] w (GivesNB w (pickL bb (ldN qs M)) bb) := by
  have HOK := Lib.hid (ld_ok hv)
  have HSM := Lib.hid (ld_small (ld_ok hv))
  have hl := h.len
  subst hl
  have hl2 := hM.len
  subst hl2
  obtain ⟨w0, hw0⟩ : ∃ w0, w0 = (w.alloc (.cells #[.slice A qs.length c] 47)).alloc (.cells #[.slice none 0 0, .slice none 0 0, .slice none 0 0] 31) := ⟨_, rfl⟩
  obtain ⟨hb, g0, g1, hsz⟩ := two_any' w (.cells #[.slice A qs.length c] 47) (.cells #[.slice none 0 0, .slice none 0 0, .slice none 0 0] 31)
  rw [← hw0] at hb g0 g1 hsz
  have hs0 : w.heap.size + 2 ≤ w0.heap.size := by omega
  have HK : Hid (∀ wx : World, Below w0.heap.size w0 wx → wx.cell? ⟨w.heap.size, 0, none⟩ = some (.slice A qs.length c)) := Lib.hid fun wx hx => cell_of_row _ _ 0 _ _ (0, 0) ((hx.block w.heap.size (by omega)).trans g0)
  have HK2 := Lib.hid (fun (wx : World) (hx : Below w0.heap.size w0 wx) => (hx.block (w.heap.size + 1) (by omega)).trans g1)
  have HRL := Lib.hid (fun (wx : World) (hx : Below w0.heap.size w0 wx) => show RdQ wx w.heap.size A qs.length qs from (h.below (hb.trans (hx.mono hb.size))))
  have HM := Lib.hid (fun (wx : World) (hx : Below w0.heap.size w0 wx) => show RdI wx wx.heap.size B M.length M from ((hM.below (hb.trans (hx.mono hb.size))).more (Nat.le_trans hb.size hx.size)))
  have hV := sIsMates_any A B qs.length c M.length d qs M w0 ((h.below hb).more hb.size) (HM.out _ (Below.refl _ _)) hn hnc hm
  have HB0 := Lib.hid hb
  have y0 := HK.out _ (Below.refl _ w0)
  clear hb g0 g1 hsz h hM
  rw [hv] at hV
  have HV := Lib.hid hV
  have HX := Lib.hid hX
  have hn10 := HOK.out.n
  obtain ⟨i0, hi0, hz0, hz1, hz2⟩ := info_parts info_i64
  have HI := Lib.hid hi0; have HZ0 := Lib.hid hz0; have HZ1 := Lib.hid hz1; have HZ2 := Lib.hid hz2
  obtain ⟨i4, hi4, hz40, hz41, hz42⟩ := info_parts_s
  have HI4 := Lib.hid hi4; have HZ40 := Lib.hid hz40; have HZ41 := Lib.hid hz41; have HZ42 := Lib.hid hz42
  obtain ⟨i5, hi5, hz50, hz51, hz52⟩ := info_parts_link
  have HI5 := Lib.hid hi5; have HZ50 := Lib.hid hz50; have HZ51 := Lib.hid hz51; have HZ52 := Lib.hid hz52
  clear hV hv hX hi0 hz0 hz1 hz2 hi4 hz40 hz41 hz42 hi5 hz50 hz51 hz52
  go_enter Tryd.func22, Tryd.ntmps22
  go_upto_region 1 with (fail)
  rw [← hw0]
  clear hw0
  go_wp2_with (fail)
  refine HV.out.mono ?_
  rintro e u1 ⟨rfl, bel⟩
  have B1 := Lib.hid bel
  have hs1 := bel.size
  clear bel y0
  obtain ⟨u2, hu2⟩ : ∃ u2, u2 = u1.alloc (.cells #[.slice none 0 0, .slice none 0 0, .slice none 0 0] 31) := ⟨_, rfl⟩
  have S0 := Lib.hid (Ld3.new u1 u2 hu2)
  obtain ⟨sx, hsx⟩ : ∃ s, u1.heap.size = s := ⟨_, rfl⟩
  have HSX0 := Lib.hid hsx
  have HU2 := Lib.hid hu2
  have gx0 : (u1.alloc (.cells #[.slice none 0 0, .slice none 0 0, .slice none 0 0] 31)).heap[u1.heap.size]? = some (.cells #[.slice none 0 0, .slice none 0 0, .slice none 0 0] 31 (0, 0)) := heap_alloc_new _ _
  obtain ⟨a0, a1, a2⟩ := three_cells gx0
  have f0 := frozen_of_row _ _ 0 _ _ gx0; have f1 := frozen_of_row _ _ 1 _ _ gx0; have f2 := frozen_of_row _ _ 2 _ _ gx0
  clear hu2 hsx gx0
  go_upto_region 4 with (fail)
  rw [← HU2.out]
  clear a0 a1 a2 f0 f1 f2
  go_upto_region 6 with (fail)
  obtain ⟨u4, hu4⟩ : ∃ u4, u4 = (u2.alloc (.cells #[] 2)).alloc (.cells #[] 71) := ⟨_, rfl⟩
  rw [World.size_alloc] at S0
  rw [← hu4] at S0 ⊢
  rw [HSX0.out] at S0 ⊢
  clear hu4
  go_wp2
  go_loopw [7, 8, 9] (fun v7 v8 i wr => ∃ k : Nat, k ≤ qs.length ∧ i = .int .i64 k ∧ ∃ h, Ld3 u1 wr sx v7 v8 h ⟨wsU qs k, [], csU qs k⟩ (lfU (wsQ qs) (wsU qs k).length) (joU (wsQ qs) (wsU qs k).length)) (fun _ _ i _ => qs.length - (intOf i).toNat)
  case atStart => exact ⟨0, Nat.zero_le _, rfl, _, S0.out⟩
  case round =>
    obtain ⟨k, hk, rfl, hh, SS⟩ := hrel
    clear S0
    have HBW : Hid (Below w0.heap.size w0 wr) := Lib.hid (B1.out.trans (SS.p.bel.mono B1.out.size))
    have yq := HK.out _ HBW.out
    by_cases hlt : k < qs.length
    · have HS := Lib.hid SS
      obtain ⟨b, off, hA, hbb, hcells⟩ := (HRL.out w0 (Below.refl _ _)).2 (by omega)
      obtain ⟨A', c', hcell0, hcc, hrd⟩ := hcells k hlt
      have hcell := (HBW.out.cell (p := ⟨b, off + k, none⟩) (by show b < w0.heap.size; omega)).trans hcell0
      have HFV := Lib.hid (HOK.out.f _ (getD_mem hlt))
      have hvf : validB (qs.getD k []) = true := HOK.out.v _ (getD_mem hlt)
      have h24 := (valid_len hvf).2.1
      have HVF := Lib.hid hvf
      have HSC := Lib.hid (csU_succ qs k)
      have hwl := HOK.out.t k (by omega)
      have hwl2 := HOK.out.t (k + 1) (by omega)
      have HCL := Lib.hid (csU_len qs k)
      have HWE := Lib.hid (wsU_end (qs := qs) hlt)
      have HWT := Lib.hid (fun i hi => wsQ_take (qs := qs) (k := k) (i := i) hlt hi)
      have HLF := Lib.hid (fun i hi hl => lf_yes (qs := qs) (k := k) (i := i) HOK.out.v hlt hi hl)
      have HJO := Lib.hid (fun i hi hl => jo_yes (qs := qs) (k := k) (i := i) HOK.out.f hlt hi hl)
      have HWP := Lib.hid (wsQ_pre (qs := qs) (k := k) (by omega))
      have HWQ := Lib.hid (wsQ_pre (qs := qs) (k := k + 1) (by omega))
      obtain ⟨f, hf⟩ : ∃ f, qs.getD k [] = f := ⟨_, rfl⟩
      rw [hf] at hcell hcc hrd hvf h24 HFV HVF HWE HWT HLF HJO
      have HRF := Lib.hid (fun (wx : World) (hx : Below w0.heap.size w0 wx) => show RdI wx wx.heap.size A' f.length f from ((hrd.below (hx.mono (show w.heap.size ≤ w0.heap.size by omega))).more (Nat.le_trans (show w.heap.size ≤ w0.heap.size by omega) hx.size)))
      have gx := SS.p.box
      obtain ⟨x0, x1, x2⟩ := three_cells gx
      have fr0 := frozen_of_row _ _ 0 _ _ gx; have fr1 := frozen_of_row _ _ 1 _ _ gx; have fr2 := frozen_of_row _ _ 2 _ _ gx
      have hoc : wr.ownsRow u1.heap.size 2 1 (.slice hh.C (csU qs k).length hh.e) (csU qs k).length ((csU qs k).map (Value.int .i64)) := SS.p.own.c
      have HBS := SS.p.bel.size
      dsimp only at x0 x1 x2
      obtain ⟨T, hT⟩ : ∃ T, (wsU qs k).length = T := ⟨_, rfl⟩
      obtain ⟨CS, hCS⟩ : ∃ CS, csU qs k = CS := ⟨_, rfl⟩
      rw [hT] at x0 hwl HS HSC HWE HWT HLF HJO HWP
      rw [hCS] at x2 hoc HS HSC HCL
      rw [HWE.out] at hwl2 HWQ
      have hcl : CS.length ≤ 10 := by have := HCL.out; omega
      have hfp := (valid_len hvf).1
      obtain ⟨bf, offf, hAf, hbf, hcf⟩ := hrd.2 hfp
      subst hAf
      clear SS gx hcells hcell0 hf hCS
      subst hA
      go_wp2_with (at_builtin; refine wpList_append_own_at _ rfl _ _ 24 rfl u1.heap.size 2 i0 (.int .i64 0) 1 8 Tryd.underlying24 HI.out HZ0.out HZ1.out HZ2.out rfl (by decide) _ _ _ rfl (hoc.alloc _) ⟨wr.heap.size, 0, none⟩ 1 1 [.int .i64 T] rfl rfl ?c1 ?c2 ?c3 ?c4 ?c5 ?_)
      case c1 => exact oneW _ _ _
      case c2 => intro u hu; simp at hu; subst hu; rfl
      case c3 => unfold maxLen; omega
      case c4 => omega
      case c5 => simp; omega
      intro v7a w7 hown7 hgrow7 _ hat7
      obtain ⟨C7, e7, rfl, p7, x7⟩ := pushRow HS.out.p hown7 hgrow7 (by rw [World.size_alloc]; exact hat7)
      have gx7 := x7.trans HS.out.p.box
      obtain ⟨x0, x1, x2⟩ := three_cells gx7
      have fr0 := frozen_of_row _ _ 0 _ _ gx7; have fr1 := frozen_of_row _ _ 1 _ _ gx7; have fr2 := frozen_of_row _ _ 2 _ _ gx7
      have S7 := Lib.hid (HS.out.net p7)
      obtain ⟨u8, hu8⟩ : ∃ u8, u8 = w7.setCell ⟨sx, 2, none⟩ (.slice C7 (CS.length + 1) e7) := ⟨_, rfl⟩
      have HU8 := Lib.hid hu8
      dsimp only at S7
      rw [← hu8, ← HSC.out, ← HWP.out] at S7
      clear hown7 hgrow7 hat7 hoc x7 p7 hu8 yq hcell
      go_upto_region 12 with (fail)
      rw [← HU8.out]
      clear x0 x1 x2 fr0 fr1 fr2 gx7
      go_wp2
      go_loopw [7, 8, 12] (fun v7 v8 i wr => ∃ k2 : Nat, k2 ≤ f.length ∧ i = .int .i64 k2 ∧ ∃ h, Ld3 u1 wr sx v7 v8 h ⟨(wsQ qs).take (T + k2), [], csU qs (k + 1)⟩ (lfU (wsQ qs) (T + k2)) (joU (wsQ qs) (T + k2))) (fun _ _ i _ => f.length - (intOf i).toNat)
      case atStart => exact ⟨0, Nat.zero_le _, rfl, _, S7.out⟩
      case round =>
        obtain ⟨i, hi, rfl, h3, SS⟩ := hrel
        by_cases hil : i < f.length
        · have HS := Lib.hid SS
          have HBI : Hid (Below w0.heap.size w0 wr) := Lib.hid (B1.out.trans (SS.p.bel.mono B1.out.size))
          have hfe := fe_some HVF.out hil
          obtain ⟨E, hE⟩ : ∃ E : Nat, fe f i = E := ⟨(fe f i).toNat, by omega⟩
          rw [hE] at hfe
          have hcS : ¬ c' = i := by omega
          have hSE : i ≤ E := by omega
          have hEc : E ≤ c' := by omega
          have hpl := partAt_len HVF.out hil
          have hPd : partAt f i = (f.drop i).take (E - i) := by unfold partAt; rw [hE, Int.toNat_natCast]
          have HFE := Lib.hid (fun (wx : World) (hx : Below w0.heap.size w0 wx) => sformEnd_any (some ⟨bf, offf, none⟩) f.length c' f i wx (HRF.out wx hx) (by omega))
          simp only [hE] at HFE
          have HCP := Lib.hid (fun (wx : World) (hx : Below w0.heap.size w0 wx) => copyInts_any (.slice (some ⟨bf, offf + i, none⟩) (E - i) (c' - i)) (partAt f i) wx (by
            have hcx : ∀ j, j < f.length → wx.cell? ⟨bf, offf + j, none⟩ = some (.int .i64 (f.getD j 0)) := fun j hj => (hx.cell (p := ⟨bf, offf + j, none⟩) (by show bf < w0.heap.size; omega)).trans (hcf j hj)
            rw [hPd]
            exact part_cut (c := c' - i) (lo := i) (hi := E) (show bf < wx.heap.size by have := hx.size; omega) hcx (by omega) (by omega)) (by omega))
          have HWT2 := Lib.hid (HWT.out i hil)
          have hlt7 : ((wsQ qs).take (T + i)).length ≤ 60 := by rw [List.length_take]; have := HOK.out.w; omega
          obtain ⟨P, hP⟩ : ∃ P, partAt f i = P := ⟨_, rfl⟩
          obtain ⟨W, hW⟩ : ∃ W, (wsQ qs).take (T + i) = W := ⟨_, rfl⟩
          rw [hP] at HCP hpl HWT2
          rw [hW] at HS HWT2 hlt7
          have HSX : Hid (∀ wx : World, Below wr.heap.size wr wx → wx.cell? ⟨w.heap.size, 0, none⟩ = some (.slice (some ⟨b, off, none⟩) qs.length c)) := Lib.hid fun wx hx => HK.out wx (HBI.out.trans (hx.mono HBI.out.size))
          have HSXL : Hid (sx < wr.heap.size) := Lib.hid SS.p.sxl
          have hs7 := SS.p.bel.size
          clear SS hPd hP hW S7
          go_upto_region 15 with (fail)
          go_cut [7, 8] (fun v7 v8 wx => ∃ h, Ld3 u1 wx sx v7 v8 h ⟨(wsQ qs).take (T + i + 1), [], csU qs (k + 1)⟩ (lfU (wsQ qs) (T + i)) (joU (wsQ qs) (T + i)))
          case first =>
            have FB_0 := Lib.hid (Below.refl wr.heap.size wr)
            have FX_0 := Lib.hid HS.out.p.box
            refine wp_region_held_drew (S := fun wx => wx.cell? ⟨w.heap.size, 0, none⟩ = some (.slice (some ⟨b, off, none⟩) qs.length c)) (by kernel_rfl) (HSX.out _ (Below.refl _ _).drew) (fun hHeld => ?_)
            obtain ⟨wp1, hwp1⟩ : ∃ w', w' = wr.drew := ⟨_, rfl⟩
            rw [← hwp1] at hHeld ⊢
            have bp1 : Below wr.heap.size wr wp1 := by rw [hwp1]; exact (Below.refl _ _).drew
            clear hwp1
            have FB_p2 := Lib.hid ((FB_0.out).trans ((bp1).mono (FB_0.out).size))
            have FX_p3 := Lib.hid (((bp1).block _ (Array.getElem?_eq_some_iff.1 (FX_0.out)).1).trans (FX_0.out))
            clear FB_0 FX_0
            refine wpAnyH_take (i := 0) (v := ?vp4) rfl (by kernel_rfl) (by kernel_rfl) (by kernel_rfl) (fun _ _ _ h => h) (Or.inl ⟨by rfl, ?yp4⟩) (by assumption) ?_
            case yp4 => (intro w hSw; (try dsimp only at hSw); go_simp; all_goals (with_reducible rfl))
            (try simp only [Act.put, List.setIfInBounds_toArray, List.set_cons_zero, List.set_cons_succ, List.getElem_toArray, List.getElem_cons_succ, List.getElem_cons_zero])
            refine wpAnyH_take (i := 2) (v := ?vp5) rfl (by kernel_rfl) (by kernel_rfl) (by kernel_rfl) (fun _ _ _ h => h) (Or.inl ⟨by rfl, ?yp5⟩) (by assumption) ?_
            case yp5 => (intro w hSw; (try dsimp only at hSw); go_simp; all_goals (with_reducible rfl))
            (try simp only [Act.put, List.setIfInBounds_toArray, List.set_cons_zero, List.set_cons_succ, List.getElem_toArray, List.getElem_cons_succ, List.getElem_cons_zero])
            refine wpAnyH_take (i := 3) (v := ?vp6) rfl (by kernel_rfl) (by kernel_rfl) (by kernel_rfl) (fun _ _ _ h => h) (Or.inl ⟨by rfl, ?yp6⟩) (by assumption) ?_
            case yp6 => (intro w hSw; (try dsimp only at hSw); go_simp; all_goals (with_reducible rfl))
            (try simp only [Act.put, List.setIfInBounds_toArray, List.set_cons_zero, List.set_cons_succ, List.getElem_toArray, List.getElem_cons_succ, List.getElem_cons_zero])
            refine wpAnyH_take (i := 4) (v := ?vp7) rfl (by kernel_rfl) (by kernel_rfl) (by kernel_rfl) (fun _ _ _ h => h) (Or.inl ⟨by rfl, ?yp7⟩) (by assumption) ?_
            case yp7 => (intro w hSw; (try dsimp only at hSw); go_simp; all_goals (with_reducible rfl))
            (try simp only [Act.put, List.setIfInBounds_toArray, List.set_cons_zero, List.set_cons_succ, List.getElem_toArray, List.getElem_cons_succ, List.getElem_cons_zero])
            refine wpAnyH_take (i := 5) (v := ?vp8) rfl (by kernel_rfl) (by kernel_rfl) (by kernel_rfl) (fun _ _ _ h => h) (Or.inl ⟨by rfl, ?yp8⟩) (by assumption) ?_
            case yp8 => (intro w hSw; (try dsimp only at hSw); go_simp; all_goals (with_reducible rfl))
            (try simp only [Act.put, List.setIfInBounds_toArray, List.set_cons_zero, List.set_cons_succ, List.getElem_toArray, List.getElem_cons_succ, List.getElem_cons_zero])
            refine wpAnyH_ready (rs := [1, 6]) (by kernel_rfl) (by simp) ?_
            refine AllReadyH.cons rfl (fun K hK => ?_) ?_
            · obtain ⟨q0, q1, q2⟩ := three_cells FX_p3.out
              go_simp
              clear q0 q1 q2
              refine hK.out _ _ (hHeld) (fun hHeld => ?_)
              clear hK K
              (try simp only [Act.put, List.setIfInBounds_toArray, List.set_cons_zero, List.set_cons_succ, List.getElem_toArray, List.getElem_cons_succ, List.getElem_cons_zero])
              refine wpAnyH_ready (rs := [6]) (by kernel_rfl) (by simp) ?_
              refine AllReadyH.cons rfl (fun K hK => ?_) ?_
              · go_simp
                refine (HFE.out wp1 (HBI.out.trans (FB_p2.out.mono HBI.out.size))).mono ?_
                rintro e wz ⟨rfl, hwz⟩
                subst hwz
                dsimp only
                refine hK.out _ _ (hHeld) (fun hHeld => ?_)
                clear hK K
                (try simp only [Act.put, List.setIfInBounds_toArray, List.set_cons_zero, List.set_cons_succ, List.getElem_toArray, List.getElem_cons_succ, List.getElem_cons_zero])
                refine wpAnyH_take (i := 7) (v := ?vp9) rfl (by kernel_rfl) (by kernel_rfl) (by kernel_rfl) (fun _ _ _ h => h) (Or.inl ⟨by rfl, ?yp9⟩) (by assumption) ?_
                case yp9 => (intro w hSw; (try dsimp only at hSw); go_simp; all_goals (with_reducible rfl))
                (try simp only [Act.put, List.setIfInBounds_toArray, List.set_cons_zero, List.set_cons_succ, List.getElem_toArray, List.getElem_cons_succ, List.getElem_cons_zero])
                refine wpAnyH_ready (rs := [8]) (by kernel_rfl) (by simp) ?_
                refine AllReadyH.cons rfl (fun K hK => ?_) ?_
                · go_simp
                  have FQp10 := FB_p2
                  refine (HCP.out wp1 (HBI.out.trans (FB_p2.out.mono HBI.out.size))).mono ?_
                  rintro e wp10 ⟨A9, c9, rfl, ownp10, belp10⟩
                  dsimp only
                  have FB_p11 := Lib.hid ((FB_p2.out).trans ((belp10).mono (FB_p2.out).size))
                  have FX_p12 := Lib.hid (((belp10).block _ (Array.getElem?_eq_some_iff.1 (FX_p3.out)).1).trans (FX_p3.out))
                  clear FB_p2 FX_p3
                  have OWN := Lib.hid (ownp10.mono FQp10.out.size)
                  clear ownp10 belp10 FQp10
                  refine hK.out _ _ (HSX.out _ FB_p11.out) (fun hHeld => ?_)
                  clear hK K
                  (try simp only [Act.put, List.setIfInBounds_toArray, List.set_cons_zero, List.set_cons_succ, List.getElem_toArray, List.getElem_cons_succ, List.getElem_cons_zero])
                  refine wpAnyH_ready (rs := [9]) (by kernel_rfl) (by simp) ?_
                  refine AllReadyH.cons rfl (fun K hK => ?_) ?_
                  · go_simp
                    have FBU := FB_p11
                    obtain ⟨wp13, hwp13⟩ : ∃ w', w' = wp10.alloc (.cells #[.slice A9 P.length c9] 24) := ⟨_, rfl⟩
                    rw [← hwp13]
                    have bp13 : Below wp10.heap.size wp10 wp13 := by rw [hwp13]; exact (Below.refl _ _).alloc (Nat.le_refl _) _
                    have HW9 := Lib.hid hwp13
                    clear hwp13
                    have FB_p14 := Lib.hid ((FB_p11.out).trans ((bp13).mono (FB_p11.out).size))
                    have FX_p15 := Lib.hid (((bp13).block _ (Array.getElem?_eq_some_iff.1 (FX_p12.out)).1).trans (FX_p12.out))
                    clear FB_p11 FX_p12
                    clear bp13
                    refine hK.out _ _ (HSX.out _ FB_p14.out) (fun hHeld => ?_)
                    clear hK K
                    (try simp only [Act.put, List.setIfInBounds_toArray, List.set_cons_zero, List.set_cons_succ, List.getElem_toArray, List.getElem_cons_succ, List.getElem_cons_zero])
                    refine wpAnyH_ready (rs := [10]) (by kernel_rfl) (by simp) ?_
                    refine AllReadyH.cons rfl (fun K hK => ?_) ?_
                    · have OW := Lib.hid (own_below HS.out.p.own.q.outer FB_p14.out (Nat.le_refl _))
                      have hz9 := FB_p14.out.size
                      obtain ⟨H8, hH8⟩ : ∃ q, wp13.heap.size = q := ⟨_, rfl⟩
                      have HN9 := Lib.hid (oneW wp10 (.slice A9 P.length c9) 24)
                      rw [← HW9.out] at HN9
                      refine step_append_lies _ rfl _ _ 22 rfl u1.heap.size 24 i4 (.slice none 0 0) 1 24 Tryd.underlying22 HI4.out HZ40.out HZ41.out HZ42.out rfl (by decide) _ _ _ rfl OW.out ⟨wp10.heap.size, 0, none⟩ 1 1 [.slice A9 P.length c9] rfl rfl HN9.out (by intro u hu; simp at hu; subst hu; rfl) (by decide) (by simp only [maxLen]; (try dsimp only); omega) (by (try dsimp only); omega) (by omega) H8 hH8 ?_
                      intro g9 cap9 w9 hown9 hgrow9 hat9 hlt9
                      rw [HW9.out] at hgrow9 hH8
                      have p9 := HS.out.p.pushW FBU.out OWN.out hown9 hgrow9 (hat9.imp id (fun e => e.trans hH8.symm))
                      rw [← HW9.out] at hgrow9
                      have hx9 := (hgrow9.block sx (Nat.lt_of_lt_of_le HSXL.out FB_p14.out.size) (fun e2 => (HS.out.p.far sx HS.out.p.sxl HS.out.p.sxf).a e2.symm)).trans ((FB_p14.out.block sx HSXL.out).trans HS.out.p.box)
                      have HB9 := Lib.hid (((HBI.out.trans (FB_p14.out.mono HBI.out.size))).grown hgrow9 (by have := HBI.out.size; omega) (fun q hq => Nat.le_trans hs1 (HS.out.p.own.q.outer.lt q hq).1))
                      have S9 := Lib.hid (HS.out.net p9)
                      have HX9 := Lib.hid hx9
                      clear p9 hx9 hown9 hgrow9 hat9 hlt9 hH8 OW
                      refine hK.out _ _ (HK.out _ HB9.out) (fun hHeld => ?_)
                      clear hK K
                      (try simp only [Act.put, List.setIfInBounds_toArray, List.set_cons_zero, List.set_cons_succ, List.getElem_toArray, List.getElem_cons_succ, List.getElem_cons_zero])
                      refine wpAnyH_take (i := 11) (v := ?vp16) rfl (by kernel_rfl) (by kernel_rfl) (by kernel_rfl) (fun _ _ _ h => h) (Or.inl ⟨by rfl, ?yp16⟩) (by assumption) ?_
                      case yp16 => (intro w hSw; (try dsimp only at hSw); go_simp; all_goals (with_reducible rfl))
                      (try simp only [Act.put, List.setIfInBounds_toArray, List.set_cons_zero, List.set_cons_succ, List.getElem_toArray, List.getElem_cons_succ, List.getElem_cons_zero])
                      refine wpAnyH_ready (rs := [12]) (by kernel_rfl) (by simp) ?_
                      refine AllReadyH.cons rfl (fun K hK => ?_) ?_
                      · obtain ⟨a0, a1, a2⟩ := three_cells HX9.out
                        have f0 := frozen_of_row _ _ 0 _ _ HX9.out; have f1 := frozen_of_row _ _ 1 _ _ HX9.out; have f2 := frozen_of_row _ _ 2 _ _ HX9.out
                        go_simp
                        clear a0 a1 a2 f0 f1 f2
                        refine hK.out _ _ (HK.out _ (HB9.out.setCell (p := ⟨sx, 0, none⟩) (Nat.le_trans hs1 HS.out.p.sxb) _)) (fun hHeld => ?_)
                        clear hK K
                        (try simp only [Act.put, List.setIfInBounds_toArray, List.set_cons_zero, List.set_cons_succ, List.getElem_toArray, List.getElem_cons_succ, List.getElem_cons_zero])
                        refine wpAnyH_done (by kernel_rfl) ?_ _
                        go_wp2_with (fail)
                        go_meet
                        exact ⟨_, by rw [HWT2.out]; have := S9.out; simpa using this⟩
                      exact AllReadyH.nil
                    exact AllReadyH.nil
                  exact AllReadyH.nil
                exact AllReadyH.nil
              exact AllReadyH.nil
            refine AllReadyH.cons rfl (fun K hK => ?_) ?_
            · go_simp
              refine (HFE.out wp1 (HBI.out.trans (FB_p2.out.mono HBI.out.size))).mono ?_
              rintro e wz ⟨rfl, hwz⟩
              subst hwz
              dsimp only
              refine hK.out _ _ (hHeld) (fun hHeld => ?_)
              clear hK K
              (try simp only [Act.put, List.setIfInBounds_toArray, List.set_cons_zero, List.set_cons_succ, List.getElem_toArray, List.getElem_cons_succ, List.getElem_cons_zero])
              refine wpAnyH_take (i := 7) (v := ?vp17) rfl (by kernel_rfl) (by kernel_rfl) (by kernel_rfl) (fun _ _ _ h => h) (Or.inl ⟨by rfl, ?yp17⟩) (by assumption) ?_
              case yp17 => (intro w hSw; (try dsimp only at hSw); go_simp; all_goals (with_reducible rfl))
              (try simp only [Act.put, List.setIfInBounds_toArray, List.set_cons_zero, List.set_cons_succ, List.getElem_toArray, List.getElem_cons_succ, List.getElem_cons_zero])
              refine wpAnyH_ready (rs := [1, 8]) (by kernel_rfl) (by simp) ?_
              refine AllReadyH.cons rfl (fun K hK => ?_) ?_
              · obtain ⟨q0, q1, q2⟩ := three_cells FX_p3.out
                go_simp
                clear q0 q1 q2
                refine hK.out _ _ (hHeld) (fun hHeld => ?_)
                clear hK K
                (try simp only [Act.put, List.setIfInBounds_toArray, List.set_cons_zero, List.set_cons_succ, List.getElem_toArray, List.getElem_cons_succ, List.getElem_cons_zero])
                refine wpAnyH_ready (rs := [8]) (by kernel_rfl) (by simp) ?_
                refine AllReadyH.cons rfl (fun K hK => ?_) ?_
                · go_simp
                  have FQp18 := FB_p2
                  refine (HCP.out wp1 (HBI.out.trans (FB_p2.out.mono HBI.out.size))).mono ?_
                  rintro e wp18 ⟨A9, c9, rfl, ownp18, belp18⟩
                  dsimp only
                  have FB_p19 := Lib.hid ((FB_p2.out).trans ((belp18).mono (FB_p2.out).size))
                  have FX_p20 := Lib.hid (((belp18).block _ (Array.getElem?_eq_some_iff.1 (FX_p3.out)).1).trans (FX_p3.out))
                  clear FB_p2 FX_p3
                  have OWN := Lib.hid (ownp18.mono FQp18.out.size)
                  clear ownp18 belp18 FQp18
                  refine hK.out _ _ (HSX.out _ FB_p19.out) (fun hHeld => ?_)
                  clear hK K
                  (try simp only [Act.put, List.setIfInBounds_toArray, List.set_cons_zero, List.set_cons_succ, List.getElem_toArray, List.getElem_cons_succ, List.getElem_cons_zero])
                  refine wpAnyH_ready (rs := [9]) (by kernel_rfl) (by simp) ?_
                  refine AllReadyH.cons rfl (fun K hK => ?_) ?_
                  · go_simp
                    have FBU := FB_p19
                    obtain ⟨wp21, hwp21⟩ : ∃ w', w' = wp18.alloc (.cells #[.slice A9 P.length c9] 24) := ⟨_, rfl⟩
                    rw [← hwp21]
                    have bp21 : Below wp18.heap.size wp18 wp21 := by rw [hwp21]; exact (Below.refl _ _).alloc (Nat.le_refl _) _
                    have HW9 := Lib.hid hwp21
                    clear hwp21
                    have FB_p22 := Lib.hid ((FB_p19.out).trans ((bp21).mono (FB_p19.out).size))
                    have FX_p23 := Lib.hid (((bp21).block _ (Array.getElem?_eq_some_iff.1 (FX_p20.out)).1).trans (FX_p20.out))
                    clear FB_p19 FX_p20
                    clear bp21
                    refine hK.out _ _ (HSX.out _ FB_p22.out) (fun hHeld => ?_)
                    clear hK K
                    (try simp only [Act.put, List.setIfInBounds_toArray, List.set_cons_zero, List.set_cons_succ, List.getElem_toArray, List.getElem_cons_succ, List.getElem_cons_zero])
                    refine wpAnyH_ready (rs := [10]) (by kernel_rfl) (by simp) ?_
                    refine AllReadyH.cons rfl (fun K hK => ?_) ?_
                    · have OW := Lib.hid (own_below HS.out.p.own.q.outer FB_p22.out (Nat.le_refl _))
                      have hz9 := FB_p22.out.size
                      obtain ⟨H8, hH8⟩ : ∃ q, wp21.heap.size = q := ⟨_, rfl⟩
                      have HN9 := Lib.hid (oneW wp18 (.slice A9 P.length c9) 24)
                      rw [← HW9.out] at HN9
                      refine step_append_lies _ rfl _ _ 22 rfl u1.heap.size 24 i4 (.slice none 0 0) 1 24 Tryd.underlying22 HI4.out HZ40.out HZ41.out HZ42.out rfl (by decide) _ _ _ rfl OW.out ⟨wp18.heap.size, 0, none⟩ 1 1 [.slice A9 P.length c9] rfl rfl HN9.out (by intro u hu; simp at hu; subst hu; rfl) (by decide) (by simp only [maxLen]; (try dsimp only); omega) (by (try dsimp only); omega) (by omega) H8 hH8 ?_
                      intro g9 cap9 w9 hown9 hgrow9 hat9 hlt9
                      rw [HW9.out] at hgrow9 hH8
                      have p9 := HS.out.p.pushW FBU.out OWN.out hown9 hgrow9 (hat9.imp id (fun e => e.trans hH8.symm))
                      rw [← HW9.out] at hgrow9
                      have hx9 := (hgrow9.block sx (Nat.lt_of_lt_of_le HSXL.out FB_p22.out.size) (fun e2 => (HS.out.p.far sx HS.out.p.sxl HS.out.p.sxf).a e2.symm)).trans ((FB_p22.out.block sx HSXL.out).trans HS.out.p.box)
                      have HB9 := Lib.hid (((HBI.out.trans (FB_p22.out.mono HBI.out.size))).grown hgrow9 (by have := HBI.out.size; omega) (fun q hq => Nat.le_trans hs1 (HS.out.p.own.q.outer.lt q hq).1))
                      have S9 := Lib.hid (HS.out.net p9)
                      have HX9 := Lib.hid hx9
                      clear p9 hx9 hown9 hgrow9 hat9 hlt9 hH8 OW
                      refine hK.out _ _ (HK.out _ HB9.out) (fun hHeld => ?_)
                      clear hK K
                      (try simp only [Act.put, List.setIfInBounds_toArray, List.set_cons_zero, List.set_cons_succ, List.getElem_toArray, List.getElem_cons_succ, List.getElem_cons_zero])
                      refine wpAnyH_take (i := 11) (v := ?vp24) rfl (by kernel_rfl) (by kernel_rfl) (by kernel_rfl) (fun _ _ _ h => h) (Or.inl ⟨by rfl, ?yp24⟩) (by assumption) ?_
                      case yp24 => (intro w hSw; (try dsimp only at hSw); go_simp; all_goals (with_reducible rfl))
                      (try simp only [Act.put, List.setIfInBounds_toArray, List.set_cons_zero, List.set_cons_succ, List.getElem_toArray, List.getElem_cons_succ, List.getElem_cons_zero])
                      refine wpAnyH_ready (rs := [12]) (by kernel_rfl) (by simp) ?_
                      refine AllReadyH.cons rfl (fun K hK => ?_) ?_
                      · obtain ⟨a0, a1, a2⟩ := three_cells HX9.out
                        have f0 := frozen_of_row _ _ 0 _ _ HX9.out; have f1 := frozen_of_row _ _ 1 _ _ HX9.out; have f2 := frozen_of_row _ _ 2 _ _ HX9.out
                        go_simp
                        clear a0 a1 a2 f0 f1 f2
                        refine hK.out _ _ (HK.out _ (HB9.out.setCell (p := ⟨sx, 0, none⟩) (Nat.le_trans hs1 HS.out.p.sxb) _)) (fun hHeld => ?_)
                        clear hK K
                        (try simp only [Act.put, List.setIfInBounds_toArray, List.set_cons_zero, List.set_cons_succ, List.getElem_toArray, List.getElem_cons_succ, List.getElem_cons_zero])
                        refine wpAnyH_done (by kernel_rfl) ?_ _
                        go_wp2_with (fail)
                        go_meet
                        exact ⟨_, by rw [HWT2.out]; have := S9.out; simpa using this⟩
                      exact AllReadyH.nil
                    exact AllReadyH.nil
                  exact AllReadyH.nil
                exact AllReadyH.nil
              refine AllReadyH.cons rfl (fun K hK => ?_) ?_
              · go_simp
                have FQp25 := FB_p2
                refine (HCP.out wp1 (HBI.out.trans (FB_p2.out.mono HBI.out.size))).mono ?_
                rintro e wp25 ⟨A9, c9, rfl, ownp25, belp25⟩
                dsimp only
                have FB_p26 := Lib.hid ((FB_p2.out).trans ((belp25).mono (FB_p2.out).size))
                have FX_p27 := Lib.hid (((belp25).block _ (Array.getElem?_eq_some_iff.1 (FX_p3.out)).1).trans (FX_p3.out))
                clear FB_p2 FX_p3
                have OWN := Lib.hid (ownp25.mono FQp25.out.size)
                clear ownp25 belp25 FQp25
                refine hK.out _ _ (HSX.out _ FB_p26.out) (fun hHeld => ?_)
                clear hK K
                (try simp only [Act.put, List.setIfInBounds_toArray, List.set_cons_zero, List.set_cons_succ, List.getElem_toArray, List.getElem_cons_succ, List.getElem_cons_zero])
                refine wpAnyH_ready (rs := [1, 9]) (by kernel_rfl) (by simp) ?_
                refine AllReadyH.cons rfl (fun K hK => ?_) ?_
                · obtain ⟨q0, q1, q2⟩ := three_cells FX_p27.out
                  go_simp
                  clear q0 q1 q2
                  refine hK.out _ _ (hHeld) (fun hHeld => ?_)
                  clear hK K
                  (try simp only [Act.put, List.setIfInBounds_toArray, List.set_cons_zero, List.set_cons_succ, List.getElem_toArray, List.getElem_cons_succ, List.getElem_cons_zero])
                  refine wpAnyH_ready (rs := [9]) (by kernel_rfl) (by simp) ?_
                  refine AllReadyH.cons rfl (fun K hK => ?_) ?_
                  · go_simp
                    have FBU := FB_p26
                    obtain ⟨wp28, hwp28⟩ : ∃ w', w' = wp25.alloc (.cells #[.slice A9 P.length c9] 24) := ⟨_, rfl⟩
                    rw [← hwp28]
                    have bp28 : Below wp25.heap.size wp25 wp28 := by rw [hwp28]; exact (Below.refl _ _).alloc (Nat.le_refl _) _
                    have HW9 := Lib.hid hwp28
                    clear hwp28
                    have FB_p29 := Lib.hid ((FB_p26.out).trans ((bp28).mono (FB_p26.out).size))
                    have FX_p30 := Lib.hid (((bp28).block _ (Array.getElem?_eq_some_iff.1 (FX_p27.out)).1).trans (FX_p27.out))
                    clear FB_p26 FX_p27
                    clear bp28
                    refine hK.out _ _ (HSX.out _ FB_p29.out) (fun hHeld => ?_)
                    clear hK K
                    (try simp only [Act.put, List.setIfInBounds_toArray, List.set_cons_zero, List.set_cons_succ, List.getElem_toArray, List.getElem_cons_succ, List.getElem_cons_zero])
                    refine wpAnyH_ready (rs := [10]) (by kernel_rfl) (by simp) ?_
                    refine AllReadyH.cons rfl (fun K hK => ?_) ?_
                    · have OW := Lib.hid (own_below HS.out.p.own.q.outer FB_p29.out (Nat.le_refl _))
                      have hz9 := FB_p29.out.size
                      obtain ⟨H8, hH8⟩ : ∃ q, wp28.heap.size = q := ⟨_, rfl⟩
                      have HN9 := Lib.hid (oneW wp25 (.slice A9 P.length c9) 24)
                      rw [← HW9.out] at HN9
                      refine step_append_lies _ rfl _ _ 22 rfl u1.heap.size 24 i4 (.slice none 0 0) 1 24 Tryd.underlying22 HI4.out HZ40.out HZ41.out HZ42.out rfl (by decide) _ _ _ rfl OW.out ⟨wp25.heap.size, 0, none⟩ 1 1 [.slice A9 P.length c9] rfl rfl HN9.out (by intro u hu; simp at hu; subst hu; rfl) (by decide) (by simp only [maxLen]; (try dsimp only); omega) (by (try dsimp only); omega) (by omega) H8 hH8 ?_
                      intro g9 cap9 w9 hown9 hgrow9 hat9 hlt9
                      rw [HW9.out] at hgrow9 hH8
                      have p9 := HS.out.p.pushW FBU.out OWN.out hown9 hgrow9 (hat9.imp id (fun e => e.trans hH8.symm))
                      rw [← HW9.out] at hgrow9
                      have hx9 := (hgrow9.block sx (Nat.lt_of_lt_of_le HSXL.out FB_p29.out.size) (fun e2 => (HS.out.p.far sx HS.out.p.sxl HS.out.p.sxf).a e2.symm)).trans ((FB_p29.out.block sx HSXL.out).trans HS.out.p.box)
                      have HB9 := Lib.hid (((HBI.out.trans (FB_p29.out.mono HBI.out.size))).grown hgrow9 (by have := HBI.out.size; omega) (fun q hq => Nat.le_trans hs1 (HS.out.p.own.q.outer.lt q hq).1))
                      have S9 := Lib.hid (HS.out.net p9)
                      have HX9 := Lib.hid hx9
                      clear p9 hx9 hown9 hgrow9 hat9 hlt9 hH8 OW
                      refine hK.out _ _ (HK.out _ HB9.out) (fun hHeld => ?_)
                      clear hK K
                      (try simp only [Act.put, List.setIfInBounds_toArray, List.set_cons_zero, List.set_cons_succ, List.getElem_toArray, List.getElem_cons_succ, List.getElem_cons_zero])
                      refine wpAnyH_take (i := 11) (v := ?vp31) rfl (by kernel_rfl) (by kernel_rfl) (by kernel_rfl) (fun _ _ _ h => h) (Or.inl ⟨by rfl, ?yp31⟩) (by assumption) ?_
                      case yp31 => (intro w hSw; (try dsimp only at hSw); go_simp; all_goals (with_reducible rfl))
                      (try simp only [Act.put, List.setIfInBounds_toArray, List.set_cons_zero, List.set_cons_succ, List.getElem_toArray, List.getElem_cons_succ, List.getElem_cons_zero])
                      refine wpAnyH_ready (rs := [12]) (by kernel_rfl) (by simp) ?_
                      refine AllReadyH.cons rfl (fun K hK => ?_) ?_
                      · obtain ⟨a0, a1, a2⟩ := three_cells HX9.out
                        have f0 := frozen_of_row _ _ 0 _ _ HX9.out; have f1 := frozen_of_row _ _ 1 _ _ HX9.out; have f2 := frozen_of_row _ _ 2 _ _ HX9.out
                        go_simp
                        clear a0 a1 a2 f0 f1 f2
                        refine hK.out _ _ (HK.out _ (HB9.out.setCell (p := ⟨sx, 0, none⟩) (Nat.le_trans hs1 HS.out.p.sxb) _)) (fun hHeld => ?_)
                        clear hK K
                        (try simp only [Act.put, List.setIfInBounds_toArray, List.set_cons_zero, List.set_cons_succ, List.getElem_toArray, List.getElem_cons_succ, List.getElem_cons_zero])
                        refine wpAnyH_done (by kernel_rfl) ?_ _
                        go_wp2_with (fail)
                        go_meet
                        exact ⟨_, by rw [HWT2.out]; have := S9.out; simpa using this⟩
                      exact AllReadyH.nil
                    exact AllReadyH.nil
                  exact AllReadyH.nil
                refine AllReadyH.cons rfl (fun K hK => ?_) ?_
                · go_simp
                  have FBU := FB_p26
                  obtain ⟨wp32, hwp32⟩ : ∃ w', w' = wp25.alloc (.cells #[.slice A9 P.length c9] 24) := ⟨_, rfl⟩
                  rw [← hwp32]
                  have bp32 : Below wp25.heap.size wp25 wp32 := by rw [hwp32]; exact (Below.refl _ _).alloc (Nat.le_refl _) _
                  have HW9 := Lib.hid hwp32
                  clear hwp32
                  have FB_p33 := Lib.hid ((FB_p26.out).trans ((bp32).mono (FB_p26.out).size))
                  have FX_p34 := Lib.hid (((bp32).block _ (Array.getElem?_eq_some_iff.1 (FX_p27.out)).1).trans (FX_p27.out))
                  clear FB_p26 FX_p27
                  clear bp32
                  refine hK.out _ _ (HSX.out _ FB_p33.out) (fun hHeld => ?_)
                  clear hK K
                  (try simp only [Act.put, List.setIfInBounds_toArray, List.set_cons_zero, List.set_cons_succ, List.getElem_toArray, List.getElem_cons_succ, List.getElem_cons_zero])
                  refine wpAnyH_ready (rs := [1]) (by kernel_rfl) (by simp) ?_
                  refine AllReadyH.cons rfl (fun K hK => ?_) ?_
                  · obtain ⟨q0, q1, q2⟩ := three_cells FX_p34.out
                    go_simp
                    clear q0 q1 q2
                    refine hK.out _ _ (hHeld) (fun hHeld => ?_)
                    clear hK K
                    (try simp only [Act.put, List.setIfInBounds_toArray, List.set_cons_zero, List.set_cons_succ, List.getElem_toArray, List.getElem_cons_succ, List.getElem_cons_zero])
                    refine wpAnyH_ready (rs := [10]) (by kernel_rfl) (by simp) ?_
                    refine AllReadyH.cons rfl (fun K hK => ?_) ?_
                    · have OW := Lib.hid (own_below HS.out.p.own.q.outer FB_p33.out (Nat.le_refl _))
                      have hz9 := FB_p33.out.size
                      obtain ⟨H8, hH8⟩ : ∃ q, wp32.heap.size = q := ⟨_, rfl⟩
                      have HN9 := Lib.hid (oneW wp25 (.slice A9 P.length c9) 24)
                      rw [← HW9.out] at HN9
                      refine step_append_lies _ rfl _ _ 22 rfl u1.heap.size 24 i4 (.slice none 0 0) 1 24 Tryd.underlying22 HI4.out HZ40.out HZ41.out HZ42.out rfl (by decide) _ _ _ rfl OW.out ⟨wp25.heap.size, 0, none⟩ 1 1 [.slice A9 P.length c9] rfl rfl HN9.out (by intro u hu; simp at hu; subst hu; rfl) (by decide) (by simp only [maxLen]; (try dsimp only); omega) (by (try dsimp only); omega) (by omega) H8 hH8 ?_
                      intro g9 cap9 w9 hown9 hgrow9 hat9 hlt9
                      rw [HW9.out] at hgrow9 hH8
                      have p9 := HS.out.p.pushW FBU.out OWN.out hown9 hgrow9 (hat9.imp id (fun e => e.trans hH8.symm))
                      rw [← HW9.out] at hgrow9
                      have hx9 := (hgrow9.block sx (Nat.lt_of_lt_of_le HSXL.out FB_p33.out.size) (fun e2 => (HS.out.p.far sx HS.out.p.sxl HS.out.p.sxf).a e2.symm)).trans ((FB_p33.out.block sx HSXL.out).trans HS.out.p.box)
                      have HB9 := Lib.hid (((HBI.out.trans (FB_p33.out.mono HBI.out.size))).grown hgrow9 (by have := HBI.out.size; omega) (fun q hq => Nat.le_trans hs1 (HS.out.p.own.q.outer.lt q hq).1))
                      have S9 := Lib.hid (HS.out.net p9)
                      have HX9 := Lib.hid hx9
                      clear p9 hx9 hown9 hgrow9 hat9 hlt9 hH8 OW
                      refine hK.out _ _ (HK.out _ HB9.out) (fun hHeld => ?_)
                      clear hK K
                      (try simp only [Act.put, List.setIfInBounds_toArray, List.set_cons_zero, List.set_cons_succ, List.getElem_toArray, List.getElem_cons_succ, List.getElem_cons_zero])
                      refine wpAnyH_take (i := 11) (v := ?vp35) rfl (by kernel_rfl) (by kernel_rfl) (by kernel_rfl) (fun _ _ _ h => h) (Or.inl ⟨by rfl, ?yp35⟩) (by assumption) ?_
                      case yp35 => (intro w hSw; (try dsimp only at hSw); go_simp; all_goals (with_reducible rfl))
                      (try simp only [Act.put, List.setIfInBounds_toArray, List.set_cons_zero, List.set_cons_succ, List.getElem_toArray, List.getElem_cons_succ, List.getElem_cons_zero])
                      refine wpAnyH_ready (rs := [12]) (by kernel_rfl) (by simp) ?_
                      refine AllReadyH.cons rfl (fun K hK => ?_) ?_
                      · obtain ⟨a0, a1, a2⟩ := three_cells HX9.out
                        have f0 := frozen_of_row _ _ 0 _ _ HX9.out; have f1 := frozen_of_row _ _ 1 _ _ HX9.out; have f2 := frozen_of_row _ _ 2 _ _ HX9.out
                        go_simp
                        clear a0 a1 a2 f0 f1 f2
                        refine hK.out _ _ (HK.out _ (HB9.out.setCell (p := ⟨sx, 0, none⟩) (Nat.le_trans hs1 HS.out.p.sxb) _)) (fun hHeld => ?_)
                        clear hK K
                        (try simp only [Act.put, List.setIfInBounds_toArray, List.set_cons_zero, List.set_cons_succ, List.getElem_toArray, List.getElem_cons_succ, List.getElem_cons_zero])
                        refine wpAnyH_done (by kernel_rfl) ?_ _
                        go_wp2_with (fail)
                        go_meet
                        exact ⟨_, by rw [HWT2.out]; have := S9.out; simpa using this⟩
                      exact AllReadyH.nil
                    exact AllReadyH.nil
                  exact AllReadyH.nil
                exact AllReadyH.nil
              exact AllReadyH.nil
            exact AllReadyH.nil
          case rest =>
            obtain ⟨h4, SS⟩ := hcut
            clear HS HCP HFE HWT2 HSX HSXL
            obtain ⟨A7, c7, rfl⟩ := own_shape SS.lv
            obtain ⟨A8, c8, rfl⟩ := own_shape4w SS.jo
            have HS4 := Lib.hid SS
            have HB4 : Hid (Below w0.heap.size w0 wc) := Lib.hid (B1.out.trans (SS.p.bel.mono B1.out.size))
            have fcell := (HB4.out.cell (p := ⟨bf, offf + i, none⟩) (by show bf < w0.heap.size; omega)).trans (hcf i hil)
            have hll : (lfU (wsQ qs) (T + i)).length ≤ T + i := fltU_len _ _ _
            have hjl : (joU (wsQ qs) (T + i)).length ≤ T + i := fltU_len _ _ _
            have hLF := HLF.out i hil
            have hJO := HJO.out i hil
            have hs4 := SS.p.bel.size
            obtain ⟨z, hz⟩ : ∃ z, f.getD i 0 = z := ⟨_, rfl⟩
            rw [hz] at fcell hLF hJO
            have HLF2 := Lib.hid hLF; have HJO2 := Lib.hid hJO
            have hw1 : IntKind.i64.wrap ((T : Int) + (i : Int)) = (T : Int) + (i : Int) := IntWalk.i64_in _ (by omega)
            clear SS hLF hJO hz
            cases hl : leafB z with
            | true =>
              have hz8 := leaf_iff.1 hl
              have h11 : (z == 11) = false := by simp; omega
              have h12 : (z == 12) = false := by simp; omega
              obtain ⟨e1, e2⟩ := HLF2.out hl
              have HE1 := Lib.hid e1; have HE2 := Lib.hid e2
              clear e1 e2 hz8 hl
              obtain ⟨nl, hnl⟩ : ∃ nl, (lfU (wsQ qs) (T + i)).length = nl := ⟨_, rfl⟩
              have HLO := Lib.hid HS4.out.lv
              rw [hnl] at HLO hll ⊢
              have HNL := Lib.hid hnl
              clear hnl
              go_wp2_with (at_builtin; refine wpList_append_own_at _ rfl _ _ 24 rfl u1.heap.size 2 i0 (.int .i64 0) 1 8 Tryd.underlying24 HI.out HZ0.out HZ1.out HZ2.out rfl (by decide) _ _ _ rfl (HLO.out.alloc _) ⟨wc.heap.size, 0, none⟩ 1 1 [.int .i64 ((T : Int) + (i : Int))] rfl rfl ?c1 ?c2 ?c3 ?c4 ?c5 ?_)
              case c1 => exact oneW _ _ _
              case c2 => intro u hu; simp at hu; subst hu; rfl
              case c3 => unfold maxLen; omega
              case c4 => omega
              case c5 => simp; omega
              intro v9 w9 hown9 hgrow9 _ hat9
              have hle : (lfU (wsQ qs) (T + i + 1)).length = nl + 1 := by rw [HE1.out, List.length_append, HNL.out]; rfl
              have bal : Below wc.heap.size wc (wc.alloc (.cells #[.int .i64 ((T : Int) + (i : Int))] 2)) := (Below.refl _ _).alloc (Nat.le_refl _) _
              have S9 := Lib.hid (HS4.out.leaf (LV' := lfU (wsQ qs) (T + i + 1)) (m := (wc.alloc (.cells #[.int .i64 ((T : Int) + (i : Int))] 2)).heap.size) bal (by rw [hle, HE1.out, List.map_append]; exact hown9) (by rw [HNL.out]; exact hgrow9) bal.size (by rw [HNL.out, World.size_alloc]; exact hat9))
              clear hown9 hgrow9 hat9 bal hle fcell
              go_wp2
              go_roundw
              case rel => exact ⟨i + 1, by omega, by go_num, _, by rw [show T + (i + 1) = T + i + 1 by omega, HE2.out, ← HE2.out]; first | exact S9.out | (rw [HE2.out]; exact S9.out)⟩
              case measure => simp [intOf]; omega
            | false =>
              obtain ⟨e1, hi1, hs11, e4⟩ := HJO2.out hl
              have HE1 := Lib.hid e1
              have hf2 := fe_some HVF.out hi1
              obtain ⟨E2, hE2⟩ : ∃ E : Nat, fe f ((i : Int) + 1) = E := ⟨(fe f ((i : Int) + 1)).toNat, by have : ((i + 1 : Nat) : Int) = (i : Int) + 1 := by omega
                                                                                                          rw [this] at hf2; omega⟩
              rw [show ((i + 1 : Nat) : Int) = (i : Int) + 1 by omega, hE2] at hf2
              have HFE2 := Lib.hid (fun (wx : World) (hx : Below w0.heap.size w0 wx) => sformEnd_any (some ⟨bf, offf, none⟩) f.length c' f ((i : Int) + 1) wx (HRF.out wx hx) (by omega))
              simp only [hE2] at HFE2
              have hw2 : IntKind.i64.wrap ((T : Int) + (i : Int) + 1) = (T : Int) + (i : Int) + 1 := IntWalk.i64_in _ (by omega)
              have hw3 : IntKind.i64.wrap ((i : Int) + 1) = (i : Int) + 1 := IntWalk.i64_in _ (by omega)
              have hw4 : IntKind.i64.wrap ((T : Int) + (E2 : Int)) = (T : Int) + (E2 : Int) := IntWalk.i64_in _ (by omega)
              obtain ⟨nl, hnl⟩ : ∃ nl, (joU (wsQ qs) (T + i)).length = nl := ⟨_, rfl⟩
              have HLO := Lib.hid HS4.out.jo
              rw [hnl] at HLO hjl ⊢
              have HNL := Lib.hid hnl
              clear hnl e1 hl
              rcases hs11 with rfl | rfl
              · have e5 : joU (wsQ qs) (T + i + 1) = joU (wsQ qs) (T + i) ++ [⟨3, (T : Int) + (i : Int) + 1, (T : Int) + (E2 : Int), (T : Int) + (i : Int)⟩] := by rw [e4]; simp [hE2]
                have HE4 := Lib.hid e5
                clear e4 e5 hE2
                go_wp2_with (fail)
                refine (HFE2.out _ HB4.out).mono ?_
                rintro e wz ⟨rfl, hwz⟩
                subst hwz
                go_wp2_with (at_builtin; refine wpList_append_own_at _ rfl _ _ 29 rfl u1.heap.size 71 i5 (.agg #[.int .i64 0, .int .i64 0, .int .i64 0, .int .i64 0]) 4 32 Tryd.underlying29 HI5.out HZ50.out HZ51.out HZ52.out rfl (by decide) _ _ _ rfl (HLO.out.alloc _) ⟨wc.heap.size, 0, none⟩ 1 1 [.int .i64 3, .int .i64 ((T : Int) + (i : Int) + 1), .int .i64 ((T : Int) + (E2 : Int)), .int .i64 ((T : Int) + (i : Int))] rfl rfl ?c1 ?c2 ?c3 ?c4 ?c5 ?_)
                case c1 => exact four_newW _ _ _ _ _ _
                case c2 => intro u hu; simp at hu; rcases hu with rfl | rfl | rfl | rfl <;> rfl
                case c3 => unfold maxLen; omega
                case c4 => omega
                case c5 => simp; omega
                intro v9 w9 hown9 hgrow9 _ hat9
                have hle : (joU (wsQ qs) (T + i + 1)).length = nl + 1 := by rw [HE4.out, List.length_append, HNL.out]; rfl
                have bal : Below wc.heap.size wc (wc.alloc (.cells #[.int .i64 3, .int .i64 ((T : Int) + (i : Int) + 1), .int .i64 ((T : Int) + (E2 : Int)), .int .i64 ((T : Int) + (i : Int))] 71)) := (Below.refl _ _).alloc (Nat.le_refl _) _
                have S9 := Lib.hid (HS4.out.join (JO' := joU (wsQ qs) (T + i + 1)) (m := (wc.alloc (.cells #[.int .i64 3, .int .i64 ((T : Int) + (i : Int) + 1), .int .i64 ((T : Int) + (E2 : Int)), .int .i64 ((T : Int) + (i : Int))] 71)).heap.size) bal (by rw [hle, HE4.out, flL_appw, List.map_append]; exact hown9) (by rw [HNL.out]; exact hgrow9) bal.size (by rw [HNL.out, World.size_alloc]; exact hat9))
                clear hown9 hgrow9 hat9 bal hle fcell
                go_wp2
                go_roundw
                case rel => exact ⟨i + 1, by omega, by go_num, _, by rw [show T + (i + 1) = T + i + 1 by omega, HE1.out]; exact S9.out⟩
                case measure => simp [intOf]; omega
              · have e5 : joU (wsQ qs) (T + i + 1) = joU (wsQ qs) (T + i) ++ [⟨4, (T : Int) + (i : Int) + 1, (T : Int) + (E2 : Int), (T : Int) + (i : Int)⟩] := by rw [e4]; simp [hE2]
                have HE4 := Lib.hid e5
                clear e4 e5 hE2
                go_wp2_with (fail)
                refine (HFE2.out _ HB4.out).mono ?_
                rintro e wz ⟨rfl, hwz⟩
                subst hwz
                go_wp2_with (at_builtin; refine wpList_append_own_at _ rfl _ _ 29 rfl u1.heap.size 71 i5 (.agg #[.int .i64 0, .int .i64 0, .int .i64 0, .int .i64 0]) 4 32 Tryd.underlying29 HI5.out HZ50.out HZ51.out HZ52.out rfl (by decide) _ _ _ rfl (HLO.out.alloc _) ⟨wc.heap.size, 0, none⟩ 1 1 [.int .i64 4, .int .i64 ((T : Int) + (i : Int) + 1), .int .i64 ((T : Int) + (E2 : Int)), .int .i64 ((T : Int) + (i : Int))] rfl rfl ?c1 ?c2 ?c3 ?c4 ?c5 ?_)
                case c1 => exact four_newW _ _ _ _ _ _
                case c2 => intro u hu; simp at hu; rcases hu with rfl | rfl | rfl | rfl <;> rfl
                case c3 => unfold maxLen; omega
                case c4 => omega
                case c5 => simp; omega
                intro v9 w9 hown9 hgrow9 _ hat9
                have hle : (joU (wsQ qs) (T + i + 1)).length = nl + 1 := by rw [HE4.out, List.length_append, HNL.out]; rfl
                have bal : Below wc.heap.size wc (wc.alloc (.cells #[.int .i64 4, .int .i64 ((T : Int) + (i : Int) + 1), .int .i64 ((T : Int) + (E2 : Int)), .int .i64 ((T : Int) + (i : Int))] 71)) := (Below.refl _ _).alloc (Nat.le_refl _) _
                have S9 := Lib.hid (HS4.out.join (JO' := joU (wsQ qs) (T + i + 1)) (m := (wc.alloc (.cells #[.int .i64 4, .int .i64 ((T : Int) + (i : Int) + 1), .int .i64 ((T : Int) + (E2 : Int)), .int .i64 ((T : Int) + (i : Int))] 71)).heap.size) bal (by rw [hle, HE4.out, flL_appw, List.map_append]; exact hown9) (by rw [HNL.out]; exact hgrow9) bal.size (by rw [HNL.out, World.size_alloc]; exact hat9))
                clear hown9 hgrow9 hat9 bal hle fcell
                go_wp2
                go_roundw
                case rel => exact ⟨i + 1, by omega, by go_num, _, by rw [show T + (i + 1) = T + i + 1 by omega, HE1.out]; exact S9.out⟩
                case measure => simp [intOf]; omega
        · have hie : i = f.length := by omega
          subst hie
          clear S7
          have HS := Lib.hid SS
          rw [HWQ.out] at HS
          rw [← HWE.out] at HS
          clear SS
          go_wp2
          go_roundw
          case rel => exact ⟨k + 1, by omega, by go_num, _, HS.out⟩
          case measure => simp [intOf]; omega
    · have hkn : k = qs.length := by omega
      subst hkn
      have HLD : Hid (ldN qs M = ⟨wsQ qs, axW (lfW (wsQ qs)) M ++ joW (wsQ qs), csU qs qs.length⟩) := Lib.hid rfl
      have S1 := show Ld3 u1 wr sx _ _ hh ⟨wsQ qs, [], csU qs qs.length⟩ (lfW (wsQ qs)) (joW (wsQ qs)) from SS
      have HBW2 : Hid (Below w0.heap.size w0 wr) := Lib.hid (B1.out.trans (SS.p.bel.mono B1.out.size))
      have ok1 := HOK.out.w; have ok2 := HOK.out.m; have ok3 := HOK.out.i; have ok7 := HOK.out.l
      rw [HLD.out] at HX HSM
      have ax := axW_len (lfW (wsQ qs)) M
      have jo := joW_len (wsQ qs)
      clear HOK SS hlt hk hn10
      generalize wsQ qs = W at *
      generalize csU qs qs.length = CS at *
      generalize lfW W = LV at *
      generalize joW W = JO at *
      obtain ⟨A7, c7, rfl⟩ := own_shape S1.lv
      obtain ⟨A8, c8, rfl⟩ := own_shape4w S1.jo
      have S2 := Lib.hid S1
      clear S1
      go_wp2
      go_loopw [13] (fun i wx => ∃ k : Nat, k ≤ M.length ∧ i = .int .i64 k ∧ ∃ h, Ld3 u1 wx sx (.slice A7 LV.length c7) (.slice A8 JO.length c8) h ⟨W, axU LV M k, CS⟩ LV JO) (fun i _ => M.length - (intOf i).toNat)
      case atStart => exact ⟨0, Nat.zero_le _, rfl, _, S2.out⟩
      case round =>
        obtain ⟨k, hk, rfl, h3, SS⟩ := hrel
        have HBI : Hid (Below w0.heap.size w0 wr) := Lib.hid (B1.out.trans (SS.p.bel.mono B1.out.size))
        by_cases hlt : k < M.length
        · obtain ⟨bM, offM, hBm, hbM, hcM⟩ := (HM.out w0 (Below.refl _ _)).2 (by omega)
          have hinm := ok3 k hlt
          have cm := (HBI.out.cell (p := ⟨bM, offM + k, none⟩) (by show bM < w0.heap.size; omega)).trans (hcM k hlt)
          have HYE := Lib.hid (fun e => fltU_yes (p := fun i => decide ((i : Int) < M.getD i 0)) (g := axL LV M) (k := k) e)
          have HNO := Lib.hid (fun e => fltU_no (p := fun i => decide ((i : Int) < M.getD i 0)) (g := axL LV M) (k := k) e)
          have HAX : Hid (axL LV M k = ⟨1, LV.getD k 0, LV.getD (M.getD k 0).toNat 0, 0⟩) := Lib.hid rfl
          have hln : (axU LV M k).length ≤ k := fltU_len _ _ k
          obtain ⟨z, hz⟩ : ∃ z, M.getD k 0 = z := ⟨_, rfl⟩
          rw [hz] at cm hinm HYE HNO HAX
          have HIZ := Lib.hid (inW_yes hinm)
          have hkL : k < LV.length := by omega
          by_cases hd : (k : Int) < z
          · obtain ⟨gl, capl, hvl, hll, hlh⟩ := SS.lv.form (by omega)
            have hAg : A7 = some ⟨gl, 0, none⟩ ∧ c7 = capl := by injection hvl with x y z; exact ⟨x, z⟩
            obtain ⟨rfl, rfl⟩ := hAg
            have hgs := (SS.f7 gl rfl).2
            have hgf := (SS.f7 gl rfl).1
            have hdd : decide ((k : Int) < z) = true := decide_eq_true hd
            obtain ⟨hz0, hiz, ez⟩ := HIZ.out
            have ca := SS.lv.cellAt (g := gl) k (by omega)
            have cb := SS.lv.cellAt (g := gl) z.toNat (by omega)
            rw [List.getElem?_map, ints_at hkL] at ca
            rw [List.getElem?_map, ints_at hiz] at cb
            have HSU := Lib.hid (show axU LV M (k + 1) = axU LV M k ++ [⟨1, LV.getD k 0, LV.getD z.toNat 0, 0⟩] from by rw [← HAX.out]; exact HYE.out hdd)
            have HLS := Lib.hid (show (axU LV M (k + 1)).length = (axU LV M k).length + 1 by rw [HSU.out, List.length_append]; rfl)
            have HS := Lib.hid SS
            have hs7 := SS.p.bel.size
            have HSXL : Hid (sx < wr.heap.size) := Lib.hid SS.p.sxl
            have hsxb := SS.p.sxb
            generalize LV.getD k 0 = la at *
            generalize LV.getD z.toNat 0 = lb at *
            generalize z.toNat = iz at *
            subst ez
            have hdn : decide (k < iz) = true := decide_eq_true (by omega)
            have hi1 : (k : Int) < (LV.length : Int) := by omega
            have hi2 : (iz : Int) < (LV.length : Int) := by omega
            have hi3 : (k : Int) < (M.length : Int) := by omega
            subst hBm
            simp only [Option.map_some] at ca cb
            have HSX : Hid (∀ wx : World, Below wr.heap.size wr wx → wx.cell? ⟨gl, k, none⟩ = some (.int .i64 la) ∧ wx.cell? ⟨bM, offM + k, none⟩ = some (.int .i64 iz) ∧ wx.cell? ⟨gl, iz, none⟩ = some (.int .i64 lb)) := Lib.hid fun wx hx => ⟨(hx.cell (p := ⟨gl, k, none⟩) (by show gl < _; omega)).trans ca, (hx.cell (p := ⟨bM, offM + k, none⟩) (by show bM < _; have := HBI.out.size; omega)).trans cm, (hx.cell (p := ⟨gl, iz, none⟩) (by show gl < _; omega)).trans cb⟩
            have hgl9 := hgf.l
            clear SS HYE HNO HAX hcM hz hinm HIZ hvl hd S2 hgf
            go_upto_region 26 with (fail)
            clear ca cb cm
            have FB_0 := Lib.hid (Below.refl wr.heap.size wr)
            have FX_0 := Lib.hid HS.out.p.box
            refine wp_region_held_drew (S := fun wx => wx.cell? ⟨gl, k, none⟩ = some (.int .i64 la) ∧ wx.cell? ⟨bM, offM + k, none⟩ = some (.int .i64 iz) ∧ wx.cell? ⟨gl, iz, none⟩ = some (.int .i64 lb)) (by kernel_rfl) (HSX.out _ (Below.refl _ _).drew) (fun hHeld => ?_)
            obtain ⟨wq1, hwq1⟩ : ∃ w', w' = wr.drew := ⟨_, rfl⟩
            rw [← hwq1] at hHeld ⊢
            have bq1 : Below wr.heap.size wr wq1 := by rw [hwq1]; exact (Below.refl _ _).drew
            clear hwq1
            have FB_q2 := Lib.hid ((FB_0.out).trans ((bq1).mono (FB_0.out).size))
            have FX_q3 := Lib.hid (((bq1).block _ (Array.getElem?_eq_some_iff.1 (FX_0.out)).1).trans (FX_0.out))
            clear FB_0 FX_0
            refine wpAnyH_take (i := 0) (v := ?vq4) rfl (by kernel_rfl) (by kernel_rfl) (by kernel_rfl) (fun _ _ _ h => h) (Or.inl ⟨by rfl, ?yq4⟩) (by assumption) ?_
            case yq4 => (intro w hSw; (try dsimp only at hSw); go_simp; all_goals (with_reducible rfl))
            (try simp only [Act.put, List.setIfInBounds_toArray, List.set_cons_zero, List.set_cons_succ, List.getElem_toArray, List.getElem_cons_succ, List.getElem_cons_zero])
            refine wpAnyH_take (i := 2) (v := ?vq5) rfl (by kernel_rfl) (by kernel_rfl) (by kernel_rfl) (fun _ _ _ h => h) (Or.inl ⟨by rfl, ?yq5⟩) (by assumption) ?_
            case yq5 => (intro w hSw; (try dsimp only at hSw); go_simp; all_goals (with_reducible rfl))
            (try simp only [Act.put, List.setIfInBounds_toArray, List.set_cons_zero, List.set_cons_succ, List.getElem_toArray, List.getElem_cons_succ, List.getElem_cons_zero])
            refine wpAnyH_take (i := 3) (v := ?vq6) rfl (by kernel_rfl) (by kernel_rfl) (by kernel_rfl) (fun _ _ _ h => h) (Or.inl ⟨by rfl, ?yq6⟩) (by assumption) ?_
            case yq6 => (intro w hSw; (try dsimp only at hSw); go_simp; all_goals (with_reducible rfl))
            (try simp only [Act.put, List.setIfInBounds_toArray, List.set_cons_zero, List.set_cons_succ, List.getElem_toArray, List.getElem_cons_succ, List.getElem_cons_zero])
            refine wpAnyH_take (i := 6) (v := ?vq7) rfl (by kernel_rfl) (by kernel_rfl) (by kernel_rfl) (fun _ _ _ h => h) (Or.inl ⟨by rfl, ?yq7⟩) (by assumption) ?_
            case yq7 => (intro w hSw; (try dsimp only at hSw); go_simp; all_goals (with_reducible rfl))
            (try simp only [Act.put, List.setIfInBounds_toArray, List.set_cons_zero, List.set_cons_succ, List.getElem_toArray, List.getElem_cons_succ, List.getElem_cons_zero])
            refine wpAnyH_take (i := 7) (v := ?vq8) rfl (by kernel_rfl) (by kernel_rfl) (by kernel_rfl) (fun _ _ _ h => h) (Or.inl ⟨by rfl, ?yq8⟩) (by assumption) ?_
            case yq8 => (intro w hSw; (try dsimp only at hSw); go_simp; all_goals (with_reducible rfl))
            (try simp only [Act.put, List.setIfInBounds_toArray, List.set_cons_zero, List.set_cons_succ, List.getElem_toArray, List.getElem_cons_succ, List.getElem_cons_zero])
            refine wpAnyH_take (i := 8) (v := ?vq9) rfl (by kernel_rfl) (by kernel_rfl) (by kernel_rfl) (fun _ _ _ h => h) (Or.inl ⟨by rfl, ?yq9⟩) (by assumption) ?_
            case yq9 => (intro w hSw; (try dsimp only at hSw); go_simp; all_goals (with_reducible rfl))
            (try simp only [Act.put, List.setIfInBounds_toArray, List.set_cons_zero, List.set_cons_succ, List.getElem_toArray, List.getElem_cons_succ, List.getElem_cons_zero])
            refine wpAnyH_take (i := 4) (v := ?vq10) rfl (by kernel_rfl) (by kernel_rfl) (by kernel_rfl) (fun _ _ _ h => h) (Or.inl ⟨by rfl, ?yq10⟩) (by assumption) ?_
            case yq10 => (intro w hSw; (try dsimp only at hSw); go_simp; all_goals (with_reducible rfl))
            (try simp only [Act.put, List.setIfInBounds_toArray, List.set_cons_zero, List.set_cons_succ, List.getElem_toArray, List.getElem_cons_succ, List.getElem_cons_zero])
            refine wpAnyH_take (i := 9) (v := ?vq11) rfl (by kernel_rfl) (by kernel_rfl) (by kernel_rfl) (fun _ _ _ h => h) (Or.inl ⟨by rfl, ?yq11⟩) (by assumption) ?_
            case yq11 => (intro w hSw; (try dsimp only at hSw); go_simp; all_goals (with_reducible rfl))
            (try simp only [Act.put, List.setIfInBounds_toArray, List.set_cons_zero, List.set_cons_succ, List.getElem_toArray, List.getElem_cons_succ, List.getElem_cons_zero])
            refine wpAnyH_take (i := 5) (v := ?vq12) rfl (by kernel_rfl) (by kernel_rfl) (by kernel_rfl) (fun _ _ _ h => h) (Or.inl ⟨by rfl, ?yq12⟩) (by assumption) ?_
            case yq12 => (intro w hSw; (try dsimp only at hSw); go_simp; all_goals (with_reducible rfl))
            (try simp only [Act.put, List.setIfInBounds_toArray, List.set_cons_zero, List.set_cons_succ, List.getElem_toArray, List.getElem_cons_succ, List.getElem_cons_zero])
            refine wpAnyH_take (i := 10) (v := ?vq13) rfl (by kernel_rfl) (by kernel_rfl) (by kernel_rfl) (fun _ _ _ h => h) (Or.inl ⟨by rfl, ?yq13⟩) (by assumption) ?_
            case yq13 => (intro w hSw; (try dsimp only at hSw); go_simp; all_goals (with_reducible rfl))
            (try simp only [Act.put, List.setIfInBounds_toArray, List.set_cons_zero, List.set_cons_succ, List.getElem_toArray, List.getElem_cons_succ, List.getElem_cons_zero])
            refine wpAnyH_take (i := 11) (v := ?vq14) rfl (by kernel_rfl) (by kernel_rfl) (by kernel_rfl) (fun _ _ _ h => h) (Or.inl ⟨by rfl, ?yq14⟩) (by assumption) ?_
            case yq14 => (intro w hSw; (try dsimp only at hSw); go_simp; all_goals (with_reducible rfl))
            (try simp only [Act.put, List.setIfInBounds_toArray, List.set_cons_zero, List.set_cons_succ, List.getElem_toArray, List.getElem_cons_succ, List.getElem_cons_zero])
            refine wpAnyH_take (i := 12) (v := ?vq15) rfl (by kernel_rfl) (by kernel_rfl) (by kernel_rfl) (fun _ _ _ h => h) (Or.inl ⟨by rfl, ?yq15⟩) (by assumption) ?_
            case yq15 => (intro w hSw; (try dsimp only at hSw); go_simp; all_goals (with_reducible rfl))
            (try simp only [Act.put, List.setIfInBounds_toArray, List.set_cons_zero, List.set_cons_succ, List.getElem_toArray, List.getElem_cons_succ, List.getElem_cons_zero])
            refine wpAnyH_take (i := 13) (v := ?vq16) rfl (by kernel_rfl) (by kernel_rfl) (by kernel_rfl) (fun _ _ _ h => h) (Or.inl ⟨by rfl, ?yq16⟩) (by assumption) ?_
            case yq16 => (intro w hSw; (try dsimp only at hSw); go_simp; all_goals (with_reducible rfl))
            (try simp only [Act.put, List.setIfInBounds_toArray, List.set_cons_zero, List.set_cons_succ, List.getElem_toArray, List.getElem_cons_succ, List.getElem_cons_zero])
            refine wpAnyH_ready (rs := [1, 14]) (by kernel_rfl) (by simp) ?_
            refine AllReadyH.cons rfl (fun K hK => ?_) ?_
            · obtain ⟨q0, q1, q2⟩ := three_cells FX_q3.out
              go_simp
              clear q0 q1 q2
              refine hK.out _ _ (hHeld) (fun hHeld => ?_)
              clear hK K
              (try simp only [Act.put, List.setIfInBounds_toArray, List.set_cons_zero, List.set_cons_succ, List.getElem_toArray, List.getElem_cons_succ, List.getElem_cons_zero])
              refine wpAnyH_ready (rs := [14]) (by kernel_rfl) (by simp) ?_
              refine AllReadyH.cons rfl (fun K hK => ?_) ?_
              · go_simp
                have FBU := FB_q2
                obtain ⟨wq17, hwq17⟩ : ∃ w', w' = wq1.alloc (.cells #[.int .i64 1, .int .i64 la, .int .i64 lb, .int .i64 0] 71) := ⟨_, rfl⟩
                rw [← hwq17]
                have bq17 : Below wq1.heap.size wq1 wq17 := by rw [hwq17]; exact (Below.refl _ _).alloc (Nat.le_refl _) _
                have HW9 := Lib.hid hwq17
                clear hwq17
                have FB_q18 := Lib.hid ((FB_q2.out).trans ((bq17).mono (FB_q2.out).size))
                have FX_q19 := Lib.hid (((bq17).block _ (Array.getElem?_eq_some_iff.1 (FX_q3.out)).1).trans (FX_q3.out))
                clear FB_q2 FX_q3
                clear bq17
                refine hK.out _ _ (HSX.out _ FB_q18.out) (fun hHeld => ?_)
                clear hK K
                (try simp only [Act.put, List.setIfInBounds_toArray, List.set_cons_zero, List.set_cons_succ, List.getElem_toArray, List.getElem_cons_succ, List.getElem_cons_zero])
                refine wpAnyH_ready (rs := [15]) (by kernel_rfl) (by simp) ?_
                refine AllReadyH.cons rfl (fun K hK => ?_) ?_
                · have OW := Lib.hid (own_below HS.out.p.own.l FB_q18.out (Nat.le_refl _))
                  have hz9 := FB_q18.out.size
                  obtain ⟨H8, hH8⟩ : ∃ q, wq17.heap.size = q := ⟨_, rfl⟩
                  have HN9 := Lib.hid (four_newW wq1 (.int .i64 1) (.int .i64 la) (.int .i64 lb) (.int .i64 0) 71)
                  rw [← HW9.out] at HN9
                  refine step_append_lies _ rfl _ _ 29 rfl u1.heap.size 71 i5 (.agg #[.int .i64 0, .int .i64 0, .int .i64 0, .int .i64 0]) 4 32 Tryd.underlying29 HI5.out HZ50.out HZ51.out HZ52.out rfl (by decide) _ _ _ rfl OW.out ⟨wq1.heap.size, 0, none⟩ 1 1 [.int .i64 1, .int .i64 la, .int .i64 lb, .int .i64 0] rfl rfl HN9.out (by intro u hu; simp at hu; rcases hu with rfl | rfl | rfl | rfl <;> rfl) (by decide) (by simp only [maxLen]; (try dsimp only); omega) (by (try dsimp only); omega) (by omega) H8 hH8 ?_
                  intro g9 cap9 w9 hown9 hgrow9 hat9 hlt9
                  have O9 : w9.ownsRow u1.heap.size 71 4 (.slice (some ⟨g9, 0, none⟩) (axU LV M (k + 1)).length cap9) (axU LV M (k + 1)).length ((flL (axU LV M (k + 1))).map (Value.int .i64)) := by rw [HLS.out, HSU.out, flL_appw, List.map_append]; exact hown9
                  have p9 := HS.out.p.pushL FB_q18.out O9 hgrow9 (hat9.imp (fun e => e.symm) (fun e => congrArg some (e.trans hH8.symm)))
                  rw [HLS.out] at p9
                  have hx9 := (hgrow9.block sx (Nat.lt_of_lt_of_le HSXL.out FB_q18.out.size) (fun e2 => (HS.out.p.far sx HS.out.p.sxl HS.out.p.sxf).l e2.symm)).trans ((FB_q18.out.block sx HSXL.out).trans HS.out.p.box)
                  have HB9 := Lib.hid (((HBI.out.trans (FB_q18.out.mono HBI.out.size))).grown hgrow9 (by have := HBI.out.size; omega) (fun q hq => Nat.le_trans hs1 (HS.out.p.own.l.lt q hq).1))
                  have hsw := HSX.out _ FB_q18.out
                  have HC9 := Lib.hid (And.intro ((World.cell?_of_block (a := ⟨gl, k, none⟩) (hgrow9.block gl (by omega) (fun e => hgl9 e.symm))).trans hsw.1) (And.intro ((World.cell?_of_block (a := ⟨bM, offM + k, none⟩) (hgrow9.block bM (by omega) (fun e => by have := (HS.out.p.own.l.lt bM e.symm).1; omega))).trans hsw.2.1) ((World.cell?_of_block (a := ⟨gl, iz, none⟩) (hgrow9.block gl (by omega) (fun e => hgl9 e.symm))).trans hsw.2.2)))
                  have S9 := Lib.hid (HS.out.net p9)
                  have HX9 := Lib.hid hx9
                  clear p9 hx9 hown9 hgrow9 hat9 hlt9 hH8 OW O9 hsw
                  refine hK.out _ _ (HC9.out) (fun hHeld => ?_)
                  clear hK K
                  (try simp only [Act.put, List.setIfInBounds_toArray, List.set_cons_zero, List.set_cons_succ, List.getElem_toArray, List.getElem_cons_succ, List.getElem_cons_zero])
                  refine wpAnyH_take (i := 16) (v := ?vq20) rfl (by kernel_rfl) (by kernel_rfl) (by kernel_rfl) (fun _ _ _ h => h) (Or.inl ⟨by rfl, ?yq20⟩) (by assumption) ?_
                  case yq20 => (intro w hSw; (try dsimp only at hSw); go_simp; all_goals (with_reducible rfl))
                  (try simp only [Act.put, List.setIfInBounds_toArray, List.set_cons_zero, List.set_cons_succ, List.getElem_toArray, List.getElem_cons_succ, List.getElem_cons_zero])
                  refine wpAnyH_ready (rs := [17]) (by kernel_rfl) (by simp) ?_
                  refine AllReadyH.cons rfl (fun K hK => ?_) ?_
                  · obtain ⟨a0, a1, a2⟩ := three_cells HX9.out
                    have f0 := frozen_of_row _ _ 0 _ _ HX9.out; have f1 := frozen_of_row _ _ 1 _ _ HX9.out; have f2 := frozen_of_row _ _ 2 _ _ HX9.out
                    go_simp
                    clear a0 a1 a2 f0 f1 f2
                    refine hK.out _ _ (⟨(World.cell?_setCell_other _ _ _ _ (fun e => by injection e with e1 e2 e3; omega)).trans HC9.out.1, (World.cell?_setCell_other _ _ _ _ (fun e => by injection e with e1 e2 e3; omega)).trans HC9.out.2.1, (World.cell?_setCell_other _ _ _ _ (fun e => by injection e with e1 e2 e3; omega)).trans HC9.out.2.2⟩) (fun hHeld => ?_)
                    clear hK K
                    (try simp only [Act.put, List.setIfInBounds_toArray, List.set_cons_zero, List.set_cons_succ, List.getElem_toArray, List.getElem_cons_succ, List.getElem_cons_zero])
                    refine wpAnyH_done (by kernel_rfl) ?_ _
                    go_wp2
                    go_roundw
                    case rel => exact ⟨k + 1, by omega, by go_num, _, S9.out⟩
                    case measure => simp [intOf]; omega
                  exact AllReadyH.nil
                exact AllReadyH.nil
              exact AllReadyH.nil
            refine AllReadyH.cons rfl (fun K hK => ?_) ?_
            · go_simp
              have FBU := FB_q2
              obtain ⟨wq21, hwq21⟩ : ∃ w', w' = wq1.alloc (.cells #[.int .i64 1, .int .i64 la, .int .i64 lb, .int .i64 0] 71) := ⟨_, rfl⟩
              rw [← hwq21]
              have bq21 : Below wq1.heap.size wq1 wq21 := by rw [hwq21]; exact (Below.refl _ _).alloc (Nat.le_refl _) _
              have HW9 := Lib.hid hwq21
              clear hwq21
              have FB_q22 := Lib.hid ((FB_q2.out).trans ((bq21).mono (FB_q2.out).size))
              have FX_q23 := Lib.hid (((bq21).block _ (Array.getElem?_eq_some_iff.1 (FX_q3.out)).1).trans (FX_q3.out))
              clear FB_q2 FX_q3
              clear bq21
              refine hK.out _ _ (HSX.out _ FB_q22.out) (fun hHeld => ?_)
              clear hK K
              (try simp only [Act.put, List.setIfInBounds_toArray, List.set_cons_zero, List.set_cons_succ, List.getElem_toArray, List.getElem_cons_succ, List.getElem_cons_zero])
              refine wpAnyH_ready (rs := [1]) (by kernel_rfl) (by simp) ?_
              refine AllReadyH.cons rfl (fun K hK => ?_) ?_
              · obtain ⟨q0, q1, q2⟩ := three_cells FX_q23.out
                go_simp
                clear q0 q1 q2
                refine hK.out _ _ (hHeld) (fun hHeld => ?_)
                clear hK K
                (try simp only [Act.put, List.setIfInBounds_toArray, List.set_cons_zero, List.set_cons_succ, List.getElem_toArray, List.getElem_cons_succ, List.getElem_cons_zero])
                refine wpAnyH_ready (rs := [15]) (by kernel_rfl) (by simp) ?_
                refine AllReadyH.cons rfl (fun K hK => ?_) ?_
                · have OW := Lib.hid (own_below HS.out.p.own.l FB_q22.out (Nat.le_refl _))
                  have hz9 := FB_q22.out.size
                  obtain ⟨H8, hH8⟩ : ∃ q, wq21.heap.size = q := ⟨_, rfl⟩
                  have HN9 := Lib.hid (four_newW wq1 (.int .i64 1) (.int .i64 la) (.int .i64 lb) (.int .i64 0) 71)
                  rw [← HW9.out] at HN9
                  refine step_append_lies _ rfl _ _ 29 rfl u1.heap.size 71 i5 (.agg #[.int .i64 0, .int .i64 0, .int .i64 0, .int .i64 0]) 4 32 Tryd.underlying29 HI5.out HZ50.out HZ51.out HZ52.out rfl (by decide) _ _ _ rfl OW.out ⟨wq1.heap.size, 0, none⟩ 1 1 [.int .i64 1, .int .i64 la, .int .i64 lb, .int .i64 0] rfl rfl HN9.out (by intro u hu; simp at hu; rcases hu with rfl | rfl | rfl | rfl <;> rfl) (by decide) (by simp only [maxLen]; (try dsimp only); omega) (by (try dsimp only); omega) (by omega) H8 hH8 ?_
                  intro g9 cap9 w9 hown9 hgrow9 hat9 hlt9
                  have O9 : w9.ownsRow u1.heap.size 71 4 (.slice (some ⟨g9, 0, none⟩) (axU LV M (k + 1)).length cap9) (axU LV M (k + 1)).length ((flL (axU LV M (k + 1))).map (Value.int .i64)) := by rw [HLS.out, HSU.out, flL_appw, List.map_append]; exact hown9
                  have p9 := HS.out.p.pushL FB_q22.out O9 hgrow9 (hat9.imp (fun e => e.symm) (fun e => congrArg some (e.trans hH8.symm)))
                  rw [HLS.out] at p9
                  have hx9 := (hgrow9.block sx (Nat.lt_of_lt_of_le HSXL.out FB_q22.out.size) (fun e2 => (HS.out.p.far sx HS.out.p.sxl HS.out.p.sxf).l e2.symm)).trans ((FB_q22.out.block sx HSXL.out).trans HS.out.p.box)
                  have HB9 := Lib.hid (((HBI.out.trans (FB_q22.out.mono HBI.out.size))).grown hgrow9 (by have := HBI.out.size; omega) (fun q hq => Nat.le_trans hs1 (HS.out.p.own.l.lt q hq).1))
                  have hsw := HSX.out _ FB_q22.out
                  have HC9 := Lib.hid (And.intro ((World.cell?_of_block (a := ⟨gl, k, none⟩) (hgrow9.block gl (by omega) (fun e => hgl9 e.symm))).trans hsw.1) (And.intro ((World.cell?_of_block (a := ⟨bM, offM + k, none⟩) (hgrow9.block bM (by omega) (fun e => by have := (HS.out.p.own.l.lt bM e.symm).1; omega))).trans hsw.2.1) ((World.cell?_of_block (a := ⟨gl, iz, none⟩) (hgrow9.block gl (by omega) (fun e => hgl9 e.symm))).trans hsw.2.2)))
                  have S9 := Lib.hid (HS.out.net p9)
                  have HX9 := Lib.hid hx9
                  clear p9 hx9 hown9 hgrow9 hat9 hlt9 hH8 OW O9 hsw
                  refine hK.out _ _ (HC9.out) (fun hHeld => ?_)
                  clear hK K
                  (try simp only [Act.put, List.setIfInBounds_toArray, List.set_cons_zero, List.set_cons_succ, List.getElem_toArray, List.getElem_cons_succ, List.getElem_cons_zero])
                  refine wpAnyH_take (i := 16) (v := ?vq24) rfl (by kernel_rfl) (by kernel_rfl) (by kernel_rfl) (fun _ _ _ h => h) (Or.inl ⟨by rfl, ?yq24⟩) (by assumption) ?_
                  case yq24 => (intro w hSw; (try dsimp only at hSw); go_simp; all_goals (with_reducible rfl))
                  (try simp only [Act.put, List.setIfInBounds_toArray, List.set_cons_zero, List.set_cons_succ, List.getElem_toArray, List.getElem_cons_succ, List.getElem_cons_zero])
                  refine wpAnyH_ready (rs := [17]) (by kernel_rfl) (by simp) ?_
                  refine AllReadyH.cons rfl (fun K hK => ?_) ?_
                  · obtain ⟨a0, a1, a2⟩ := three_cells HX9.out
                    have f0 := frozen_of_row _ _ 0 _ _ HX9.out; have f1 := frozen_of_row _ _ 1 _ _ HX9.out; have f2 := frozen_of_row _ _ 2 _ _ HX9.out
                    go_simp
                    clear a0 a1 a2 f0 f1 f2
                    refine hK.out _ _ (⟨(World.cell?_setCell_other _ _ _ _ (fun e => by injection e with e1 e2 e3; omega)).trans HC9.out.1, (World.cell?_setCell_other _ _ _ _ (fun e => by injection e with e1 e2 e3; omega)).trans HC9.out.2.1, (World.cell?_setCell_other _ _ _ _ (fun e => by injection e with e1 e2 e3; omega)).trans HC9.out.2.2⟩) (fun hHeld => ?_)
                    clear hK K
                    (try simp only [Act.put, List.setIfInBounds_toArray, List.set_cons_zero, List.set_cons_succ, List.getElem_toArray, List.getElem_cons_succ, List.getElem_cons_zero])
                    refine wpAnyH_done (by kernel_rfl) ?_ _
                    go_wp2
                    go_roundw
                    case rel => exact ⟨k + 1, by omega, by go_num, _, S9.out⟩
                    case measure => simp [intOf]; omega
                  exact AllReadyH.nil
                exact AllReadyH.nil
              exact AllReadyH.nil
            exact AllReadyH.nil
          · have hdd : decide ((k : Int) < z) = false := decide_eq_false hd
            have HSU := Lib.hid (show axU LV M (k + 1) = axU LV M k from HNO.out hdd)
            have HS := Lib.hid SS
            clear SS HYE HNO HAX hz hinm HIZ hd S2
            have hi3 : (k : Int) < (M.length : Int) := by omega
            subst hBm
            go_wp2
            go_roundw
            case rel => exact ⟨k + 1, by omega, by go_num, _, by rw [HSU.out]; exact HS.out⟩
            case measure => simp [intOf]; omega
        · have hkm : k = M.length := by omega
          subst hkm
          clear S2
          have hna : (axU LV M M.length).length ≤ 60 := Nat.le_trans (fltU_len _ _ _) (by omega)
          have hbx := SS.p.box
          obtain ⟨x0, x1, x2⟩ := three_cells hbx
          have fr0 := frozen_of_row _ _ 0 _ _ hbx; have fr1 := frozen_of_row _ _ 1 _ _ hbx; have fr2 := frozen_of_row _ _ 2 _ _ hbx
          have HS := Lib.hid SS
          clear SS hbx
          dsimp only at x0 x1 x2
          obtain ⟨na, hnaE⟩ : ∃ n, (axU LV M M.length).length = n := ⟨_, rfl⟩
          have hAXE : axW LV M = axU LV M M.length := rfl
          rw [hAXE] at HX HSM HLD
          obtain ⟨AX, hAX⟩ : ∃ A, axU LV M M.length = A := ⟨_, rfl⟩
          rw [hAX] at HX HSM HLD HS hna x1
          clear hnaE hAXE hAX ax
          have o8 := HS.out.jo
          obtain ⟨L9, d9, w9, hrun, p9, hx9⟩ := HS.out.p.pushRowL o8 (by show AX.length + JO.length ≤ 1048576; omega)
          dsimp only at hrun p9
          obtain ⟨R, hR⟩ : ∃ R, AX ++ JO = R := ⟨_, rfl⟩
          rw [hR] at hrun p9 HX HSM HLD
          have HRUN := Lib.hid hrun
          clear hrun hR
          have HP9 := Lib.hid p9
          have HX9 := Lib.hid (hx9.trans HS.out.p.box)
          have gx9 := HX9.out
          obtain ⟨z0, z1, z2⟩ := three_cells gx9
          have g0 := frozen_of_row _ _ 0 _ _ gx9; have g1 := frozen_of_row _ _ 1 _ _ gx9; have g2 := frozen_of_row _ _ 2 _ _ gx9
          obtain ⟨wf, hwf⟩ : ∃ u, u = w9.setCell ⟨sx, 1, none⟩ (.slice L9 R.length d9) := ⟨_, rfl⟩
          rw [← hwf] at HP9
          have HWF := Lib.hid hwf
          clear p9 hx9 gx9 hwf fr0 fr1 fr2
          go_upto_region 28 with (at_builtin; refine wpList_append_eqn rfl _ _ _ rfl _ _ rfl rfl HRUN.out ?_)
          rw [← HWF.out]
          clear z0 z1 z2 g0 g1 g2 x0 x1 x2
          have HBX := Lib.hid HP9.out.box
          obtain ⟨x0, x1, x2⟩ := three_cells HBX.out
          dsimp only at x0 x1 x2
          have smw := HSM.out.w; have sml := HSM.out.l; have smc := HSM.out.c
          dsimp only at smw sml smc
          have BF : Hid (Below w0.heap.size w0 wf) := Lib.hid (B1.out.trans (HP9.out.bel.mono B1.out.size))
          have HVN := Lib.hid (sValidNet_any ⟨h3.A, h3.c, h3.hs, L9, d9, h3.C, h3.e⟩ ⟨W, R, CS⟩ wf HP9.out.own.rd smw sml smc)
          rw [HX.out] at HVN
          dsimp only at HVN
          go_wp2_with (fail)
          refine HVN.out.mono ?_
          rintro e w11 ⟨rfl, bel⟩
          have B11 := Lib.hid (BF.out.trans (bel.mono BF.out.size))
          have HBX2 := Lib.hid ((bel.block sx (Nat.lt_of_lt_of_le HP9.out.sxl HP9.out.size)).trans HBX.out)
          have O11 : Hid (OwnN w11 w0.heap.size w11.heap.size ⟨h3.A, h3.c, h3.hs, L9, d9, h3.C, h3.e⟩ ⟨W, R, CS⟩) := Lib.hid (((HP9.out.own.below bel).more (Nat.le_refl _) bel.size).more hs1 (Nat.le_refl _))
          have N11 := Lib.hid (OwnN.nil w11 w0.heap.size w11.heap.size)
          clear bel x0 x1 x2
          cases bb with
          | false =>
            have q1 := HK2.out _ B11.out
            obtain ⟨a0, a1, a2⟩ := three_cells q1
            have f0 := frozen_of_row _ _ 0 _ _ q1; have f1 := frozen_of_row _ _ 1 _ _ q1; have f2 := frozen_of_row _ _ 2 _ _ q1
            have Q1 := Lib.hid q1
            clear q1
            go_wp2
            (try simp only [Exit.inBlock, Exit.then])
            refine bodyPost_ret (results_cell_row_tmp rfl _ _ (w.heap.size + 1) _ _ (0, 0) _ rfl (set3_at Q1.out _ _ _) Tryd.underlying31 rfl (by kernel_rfl)) rfl ?_
            exact givesNB_of (ldDone HB0.out B11.out N11.out hs0)
          | true =>
            obtain ⟨x0, x1, x2⟩ := three_cells HBX2.out
            have hgoal : ∀ e w', GivesNB w ⟨W, R, CS⟩ true e w' → GivesNB w (pickL true (ldN qs M)) true e w' := fun e w' q => by
              show GivesNB w (ldN qs M) true e w'
              rw [HLD.out]; exact q
            have q1 := HK2.out _ B11.out
            obtain ⟨a0, a1, a2⟩ := three_cells q1
            have f0 := frozen_of_row _ _ 0 _ _ q1; have f1 := frozen_of_row _ _ 1 _ _ q1; have f2 := frozen_of_row _ _ 2 _ _ q1
            have Q1 := Lib.hid q1
            clear q1
            go_wp2
            (try simp only [Exit.inBlock, Exit.then])
            refine bodyPost_ret (results_cell_row_tmp rfl _ _ (w.heap.size + 1) _ _ (0, 0) _ rfl (set3_at Q1.out _ _ _) Tryd.underlying31 rfl (by kernel_rfl)) rfl ?_
            exact hgoal _ _ (givesNB_of (ldDone HB0.out B11.out O11.out hs0))
theorem sLinkedNet_any (A B : Option Addr) (n c m d : Nat) (qs : List (List Int)) (M : List Int) (w : World) (h : RdQ w w.heap.size A n qs) (hM : RdI w w.heap.size B m M) (hn : n ≤ 1048576) (hnc : n ≤ c) (hm : m ≤ 1048576) :
    Calls Tryd.prog 22 #[.agg #[.slice A n c], .slice B m d] w (GivesNB w (ldV qs M) (ldB qs M)) := by
  cases hv : imB qs M with
  | false =>
    have e : ldB qs M = false := by unfold ldB; rw [hv]; rfl
    have e2 : ldV qs M = Nt.nil := by unfold ldV; rw [e]; rfl
    rw [e, e2]
    exact sld_no A B n c m d qs M w h hM hn hnc hm hv
  | true =>
    have e : ldB qs M = valN (ldN qs M) := by unfold ldB; rw [hv]; rfl
    have e2 : ldV qs M = pickL (valN (ldN qs M)) (ldN qs M) := by unfold ldV pickL; rw [e]
    rw [e, e2]
    exact sld_ok A B n c m d qs M w h hM hn hnc hm hv _ rfl
end Go.Proofs.YtfanapddopafiaaDoor
