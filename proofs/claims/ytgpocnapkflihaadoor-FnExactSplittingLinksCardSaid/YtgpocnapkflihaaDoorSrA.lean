/- The model: terminal links. -/
import Derived.Test.YtgpocnapkflihaaDoorSqC
import Derived.Test.YtgpocnapkflihaaDoorSmF
import Derived.Deep.RegionHeldLaw
import Derived.Deep.DeepCutAuto
import Derived.BigQuiet
namespace Go.Proofs.YtgpocnapkflihaaDoor
set_option linter.unusedSimpArgs false
set_option linter.unusedVariables false
open Go.ChangeAt Go.ChangeShapes Go.RowKit Go.WideShapes

theorem from_lxQ {N : Nt} (hv : valN N = true) (x : Int) : firstN (srcB x) N.l = lxN outL N x := first_ext fun l hl => srcB_is (fitsN_kind ((List.all_eq_true.1 (valN_fits hv)) l hl))
theorem to_lxQ {N : Nt} (x : Int) : firstN (tgtB x) N.l = lxN inL N x := first_ext fun l _ => tgtB_is l x
theorem tm_is {N : Nt} (hv : valN N = true) {k : Nat} (hk : k < N.l.length) : tmB N k = (outL (N.l.getD k Lk.nil)).all fun x => decide (lxN inL N x < 0) := by
  unfold tmB
  have h : ∀ x ∈ outL (N.l.getD k Lk.nil), N.c.contains x = decide (lxN inL N x < 0) := fun x hx => by
    rw [concl_is hv (out_in hv hk hx)]
    have := (lxN_q inL N x).1
    rw [Bool.eq_iff_iff, decide_eq_true_eq, decide_eq_true_eq]; omega
  generalize outL (N.l.getD k Lk.nil) = X at *
  induction X with
  | nil => rfl
  | cons x X ih => rw [List.all_cons, List.all_cons, h x (by simp), ih fun y hy => h y (by simp [hy])]
set_option maxRecDepth 100000 in
set_option maxHeartbeats 800000 in
theorem sTerminal_any (h : NH) (N : Nt) (k : Nat) (w : World) (hv : valN N = true) (r : RdN w w.heap.size h N) (hk : k < N.l.length) :
    Calls Tryd.prog 36 #[.agg #[.slice h.A N.w.length h.c, .slice h.L N.l.length h.d, .slice h.C N.c.length h.e], .int .i64 k] w fun e w' => e = .returned (.bool (tmB N k)) ∧ Below w.heap.size w w' := by
  obtain ⟨h48, h48l⟩ := valN_size hv
  obtain ⟨w0, hw0⟩ : ∃ w0, w0 = w.alloc (.cells #[.slice h.A N.w.length h.c, .slice h.L N.l.length h.d, .slice h.C N.c.length h.e] 31) := ⟨_, rfl⟩
  obtain ⟨hb, hh, hsz⟩ := box3_any w (.slice h.A N.w.length h.c) (.slice h.L N.l.length h.d) (.slice h.C N.c.length h.e) 31
  rw [← hw0] at hb hh hsz
  have HK := Lib.hid (fun (wx : World) (hw : Below w0.heap.size w0 wx) => three_cells ((hw.block w.heap.size (by omega)).trans hh))
  have HTO := Lib.hid (fun (x : Int) (wx : World) (hw : Below w0.heap.size w0 wx) => smTo_any h.A h.L h.C N.w.length h.c h.d N.c.length h.e N.l x wx ((r.2.1.below (hb.trans (hw.mono hb.size))).more (Nat.le_trans hb.size hw.size)) (by omega))
  have HB0 := Lib.hid hb
  obtain ⟨b, off, hLe, hbb, hcells⟩ := r.2.1.at (by omega)
  obtain ⟨l0, l1, l2, l3⟩ := hcells k hk
  have l0 := (hb.cell (p := ⟨b, off + k * 4, none⟩) hbb).trans l0
  have l1 := (hb.cell (p := ⟨b, off + k * 4 + 1, none⟩) hbb).trans l1
  have l2 := (hb.cell (p := ⟨b, off + k * 4 + 2, none⟩) hbb).trans l2
  have l3 := (hb.cell (p := ⟨b, off + k * 4 + 3, none⟩) hbb).trans l3
  obtain ⟨bl, z0, z1, z2, z3, zs⟩ := lnk_any w0 (N.l.getD k Lk.nil) 54
  obtain ⟨u2, hu2⟩ : ∃ u2, u2 = w0.alloc (.cells #[.int .i64 (N.l.getD k Lk.nil).k, .int .i64 (N.l.getD k Lk.nil).a, .int .i64 (N.l.getD k Lk.nil).b, .int .i64 (N.l.getD k Lk.nil).c] 54) := ⟨_, rfl⟩
  rw [← hu2] at bl z0 z1 z2 z3 zs
  have HBL := Lib.hid bl
  have hzl : w0.heap.size < u2.heap.size := by omega
  have HZK := Lib.hid (fun (wx : World) (hx : Below u2.heap.size u2 wx) => (hx.cell (p := ⟨w0.heap.size, 2, none⟩) hzl).trans z2)
  have HB2 : Hid (Below w.heap.size w u2) := Lib.hid (hb.trans (bl.mono hb.size))
  have hk2 : (k : Int) < (N.l.length : Int) := by omega
  obtain ⟨y0, y1, y2⟩ := three_cells hh
  have HTI := Lib.hid (tm_is hv hk)
  have hkd := fitsN_kind (link_fits hv hk)
  have HU2 := Lib.hid hu2
  rw [hLe] at y1
  clear hb hh hsz r hcells bl zs hv hLe
  generalize N.l.getD k Lk.nil = l at *
  obtain ⟨lk, la, lb, lc⟩ := l
  dsimp only at l0 l1 l2 l3 z0 z1 z2 z3 hkd HU2 hu2
  have HTA := Lib.hid (HTO.out la u2 HBL.out)
  rw [to_lxQ (N := N)] at HTA
  have HTB := Lib.hid (fun (wx : World) (hx : Below u2.heap.size u2 wx) => HTO.out lb wx (HBL.out.trans (hx.mono HBL.out.size)))
  rw [to_lxQ (N := N)] at HTB
  have HTC := Lib.hid (HTO.out lc u2 HBL.out)
  rw [to_lxQ (N := N)] at HTC
  have HKU := Lib.hid (fun (wx : World) (hx : Below u2.heap.size u2 wx) => HK.out wx (HBL.out.trans (hx.mono HBL.out.size)))
  obtain ⟨v0, v1, v2⟩ := HKU.out u2 (Below.refl _ _)
  by_cases h2 : lk = 2
  · subst h2
    have HE : Hid (true = tmB N k) := Lib.hid (by rw [HTI.out]; rfl)
    clear HTA HTB HTC hkd
    go_enter Tryd.func36, Tryd.ntmps36
    go_upto_region 1 with (fail)
    rw [← hw0]
    clear hw0
    go_upto_region 2 with (fail)
    rw [← HU2.out]
    clear hu2 y0 y1 y2 l0 l1 l2 l3
    go_wp2
    go_ret
    exact ⟨ret_bool HE.out, HB2.out⟩
  · by_cases h1 : lk = 1
    · subst h1
      have HE : Hid ((decide (lxN inL N la < 0) && decide (lxN inL N lb < 0)) = tmB N k) := Lib.hid (by rw [HTI.out]; simp [outL])
      have d2 : ((1 : Int) == 2) = false := by decide
      clear HTC hkd h2
      generalize lxN inL N la = p at *
      generalize lxN inL N lb = q at *
      go_enter Tryd.func36, Tryd.ntmps36
      go_upto_region 1 with (fail)
      rw [← hw0]
      clear hw0
      go_upto_region 2 with (fail)
      rw [← HU2.out]
      clear hu2 y0 y1 y2 l0 l1 l2 l3
      go_wp2_with (fail)
      refine HTA.out.mono ?_
      rintro e w3 ⟨rfl, bel3⟩
      have B3 := Lib.hid bel3
      clear bel3 z0 z1 z2 z3 v0 v1 v2
      have z2 := HZK.out w3 B3.out
      obtain ⟨v0, v1, v2⟩ := HKU.out w3 B3.out
      by_cases hp : p < 0
      · have d3 : decide (p < 0) = true := decide_eq_true hp
        have HE2 : Hid (decide (q < 0) = tmB N k) := Lib.hid (by rw [← HE.out, d3, Bool.true_and])
        clear hp
        go_wp2_with (fail)
        refine (HTB.out w3 B3.out).mono ?_
        rintro e w4 ⟨rfl, bel4⟩
        have B4 := Lib.hid (HB2.out.trans ((B3.out.trans (bel4.mono B3.out.size)).mono HB2.out.size))
        clear bel4 z2 v0 v1 v2
        go_wp2
        go_ret
        exact ⟨ret_bool HE2.out, B4.out⟩
      · have d3 : decide (p < 0) = false := decide_eq_false hp
        have HE2 : Hid (false = tmB N k) := Lib.hid (by rw [← HE.out, d3, Bool.false_and])
        have B4 := Lib.hid (HB2.out.trans (B3.out.mono HB2.out.size))
        clear hp z2
        go_wp2
        go_ret
        exact ⟨ret_bool HE2.out, B4.out⟩
    · have d2 : (lk == 2) = false := by simpa using h2
      have d1 : (lk == 1) = false := by simpa using h1
      have HE : Hid (decide (lxN inL N lc < 0) = tmB N k) := Lib.hid (by rw [HTI.out]; unfold outL; rw [if_neg h1, if_neg h2]; simp)
      clear HTA HTB h1 h2
      generalize lxN inL N lc = p at *
      go_enter Tryd.func36, Tryd.ntmps36
      go_upto_region 1 with (fail)
      rw [← hw0]
      clear hw0
      go_upto_region 2 with (fail)
      rw [← HU2.out]
      clear hu2 y0 y1 y2 l0 l1 l2 l3
      go_wp2_with (fail)
      refine HTC.out.mono ?_
      rintro e w3 ⟨rfl, bel3⟩
      have B3 := Lib.hid (HB2.out.trans (bel3.mono HB2.out.size))
      clear bel3 z0 z1 z2 z3 v0 v1 v2
      go_wp2
      go_ret
      exact ⟨ret_bool HE.out, B3.out⟩
set_option maxRecDepth 100000 in
set_option maxHeartbeats 800000 in
theorem sTerminalLinks_any (h : NH) (N : Nt) (w : World) (r : RdN w w.heap.size h N) (hn : N.w.length ≤ 1048576) (hl : N.l.length ≤ 1048576) (hc : N.c.length ≤ 1048576) :
    Calls Tryd.prog 12 #[.agg #[.slice h.A N.w.length h.c, .slice h.L N.l.length h.d, .slice h.C N.c.length h.e]] w (Gives w (tmV N)) := by
  obtain ⟨i0, hi0, hz0, hz1, hz2⟩ := info_parts info_i64
  have HI := Lib.hid hi0; have HZ0 := Lib.hid hz0; have HZ1 := Lib.hid hz1; have HZ2 := Lib.hid hz2
  obtain ⟨w1, hw1⟩ : ∃ w1, w1 = w.alloc (.cells #[.slice h.A N.w.length h.c, .slice h.L N.l.length h.d, .slice h.C N.c.length h.e] 31) := ⟨_, rfl⟩
  obtain ⟨hb, hh, hsz⟩ := box3_any w (.slice h.A N.w.length h.c) (.slice h.L N.l.length h.d) (.slice h.C N.c.length h.e) 31
  rw [← hw1] at hb hh hsz
  obtain ⟨w0, hw0⟩ : ∃ w0, w0 = w1.alloc (.cells #[] 2) := ⟨_, rfl⟩
  have hb1 : Below w1.heap.size w1 w0 := by rw [hw0]; exact (Below.refl _ _).alloc (Nat.le_refl _) _
  have hO0 : w0.ownsRow w1.heap.size 2 1 (.slice (some ⟨w1.heap.size, 0, none⟩) 0 0) 0 ((selU (tmB N) 0).map (Value.int .i64)) := by rw [hw0]; exact World.ownsRow_made w1 #[] 0 (Nat.le_refl _) (by simp [maxLen]) rfl
  have hbb := hb.trans (hb1.mono hb.size)
  have HK := Lib.hid (fun (wx : World) (hw : Below w1.heap.size w1 wx) => three_cells ((hw.block w.heap.size (by omega)).trans hh))
  have HR := Lib.hid (fun (wx : World) (hw : Below w1.heap.size w1 wx) => show RdN wx wx.heap.size h N from (r.below (hb.trans (hw.mono hb.size))).more (Nat.le_trans hb.size hw.size))
  have HB0 := Lib.hid hb
  have HB1 := Lib.hid hb1
  have HO0 := Lib.hid hO0
  have HV := Lib.hid (sValidNet_any h N w0 ((r.below hbb).more hbb.size) hn hl hc)
  have HW1 := Lib.hid hw1; have HW0 := Lib.hid hw0; have HSZ := Lib.hid hsz
  obtain ⟨y0, y1, y2⟩ := HK.out w0 hb1
  clear hb hh hsz r hbb hb1 hO0 hi0 hz0 hz1 hz2 hc
  cases hv : valN N with
  | false =>
    rw [hv] at HV
    have HVV : Hid (tmV N = []) := Lib.hid (if_neg (by rw [hv]; decide))
    clear hv
    go_enter Tryd.func12, Tryd.ntmps12
    go_upto_region 2 with (fail)
    rw [← HW1.out, ← HW0.out]
    clear hw1 hw0
    go_wp2_with (fail)
    refine HV.out.mono ?_
    rintro e w2 ⟨rfl, bel2⟩
    have HG : Hid (Gives w (tmV N) (.returned (.slice (some ⟨w1.heap.size, 0, none⟩) 0 0)) w2) := Lib.hid (by
      rw [HVV.out]
      exact ⟨_, 0, rfl, (own_below HO0.out bel2 (Nat.le_refl _)).mono HB0.out.size, HB0.out.trans ((HB1.out.trans (bel2.mono HB1.out.size)).mono HB0.out.size)⟩)
    clear bel2 y0 y1 y2
    go_wp2
    go_ret
    first
      | exact HG.out
      | (rw [← HSZ.out]; exact HG.out)
  | true =>
    rw [hv] at HV
    have h48 := (valN_size hv).2
    have HVV : Hid (tmV N = selU (tmB N) N.l.length) := Lib.hid (if_pos hv)
    have HT := Lib.hid (fun (k : Nat) (hk : k < N.l.length) (wx : World) (hx : Below w1.heap.size w1 wx) => sTerminal_any h N k wx hv (HR.out wx hx) hk)
    clear hv
    go_enter Tryd.func12, Tryd.ntmps12
    go_upto_region 2 with (fail)
    rw [← HW1.out, ← HW0.out]
    clear hw1 hw0
    go_wp2_with (fail)
    refine HV.out.mono ?_
    rintro e w2 ⟨rfl, bel2⟩
    have B2 := Lib.hid (HB1.out.trans (bel2.mono HB1.out.size))
    have O2 := Lib.hid (own_below HO0.out bel2 (Nat.le_refl _))
    clear bel2 y0 y1 y2
    (try rw [← HSZ.out])
    go_wp2
    go_loopw [3, 4] (fun v i wx => ∃ k : Nat, k ≤ N.l.length ∧ i = .int .i64 k ∧ wx.ownsRow w1.heap.size 2 1 v (selU (tmB N) k).length ((selU (tmB N) k).map (Value.int .i64)) ∧ Below w1.heap.size w1 wx) (fun _ i _ => N.l.length - (intOf i).toNat)
    case atStart => exact ⟨0, Nat.zero_le _, rfl, O2.out, B2.out⟩
    case round =>
      obtain ⟨k, hk, rfl, hO, hB⟩ := hrel
      obtain ⟨y0, y1, y2⟩ := HK.out wr hB
      by_cases hlt : k < N.l.length
      · have HTT := Lib.hid (HT.out k hlt wr hB)
        have HYE := Lib.hid (fun e => selU_yes (p := tmB N) (k := k) e)
        have HNO := Lib.hid (fun e => selU_no (p := tmB N) (k := k) e)
        have hsl := selU_len (tmB N) k
        have HO := Lib.hid hO; have HB := Lib.hid hB
        have hsz2 := hB.size
        have HO2 := HO
        clear hO hB HT
        generalize tmB N k = q at *
        go_wp2_with (fail)
        refine HTT.out.mono ?_
        rintro e w3 ⟨rfl, bel3⟩
        have B3 := Lib.hid (HB.out.trans (bel3.mono hsz2))
        have O3 := Lib.hid (own_below HO.out bel3 (Nat.le_refl _))
        have hs3 := B3.out.size
        clear bel3 y0 y1 y2 HTT HO2
        cases q with
        | false =>
          have HS := Lib.hid (HNO.out rfl)
          have O4 := O3.out
          rw [← HS.out] at O4
          have O5 := Lib.hid O4
          clear O4
          go_wp2
          go_roundw
          case rel => exact ⟨k + 1, by omega, by go_num, O5.out, B3.out⟩
          case measure => simp [intOf]; omega
        | true =>
          have HS := Lib.hid (HYE.out rfl)
          have HLN : Hid ((selU (tmB N) (k + 1)).length = (selU (tmB N) k).length + 1) := Lib.hid (by rw [HS.out]; simp)
          go_wp2_with (at_builtin; refine wpList_append_own _ rfl _ _ 24 rfl w1.heap.size 2 i0 (.int .i64 0) 1 8 Tryd.underlying24 HI.out HZ0.out HZ1.out HZ2.out rfl (by decide) _ _ _ rfl (O3.out.alloc _) ⟨w3.heap.size, 0, none⟩ 1 1 [.int .i64 k] rfl rfl ?c1 ?c2 ?c3 ?c4 ?c5 ?_)
          case c1 => exact cell_one_new _ _ _
          case c2 => intro u hu; simp at hu; subst hu; rfl
          case c3 => unfold maxLen; omega
          case c4 => omega
          case c5 => simp; omega
          intro v' w4 hown' hgrow _
          have hb2 := Lib.hid ((B3.out.alloc hs3 (.cells #[.int .i64 k] 2)).grown hgrow (by simp; omega) (fun q hq => (O3.out.lt q hq).1))
          have hown2 : w4.ownsRow w1.heap.size 2 1 v' (selU (tmB N) (k + 1)).length ((selU (tmB N) (k + 1)).map (Value.int .i64)) := by
            rw [HLN.out, HS.out, List.map_append]; exact hown'
          have hown1 := Lib.hid hown2
          clear hown' hgrow hown2
          go_wp2
          go_roundw
          case rel => exact ⟨k + 1, by omega, by go_num, hown1.out, hb2.out⟩
          case measure => simp [intOf]; omega
      · have hkl : k = N.l.length := by omega
        subst hkl
        obtain ⟨A5, c5, rfl⟩ := own_shape hO
        have HG : Hid (Gives w (tmV N) (.returned (.slice A5 (selU (tmB N) N.l.length).length c5)) wr) := Lib.hid (by
          rw [HVV.out]
          exact ⟨A5, c5, rfl, hO.mono HB0.out.size, HB0.out.trans (hB.mono HB0.out.size)⟩)
        clear hO hB
        generalize (selU (tmB N) N.l.length).length = q at *
        go_wp2
        go_ret
        exact HG.out
end Go.Proofs.YtgpocnapkflihaaDoor
