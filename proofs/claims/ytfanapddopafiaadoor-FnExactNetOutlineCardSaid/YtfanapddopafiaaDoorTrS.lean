/- The model's TreeText: the tree above a wire. Made by mktrs.py. -/
import Derived.Test.YtfanapddopafiaaDoorLwM
import Derived.Test.YtfanapddopafiaaDoorDecB
import Derived.Deep.RegionHeldLaw
import Derived.Deep.DeepCutAuto
namespace Go.Proofs.YtfanapddopafiaaDoor
set_option linter.unusedSimpArgs false
set_option linter.unusedVariables false
open Go.ChangeAt Go.ChangeShapes Go.RowKit Go.WideShapes

set_option maxRecDepth 100000 in
set_option maxHeartbeats 1500000 in
theorem sTree_step (N : Nt) (hv : valN N = true) (x : Int) (h : NH) (w : World) (hx : inW N.w.length x = true) (r : RdN w w.heap.size h N)
    (IH : ∀ y, inW N.w.length y = true → wlen N y < wlen N x → ∀ (w : World), RdN w w.heap.size h N → Calls Tryd.prog 46 #[.agg #[.slice h.A N.w.length h.c, .slice h.L N.l.length h.d, .slice h.C N.c.length h.e], .int .i64 y] w fun e w' => e = .returned (.string (trT dcN N y)) ∧ Below w.heap.size w w') :
    Calls Tryd.prog 46 #[.agg #[.slice h.A N.w.length h.c, .slice h.L N.l.length h.d, .slice h.C N.c.length h.e], .int .i64 x] w fun e w' => e = .returned (.string (trT dcN N x)) ∧ Below w.heap.size w w' := by
  obtain ⟨k, hk⟩ := src_some hv hx
  obtain ⟨hkl, hsb⟩ := src_find hk
  have hfit := link_fits hv hkl
  have h48 := (valN_size hv).2
  have hfk : firstN (srcB x) N.l = (k : Int) := by unfold firstN; rw [hk]
  obtain ⟨w0, hw0⟩ : ∃ w0, w0 = w.alloc (.cells #[.slice h.A N.w.length h.c, .slice h.L N.l.length h.d, .slice h.C N.c.length h.e] 31) := ⟨_, rfl⟩
  obtain ⟨hb, hh, hsz⟩ := box3_any w (.slice h.A N.w.length h.c) (.slice h.L N.l.length h.d) (.slice h.C N.c.length h.e) 31
  rw [← hw0] at hb hh hsz
  have hs0 : w.heap.size + 1 ≤ w0.heap.size := by omega
  have HK := Lib.hid (fun (wx : World) (hx : Below w0.heap.size w0 wx) => three_cells ((hx.block w.heap.size (by omega)).trans hh))
  have HRN := Lib.hid (fun (wx : World) (hx : Below w0.heap.size w0 wx) => show RdN wx wx.heap.size h N from (((r.below hb).more hb.size).below hx).more hx.size)
  have HB0 := Lib.hid hb
  have HF := Lib.hid (sFrom_any h.A h.L h.C N.w.length h.c h.d N.c.length h.e N.l x w0 ((((r.below hb).more hb.size)).2.1) (by omega))
  rw [hfk] at HF
  have hsize := fun y (hy : wlen N y ≤ wlen N x) => trT_size (dec := dcN) hv dcN_len (wlen N y) y (Nat.le_refl _)
  have hwx : wlen N x ≤ 4096 := by
    obtain ⟨_, hx1, _⟩ := inW_yes hx
    have hv2 := formN_valid ((List.all_eq_true.1 (valN_forms hv)) _ (getD_mem hx1))
    exact Nat.le_trans (valid_len hv2).2.1 (by decide)
  obtain ⟨y0, y1, y2⟩ := HK.out _ (Below.refl _ w0)
  have HNODE := Lib.hid (fun hq => trT_node (dec := dcN) hv hk hq)
  have HLEAF := Lib.hid (fun h3 h4 => trT_leaf (dec := dcN) hk h3 h4)
  have HLESS := Lib.hid (fun hq => src_less hfit hsb hq)
  have HIN := Lib.hid (And.intro (fitsN_yes hfit).1 (fitsN_yes hfit).2.1)
  have HKD := Lib.hid (fitsN_kind hfit)
  have HIH := Lib.hid IH
  have HSZ := Lib.hid hsize
  have HWX := Lib.hid hwx
  have HSB := Lib.hid hsb
  obtain ⟨⟨lk, la, lb, lc⟩, hl⟩ : ∃ l, N.l.getD k Lk.nil = l := ⟨_, rfl⟩
  rw [hl] at HNODE HLEAF HLESS HIN HKD HSB
  have HLG := Lib.hid hl
  dsimp only at HNODE HLEAF HLESS HIN HKD HSB
  clear hb hh hsz r IH hfk hk hfit hsize hwx hl hsb
  go_enter Tryd.func46, Tryd.ntmps46
  go_wp2_with (fail)
  rw [← hw0]
  clear hw0
  refine HF.out.mono ?_
  rintro e w1 ⟨rfl, bel1⟩
  have B1 := Lib.hid bel1
  clear bel1 y0 y1 y2 HF
  obtain ⟨y0, y1, y2⟩ := HK.out _ B1.out
  obtain ⟨b, off, hL, hbb, hcells⟩ := (HRN.out _ B1.out).2.1.at (by omega)
  have hcl := hcells k hkl
  rw [HLG.out] at hcl
  obtain ⟨x0, x1, x2, x3⟩ := hcl
  dsimp only at x0 x1 x2 x3
  rw [hL] at y1
  have hki : (k : Int) < (N.l.length : Int) := by omega
  have hs1 := B1.out.size
  obtain ⟨w2, hw2⟩ : ∃ u, u = w1.alloc (.cells #[.int .i64 lk, .int .i64 la, .int .i64 lb, .int .i64 lc] 71) := ⟨_, rfl⟩
  have b2 : Below w1.heap.size w1 w2 := by rw [hw2]; exact (Below.refl _ _).alloc (Nat.le_refl _) _
  have p2 : w2.heap[w1.heap.size]? = some (.cells #[.int .i64 lk, .int .i64 la, .int .i64 lb, .int .i64 lc] 71 (0, 0)) := by rw [hw2]; exact heap_alloc_new _ _
  have hs2 : w2.heap.size = w1.heap.size + 1 := by rw [hw2]; simp
  have HLK := Lib.hid (fun (wx : World) (hx : Below w2.heap.size w2 wx) => cells4 ((hx.block w1.heap.size (by omega)).trans p2))
  have B2 := Lib.hid (B1.out.trans (b2.mono hs1))
  have hs2' := B2.out.size
  clear hcells b2 p2 hL hbb
  go_upto_region 3 with (fail)
  rw [← hw2]
  clear hw2 x0 x1 x2 x3 y0 y1 y2
  obtain ⟨z0, z1, z2, z3⟩ := HLK.out _ (Below.refl _ _)
  obtain ⟨g, hg⟩ : ∃ g, w1.heap.size = g := ⟨_, rfl⟩
  rw [hg] at z0 z1 z2 z3
  by_cases h3 : lk = 3
  · subst h3
    have hls := HLESS.out (by decide)
    have IA := Lib.hid (HIH.out la HIN.out.1 (by omega))
    have IB := Lib.hid (HIH.out lb HIN.out.2 (by omega))
    have sa := HSZ.out la (by omega)
    have sb := HSZ.out lb (by omega)
    have hxx := HWX.out
    have HEQ := Lib.hid (HNODE.out (by decide))
    simp only [if_true] at HEQ
    generalize trT dcN N la = TA at *
    generalize trT dcN N lb = TB at *
    have q40 : (⟨#[40]⟩ : ByteArray).size = 1 := rfl
    have q41 : (⟨#[41]⟩ : ByteArray).size = 1 := rfl
    have qs : (⟨#[42]⟩ : ByteArray).size = 1 := rfl
    obtain ⟨U1, hU1⟩ : ∃ U, (⟨#[40]⟩ : ByteArray) ++ TA = U := ⟨_, rfl⟩
    obtain ⟨U2, hU2⟩ : ∃ U, U1 ++ (⟨#[42]⟩ : ByteArray) = U := ⟨_, rfl⟩
    obtain ⟨U3, hU3⟩ : ∃ U, U2 ++ TB = U := ⟨_, rfl⟩
    obtain ⟨U4, hU4⟩ : ∃ U, U3 ++ (⟨#[41]⟩ : ByteArray) = U := ⟨_, rfl⟩
    have z1' : U1.size = 1 + TA.size := by rw [← hU1, ByteArray.size_append, q40]
    have z2' : U2.size = U1.size + 1 := by rw [← hU2, ByteArray.size_append, qs]
    have z3' : U3.size = U2.size + TB.size := by rw [← hU3, ByteArray.size_append]
    have a1 : ∀ w : World, (Op.stringOp .add ⟨#[40]⟩ TA).run Tryd.prog w = .ok (.string U1) w := fun w => by rw [← hU1]; exact run_string_add_sum _ _ _ (by omega)
    have a2 : ∀ w : World, (Op.stringOp .add U1 ⟨#[42]⟩).run Tryd.prog w = .ok (.string U2) w := fun w => by rw [← hU2]; exact run_string_add_sum _ _ _ (by omega)
    have a3 : ∀ w : World, (Op.stringOp .add U2 TB).run Tryd.prog w = .ok (.string U3) w := fun w => by rw [← hU3]; exact run_string_add_sum _ _ _ (by omega)
    have a4 : ∀ w : World, (Op.stringOp .add U3 ⟨#[41]⟩).run Tryd.prog w = .ok (.string U4) w := fun w => by rw [← hU4]; exact run_string_add_sum _ _ _ (by omega)
    rw [hU1, hU2, hU3, hU4] at HEQ
    clear hU1 hU2 hU3 hU4 z1' z2' z3' q40 q41 qs sa sb hls hxx
    have HSX : Hid (∀ wx : World, Below w2.heap.size w2 wx → wx.cell? ⟨w.heap.size, 0, none⟩ = some (.slice h.A N.w.length h.c) ∧ wx.cell? ⟨w.heap.size, 1, none⟩ = some (.slice h.L N.l.length h.d) ∧ wx.cell? ⟨w.heap.size, 2, none⟩ = some (.slice h.C N.c.length h.e) ∧ wx.cell? ⟨g, 0, none⟩ = some (.int .i64 3) ∧ wx.cell? ⟨g, 1, none⟩ = some (.int .i64 la) ∧ wx.cell? ⟨g, 2, none⟩ = some (.int .i64 lb)) := Lib.hid fun wx hx => by
      obtain ⟨n0, n1, n2⟩ := HK.out wx (B2.out.trans (hx.mono hs2'))
      obtain ⟨m0, m1, m2, m3⟩ := HLK.out wx hx
      rw [hg] at m0 m1 m2
      exact ⟨n0, n1, n2, m0, m1, m2⟩
    go_upto_region 4 with (fail)
    clear z0 z1 z2 z3
    have FB_0 := Lib.hid (Below.refl w2.heap.size w2)
    refine wp_region_held_drew (S := fun wx => wx.cell? ⟨w.heap.size, 0, none⟩ = some (.slice h.A N.w.length h.c) ∧ wx.cell? ⟨w.heap.size, 1, none⟩ = some (.slice h.L N.l.length h.d) ∧ wx.cell? ⟨w.heap.size, 2, none⟩ = some (.slice h.C N.c.length h.e) ∧ wx.cell? ⟨g, 0, none⟩ = some (.int .i64 3) ∧ wx.cell? ⟨g, 1, none⟩ = some (.int .i64 la) ∧ wx.cell? ⟨g, 2, none⟩ = some (.int .i64 lb)) (by kernel_rfl) (HSX.out _ (Below.refl _ _).drew) (fun hHeld => ?_)
    obtain ⟨wq1, hwq1⟩ : ∃ w', w' = w2.drew := ⟨_, rfl⟩
    rw [← hwq1] at hHeld ⊢
    have bq1 : Below w2.heap.size w2 wq1 := by rw [hwq1]; exact (Below.refl _ _).drew
    clear hwq1
    have FB_q2 := Lib.hid ((FB_0.out).trans ((bq1).mono (FB_0.out).size))
    clear FB_0
    refine wpAnyH_take (i := 0) (v := ?vq3) rfl (by kernel_rfl) (by kernel_rfl) (by kernel_rfl) (fun _ _ _ h => h) (Or.inl ⟨by rfl, ?yq3⟩) (by assumption) ?_
    case yq3 => (intro w hSw; (try dsimp only at hSw); go_simp; all_goals (with_reducible rfl))
    (try simp only [Act.put, List.setIfInBounds_toArray, List.set_cons_zero, List.set_cons_succ, List.getElem_toArray, List.getElem_cons_succ, List.getElem_cons_zero])
    refine wpAnyH_take (i := 1) (v := ?vq4) rfl (by kernel_rfl) (by kernel_rfl) (by kernel_rfl) (fun _ _ _ h => h) (Or.inl ⟨by rfl, ?yq4⟩) (by assumption) ?_
    case yq4 => (intro w hSw; (try dsimp only at hSw); go_simp; all_goals (with_reducible rfl))
    (try simp only [Act.put, List.setIfInBounds_toArray, List.set_cons_zero, List.set_cons_succ, List.getElem_toArray, List.getElem_cons_succ, List.getElem_cons_zero])
    refine wpAnyH_take (i := 6) (v := ?vq5) rfl (by kernel_rfl) (by kernel_rfl) (by kernel_rfl) (fun _ _ _ h => h) (Or.inl ⟨by rfl, ?yq5⟩) (by assumption) ?_
    case yq5 => (intro w hSw; (try dsimp only at hSw); go_simp; all_goals (with_reducible rfl))
    (try simp only [Act.put, List.setIfInBounds_toArray, List.set_cons_zero, List.set_cons_succ, List.getElem_toArray, List.getElem_cons_succ, List.getElem_cons_zero])
    refine wpAnyH_take (i := 7) (v := ?vq6) rfl (by kernel_rfl) (by kernel_rfl) (by kernel_rfl) (fun _ _ _ h => h) (Or.inl ⟨by rfl, ?yq6⟩) (by assumption) ?_
    case yq6 => (intro w hSw; (try dsimp only at hSw); go_simp; all_goals (with_reducible rfl))
    (try simp only [Act.put, List.setIfInBounds_toArray, List.set_cons_zero, List.set_cons_succ, List.getElem_toArray, List.getElem_cons_succ, List.getElem_cons_zero])
    refine wpAnyH_take (i := 2) (v := ?vq7) rfl (by kernel_rfl) (by kernel_rfl) (by kernel_rfl) (fun _ _ _ h => h) (Or.inl ⟨by rfl, ?yq7⟩) (by assumption) ?_
    case yq7 => (intro w hSw; (try dsimp only at hSw); go_simp; all_goals (with_reducible rfl))
    (try simp only [Act.put, List.setIfInBounds_toArray, List.set_cons_zero, List.set_cons_succ, List.getElem_toArray, List.getElem_cons_succ, List.getElem_cons_zero])
    refine wpAnyH_take (i := 8) (v := ?vq8) rfl (by kernel_rfl) (by kernel_rfl) (by kernel_rfl) (fun _ _ _ h => h) (Or.inl ⟨by rfl, ?yq8⟩) (by assumption) ?_
    case yq8 => (intro w hSw; (try dsimp only at hSw); go_simp; all_goals (with_reducible rfl))
    (try simp only [Act.put, List.setIfInBounds_toArray, List.set_cons_zero, List.set_cons_succ, List.getElem_toArray, List.getElem_cons_succ, List.getElem_cons_zero])
    refine wpAnyH_ready (rs := [3]) (by kernel_rfl) (by simp) ?_
    refine AllReadyH.cons rfl (fun K hK => ?_) ?_
    · go_simp
      refine (IA.out wq1 (HRN.out _ (B2.out.trans (FB_q2.out.mono hs2')))).mono ?_
      rintro e wq9 ⟨rfl, belq9⟩
      dsimp only
      have FB_q10 := Lib.hid ((FB_q2.out).trans ((belq9).mono (FB_q2.out).size))
      clear FB_q2
      clear belq9
      refine hK.out _ _ (HSX.out _ FB_q10.out) (fun hHeld => ?_)
      clear hK K
      (try simp only [Act.put, List.setIfInBounds_toArray, List.set_cons_zero, List.set_cons_succ, List.getElem_toArray, List.getElem_cons_succ, List.getElem_cons_zero])
      refine wpAnyH_take (i := 4) (v := ?vq11) rfl (by kernel_rfl) (by kernel_rfl) (by kernel_rfl) (fun _ _ _ h => h) (Or.inl ⟨by rfl, ?yq11⟩) (by assumption) ?_
      case yq11 => (intro w hSw; (try dsimp only at hSw); go_simp; all_goals (with_reducible rfl))
      (try simp only [Act.put, List.setIfInBounds_toArray, List.set_cons_zero, List.set_cons_succ, List.getElem_toArray, List.getElem_cons_succ, List.getElem_cons_zero])
      refine wpAnyH_take (i := 5) (v := ?vq12) rfl (by kernel_rfl) (by kernel_rfl) (by kernel_rfl) (fun _ _ _ h => h) (Or.inl ⟨by rfl, ?yq12⟩) (by assumption) ?_
      case yq12 => (intro w hSw; (try dsimp only at hSw); go_simp; all_goals (with_reducible rfl))
      (try simp only [Act.put, List.setIfInBounds_toArray, List.set_cons_zero, List.set_cons_succ, List.getElem_toArray, List.getElem_cons_succ, List.getElem_cons_zero])
      refine wpAnyH_ready (rs := [9]) (by kernel_rfl) (by simp) ?_
      refine AllReadyH.cons rfl (fun K hK => ?_) ?_
      · go_simp
        refine (IB.out wq9 (HRN.out _ (B2.out.trans (FB_q10.out.mono hs2')))).mono ?_
        rintro e wq13 ⟨rfl, belq13⟩
        dsimp only
        have FB_q14 := Lib.hid ((FB_q10.out).trans ((belq13).mono (FB_q10.out).size))
        clear FB_q10
        clear belq13
        refine hK.out _ _ (HSX.out _ FB_q14.out) (fun hHeld => ?_)
        clear hK K
        (try simp only [Act.put, List.setIfInBounds_toArray, List.set_cons_zero, List.set_cons_succ, List.getElem_toArray, List.getElem_cons_succ, List.getElem_cons_zero])
        refine wpAnyH_take (i := 10) (v := ?vq15) rfl (by kernel_rfl) (by kernel_rfl) (by kernel_rfl) (fun _ _ _ h => h) (Or.inl ⟨by rfl, ?yq15⟩) (by assumption) ?_
        case yq15 => (intro w hSw; (try dsimp only at hSw); go_simp; all_goals (with_reducible rfl))
        (try simp only [Act.put, List.setIfInBounds_toArray, List.set_cons_zero, List.set_cons_succ, List.getElem_toArray, List.getElem_cons_succ, List.getElem_cons_zero])
        refine wpAnyH_take (i := 11) (v := ?vq16) rfl (by kernel_rfl) (by kernel_rfl) (by kernel_rfl) (fun _ _ _ h => h) (Or.inl ⟨by rfl, ?yq16⟩) (by assumption) ?_
        case yq16 => (intro w hSw; (try dsimp only at hSw); go_simp; all_goals (with_reducible rfl))
        (try simp only [Act.put, List.setIfInBounds_toArray, List.set_cons_zero, List.set_cons_succ, List.getElem_toArray, List.getElem_cons_succ, List.getElem_cons_zero])
        refine wpAnyH_ready (rs := [12]) (by kernel_rfl) (by simp) ?_
        refine AllReadyH.cons rfl (fun K hK => ?_) ?_
        · go_simp
          refine hK.out _ _ hHeld (fun hHeld => ?_)
          clear hK K
          (try simp only [Act.put, List.setIfInBounds_toArray, List.set_cons_zero, List.set_cons_succ, List.getElem_toArray, List.getElem_cons_succ, List.getElem_cons_zero])
          refine wpAnyH_done (by kernel_rfl) ?_ _
          have HBX := Lib.hid (HB0.out.trans ((B2.out.trans (FB_q14.out.mono hs2')).mono HB0.out.size))
          go_wp2
          go_ret
          exact ⟨ret_sA HEQ.out.symm, HBX.out⟩
        exact AllReadyH.nil
      exact AllReadyH.nil
    exact AllReadyH.nil
  · have d3 : (lk == 3) = false := by simp [h3]
    by_cases h4 : lk = 4
    · subst h4
      have hls := HLESS.out (by decide)
      have IA := Lib.hid (HIH.out la HIN.out.1 (by omega))
      have IB := Lib.hid (HIH.out lb HIN.out.2 (by omega))
      have sa := HSZ.out la (by omega)
      have sb := HSZ.out lb (by omega)
      have hxx := HWX.out
      have HEQ := Lib.hid (HNODE.out (by decide))
      simp only [show ¬ ((4 : Int) = 3) from by decide, if_false] at HEQ
      generalize trT dcN N la = TA at *
      generalize trT dcN N lb = TB at *
      have q40 : (⟨#[40]⟩ : ByteArray).size = 1 := rfl
      have q41 : (⟨#[41]⟩ : ByteArray).size = 1 := rfl
      have qs : (⟨#[124]⟩ : ByteArray).size = 1 := rfl
      obtain ⟨U1, hU1⟩ : ∃ U, (⟨#[40]⟩ : ByteArray) ++ TA = U := ⟨_, rfl⟩
      obtain ⟨U2, hU2⟩ : ∃ U, U1 ++ (⟨#[124]⟩ : ByteArray) = U := ⟨_, rfl⟩
      obtain ⟨U3, hU3⟩ : ∃ U, U2 ++ TB = U := ⟨_, rfl⟩
      obtain ⟨U4, hU4⟩ : ∃ U, U3 ++ (⟨#[41]⟩ : ByteArray) = U := ⟨_, rfl⟩
      have z1' : U1.size = 1 + TA.size := by rw [← hU1, ByteArray.size_append, q40]
      have z2' : U2.size = U1.size + 1 := by rw [← hU2, ByteArray.size_append, qs]
      have z3' : U3.size = U2.size + TB.size := by rw [← hU3, ByteArray.size_append]
      have a1 : ∀ w : World, (Op.stringOp .add ⟨#[40]⟩ TA).run Tryd.prog w = .ok (.string U1) w := fun w => by rw [← hU1]; exact run_string_add_sum _ _ _ (by omega)
      have a2 : ∀ w : World, (Op.stringOp .add U1 ⟨#[124]⟩).run Tryd.prog w = .ok (.string U2) w := fun w => by rw [← hU2]; exact run_string_add_sum _ _ _ (by omega)
      have a3 : ∀ w : World, (Op.stringOp .add U2 TB).run Tryd.prog w = .ok (.string U3) w := fun w => by rw [← hU3]; exact run_string_add_sum _ _ _ (by omega)
      have a4 : ∀ w : World, (Op.stringOp .add U3 ⟨#[41]⟩).run Tryd.prog w = .ok (.string U4) w := fun w => by rw [← hU4]; exact run_string_add_sum _ _ _ (by omega)
      rw [hU1, hU2, hU3, hU4] at HEQ
      clear hU1 hU2 hU3 hU4 z1' z2' z3' q40 q41 qs sa sb hls hxx
      have HSX : Hid (∀ wx : World, Below w2.heap.size w2 wx → wx.cell? ⟨w.heap.size, 0, none⟩ = some (.slice h.A N.w.length h.c) ∧ wx.cell? ⟨w.heap.size, 1, none⟩ = some (.slice h.L N.l.length h.d) ∧ wx.cell? ⟨w.heap.size, 2, none⟩ = some (.slice h.C N.c.length h.e) ∧ wx.cell? ⟨g, 0, none⟩ = some (.int .i64 4) ∧ wx.cell? ⟨g, 1, none⟩ = some (.int .i64 la) ∧ wx.cell? ⟨g, 2, none⟩ = some (.int .i64 lb)) := Lib.hid fun wx hx => by
        obtain ⟨n0, n1, n2⟩ := HK.out wx (B2.out.trans (hx.mono hs2'))
        obtain ⟨m0, m1, m2, m3⟩ := HLK.out wx hx
        rw [hg] at m0 m1 m2
        exact ⟨n0, n1, n2, m0, m1, m2⟩
      go_upto_region 6 with (fail)
      clear z0 z1 z2 z3
      have FB_0 := Lib.hid (Below.refl w2.heap.size w2)
      refine wp_region_held_drew (S := fun wx => wx.cell? ⟨w.heap.size, 0, none⟩ = some (.slice h.A N.w.length h.c) ∧ wx.cell? ⟨w.heap.size, 1, none⟩ = some (.slice h.L N.l.length h.d) ∧ wx.cell? ⟨w.heap.size, 2, none⟩ = some (.slice h.C N.c.length h.e) ∧ wx.cell? ⟨g, 0, none⟩ = some (.int .i64 4) ∧ wx.cell? ⟨g, 1, none⟩ = some (.int .i64 la) ∧ wx.cell? ⟨g, 2, none⟩ = some (.int .i64 lb)) (by kernel_rfl) (HSX.out _ (Below.refl _ _).drew) (fun hHeld => ?_)
      obtain ⟨wp1, hwp1⟩ : ∃ w', w' = w2.drew := ⟨_, rfl⟩
      rw [← hwp1] at hHeld ⊢
      have bp1 : Below w2.heap.size w2 wp1 := by rw [hwp1]; exact (Below.refl _ _).drew
      clear hwp1
      have FB_p2 := Lib.hid ((FB_0.out).trans ((bp1).mono (FB_0.out).size))
      clear FB_0
      refine wpAnyH_take (i := 0) (v := ?vp3) rfl (by kernel_rfl) (by kernel_rfl) (by kernel_rfl) (fun _ _ _ h => h) (Or.inl ⟨by rfl, ?yp3⟩) (by assumption) ?_
      case yp3 => (intro w hSw; (try dsimp only at hSw); go_simp; all_goals (with_reducible rfl))
      (try simp only [Act.put, List.setIfInBounds_toArray, List.set_cons_zero, List.set_cons_succ, List.getElem_toArray, List.getElem_cons_succ, List.getElem_cons_zero])
      refine wpAnyH_take (i := 1) (v := ?vp4) rfl (by kernel_rfl) (by kernel_rfl) (by kernel_rfl) (fun _ _ _ h => h) (Or.inl ⟨by rfl, ?yp4⟩) (by assumption) ?_
      case yp4 => (intro w hSw; (try dsimp only at hSw); go_simp; all_goals (with_reducible rfl))
      (try simp only [Act.put, List.setIfInBounds_toArray, List.set_cons_zero, List.set_cons_succ, List.getElem_toArray, List.getElem_cons_succ, List.getElem_cons_zero])
      refine wpAnyH_take (i := 6) (v := ?vp5) rfl (by kernel_rfl) (by kernel_rfl) (by kernel_rfl) (fun _ _ _ h => h) (Or.inl ⟨by rfl, ?yp5⟩) (by assumption) ?_
      case yp5 => (intro w hSw; (try dsimp only at hSw); go_simp; all_goals (with_reducible rfl))
      (try simp only [Act.put, List.setIfInBounds_toArray, List.set_cons_zero, List.set_cons_succ, List.getElem_toArray, List.getElem_cons_succ, List.getElem_cons_zero])
      refine wpAnyH_take (i := 7) (v := ?vp6) rfl (by kernel_rfl) (by kernel_rfl) (by kernel_rfl) (fun _ _ _ h => h) (Or.inl ⟨by rfl, ?yp6⟩) (by assumption) ?_
      case yp6 => (intro w hSw; (try dsimp only at hSw); go_simp; all_goals (with_reducible rfl))
      (try simp only [Act.put, List.setIfInBounds_toArray, List.set_cons_zero, List.set_cons_succ, List.getElem_toArray, List.getElem_cons_succ, List.getElem_cons_zero])
      refine wpAnyH_take (i := 2) (v := ?vp7) rfl (by kernel_rfl) (by kernel_rfl) (by kernel_rfl) (fun _ _ _ h => h) (Or.inl ⟨by rfl, ?yp7⟩) (by assumption) ?_
      case yp7 => (intro w hSw; (try dsimp only at hSw); go_simp; all_goals (with_reducible rfl))
      (try simp only [Act.put, List.setIfInBounds_toArray, List.set_cons_zero, List.set_cons_succ, List.getElem_toArray, List.getElem_cons_succ, List.getElem_cons_zero])
      refine wpAnyH_take (i := 8) (v := ?vp8) rfl (by kernel_rfl) (by kernel_rfl) (by kernel_rfl) (fun _ _ _ h => h) (Or.inl ⟨by rfl, ?yp8⟩) (by assumption) ?_
      case yp8 => (intro w hSw; (try dsimp only at hSw); go_simp; all_goals (with_reducible rfl))
      (try simp only [Act.put, List.setIfInBounds_toArray, List.set_cons_zero, List.set_cons_succ, List.getElem_toArray, List.getElem_cons_succ, List.getElem_cons_zero])
      refine wpAnyH_ready (rs := [3]) (by kernel_rfl) (by simp) ?_
      refine AllReadyH.cons rfl (fun K hK => ?_) ?_
      · go_simp
        refine (IA.out wp1 (HRN.out _ (B2.out.trans (FB_p2.out.mono hs2')))).mono ?_
        rintro e wp9 ⟨rfl, belp9⟩
        dsimp only
        have FB_p10 := Lib.hid ((FB_p2.out).trans ((belp9).mono (FB_p2.out).size))
        clear FB_p2
        clear belp9
        refine hK.out _ _ (HSX.out _ FB_p10.out) (fun hHeld => ?_)
        clear hK K
        (try simp only [Act.put, List.setIfInBounds_toArray, List.set_cons_zero, List.set_cons_succ, List.getElem_toArray, List.getElem_cons_succ, List.getElem_cons_zero])
        refine wpAnyH_take (i := 4) (v := ?vp11) rfl (by kernel_rfl) (by kernel_rfl) (by kernel_rfl) (fun _ _ _ h => h) (Or.inl ⟨by rfl, ?yp11⟩) (by assumption) ?_
        case yp11 => (intro w hSw; (try dsimp only at hSw); go_simp; all_goals (with_reducible rfl))
        (try simp only [Act.put, List.setIfInBounds_toArray, List.set_cons_zero, List.set_cons_succ, List.getElem_toArray, List.getElem_cons_succ, List.getElem_cons_zero])
        refine wpAnyH_take (i := 5) (v := ?vp12) rfl (by kernel_rfl) (by kernel_rfl) (by kernel_rfl) (fun _ _ _ h => h) (Or.inl ⟨by rfl, ?yp12⟩) (by assumption) ?_
        case yp12 => (intro w hSw; (try dsimp only at hSw); go_simp; all_goals (with_reducible rfl))
        (try simp only [Act.put, List.setIfInBounds_toArray, List.set_cons_zero, List.set_cons_succ, List.getElem_toArray, List.getElem_cons_succ, List.getElem_cons_zero])
        refine wpAnyH_ready (rs := [9]) (by kernel_rfl) (by simp) ?_
        refine AllReadyH.cons rfl (fun K hK => ?_) ?_
        · go_simp
          refine (IB.out wp9 (HRN.out _ (B2.out.trans (FB_p10.out.mono hs2')))).mono ?_
          rintro e wp13 ⟨rfl, belp13⟩
          dsimp only
          have FB_p14 := Lib.hid ((FB_p10.out).trans ((belp13).mono (FB_p10.out).size))
          clear FB_p10
          clear belp13
          refine hK.out _ _ (HSX.out _ FB_p14.out) (fun hHeld => ?_)
          clear hK K
          (try simp only [Act.put, List.setIfInBounds_toArray, List.set_cons_zero, List.set_cons_succ, List.getElem_toArray, List.getElem_cons_succ, List.getElem_cons_zero])
          refine wpAnyH_take (i := 10) (v := ?vp15) rfl (by kernel_rfl) (by kernel_rfl) (by kernel_rfl) (fun _ _ _ h => h) (Or.inl ⟨by rfl, ?yp15⟩) (by assumption) ?_
          case yp15 => (intro w hSw; (try dsimp only at hSw); go_simp; all_goals (with_reducible rfl))
          (try simp only [Act.put, List.setIfInBounds_toArray, List.set_cons_zero, List.set_cons_succ, List.getElem_toArray, List.getElem_cons_succ, List.getElem_cons_zero])
          refine wpAnyH_take (i := 11) (v := ?vp16) rfl (by kernel_rfl) (by kernel_rfl) (by kernel_rfl) (fun _ _ _ h => h) (Or.inl ⟨by rfl, ?yp16⟩) (by assumption) ?_
          case yp16 => (intro w hSw; (try dsimp only at hSw); go_simp; all_goals (with_reducible rfl))
          (try simp only [Act.put, List.setIfInBounds_toArray, List.set_cons_zero, List.set_cons_succ, List.getElem_toArray, List.getElem_cons_succ, List.getElem_cons_zero])
          refine wpAnyH_ready (rs := [12]) (by kernel_rfl) (by simp) ?_
          refine AllReadyH.cons rfl (fun K hK => ?_) ?_
          · go_simp
            refine hK.out _ _ hHeld (fun hHeld => ?_)
            clear hK K
            (try simp only [Act.put, List.setIfInBounds_toArray, List.set_cons_zero, List.set_cons_succ, List.getElem_toArray, List.getElem_cons_succ, List.getElem_cons_zero])
            refine wpAnyH_done (by kernel_rfl) ?_ _
            have HBX := Lib.hid (HB0.out.trans ((B2.out.trans (FB_p14.out.mono hs2')).mono HB0.out.size))
            go_wp2
            go_ret
            exact ⟨ret_sA HEQ.out.symm, HBX.out⟩
          exact AllReadyH.nil
        exact AllReadyH.nil
      exact AllReadyH.nil
    · have d4 : (lk == 4) = false := by simp [h4]
      by_cases ha : la = x
      · have da : (la == x) = true := by simp [ha]
        have HEQ := Lib.hid (HLEAF.out (by omega) (by omega))
        rw [if_pos ha] at HEQ
        have hd0 := decN_len (x := (k : Int)) (by omega) (by omega)
        have HDC := Lib.hid (fun wx => decimalN_any (k : Int) wx (by omega) (by omega))
        have q1 : (⟨#[97]⟩ : ByteArray).size = 1 := rfl
        have HEQ2 : Hid (trT dcN N x = (⟨#[97]⟩ : ByteArray) ++ decN (k : Int)) := Lib.hid HEQ.out
        clear HEQ
        obtain ⟨D, hD⟩ : ∃ D, decN (k : Int) = D := ⟨_, rfl⟩
        rw [hD] at hd0 HDC HEQ2
        clear hD
        obtain ⟨U1, hU1⟩ : ∃ U, (⟨#[97]⟩ : ByteArray) ++ D = U := ⟨_, rfl⟩
        have a1 : ∀ w : World, (Op.stringOp .add ⟨#[97]⟩ D).run Tryd.prog w = .ok (.string U1) w := fun w => by rw [← hU1]; exact run_string_add_sum _ _ _ (by omega)
        rw [hU1] at HEQ2
        clear hU1 q1 hd0
        go_wp2_with (fail)
        refine (HDC.out _).mono ?_
        rintro e w3 ⟨rfl, bel3⟩
        have HBX := Lib.hid (HB0.out.trans ((B2.out.trans (bel3.mono hs2')).mono HB0.out.size))
        clear bel3
        go_wp2
        go_ret
        exact ⟨ret_sA HEQ2.out.symm, HBX.out⟩
      · have da : (la == x) = false := by simp [ha]
        have HEQ := Lib.hid (HLEAF.out (by omega) (by omega))
        rw [if_neg ha] at HEQ
        have hd0 := decN_len (x := (k : Int)) (by omega) (by omega)
        have HDC := Lib.hid (fun wx => decimalN_any (k : Int) wx (by omega) (by omega))
        have q1 : (⟨#[98]⟩ : ByteArray).size = 1 := rfl
        have HEQ2 : Hid (trT dcN N x = (⟨#[98]⟩ : ByteArray) ++ decN (k : Int)) := Lib.hid HEQ.out
        clear HEQ
        obtain ⟨D, hD⟩ : ∃ D, decN (k : Int) = D := ⟨_, rfl⟩
        rw [hD] at hd0 HDC HEQ2
        clear hD
        obtain ⟨U1, hU1⟩ : ∃ U, (⟨#[98]⟩ : ByteArray) ++ D = U := ⟨_, rfl⟩
        have a1 : ∀ w : World, (Op.stringOp .add ⟨#[98]⟩ D).run Tryd.prog w = .ok (.string U1) w := fun w => by rw [← hU1]; exact run_string_add_sum _ _ _ (by omega)
        rw [hU1] at HEQ2
        clear hU1 q1 hd0
        go_wp2_with (fail)
        refine (HDC.out _).mono ?_
        rintro e w3 ⟨rfl, bel3⟩
        have HBX := Lib.hid (HB0.out.trans ((B2.out.trans (bel3.mono hs2')).mono HB0.out.size))
        clear bel3
        go_wp2
        go_ret
        exact ⟨ret_sA HEQ2.out.symm, HBX.out⟩
end Go.Proofs.YtfanapddopafiaaDoor
