/- The model's MatesOf. Made by mkmas.py. -/
import Derived.Test.YtfanapddopafiaaDoorMaN
import Derived.Test.YtfanapddopafiaaDoorLwS
import Derived.Test.YtfanapddopafiaaDoorAtS
import Derived.BigQuiet
namespace Go.Proofs.YtfanapddopafiaaDoor
set_option linter.unusedSimpArgs false
set_option linter.unusedVariables false
open Go.ChangeAt Go.ChangeShapes Go.RowKit Go.WideShapes

theorem givesB_noS {w w' : World} {N : Nt} (h : maB N = false) (hb : Below w.heap.size w w') : GivesB w (maV N) (maB N) (.returned (.tuple #[.slice none 0 0, .bool false])) w' := by
  rw [maV_no h, h]
  exact ⟨none, 0, rfl, World.ownsRow_nil _ _ _ _, hb⟩
theorem own_shapeS {w : World} {base n : Nat} {e : TypeId} {v : Value} {xs : List Value} (h : w.ownsRow base e 1 v n xs) : ∃ A c, v = .slice A n c := by
  rcases h.2 with ⟨rfl, rfl⟩ | ⟨g, cap, cur, rfl, _, _, hn, _⟩
  · exact ⟨_, _, rfl⟩
  · exact ⟨_, _, rfl⟩
set_option maxRecDepth 100000 in
set_option maxHeartbeats 2000000 in
theorem sMatesOf_any (h : NH) (N : Nt) (w : World) (r : RdN w w.heap.size h N) (hnw : N.w.length ≤ 1048576) (hnl : N.l.length ≤ 1048576) (hnc : N.c.length ≤ 1048576) :
    Calls Tryd.prog 19 #[.agg #[.slice h.A N.w.length h.c, .slice h.L N.l.length h.d, .slice h.C N.c.length h.e]] w (GivesB w (maV N) (maB N)) := by
  obtain ⟨i0, hi0, hz0, hz1, hz2⟩ := info_parts info_i64
  have HI := Lib.hid hi0; have HZ0 := Lib.hid hz0; have HZ1 := Lib.hid hz1; have HZ2 := Lib.hid hz2
  obtain ⟨w0, hw0⟩ : ∃ w0, w0 = w.alloc (.cells #[.slice h.A N.w.length h.c, .slice h.L N.l.length h.d, .slice h.C N.c.length h.e] 31) := ⟨_, rfl⟩
  obtain ⟨hb, hh, hsz⟩ := box3_any w (.slice h.A N.w.length h.c) (.slice h.L N.l.length h.d) (.slice h.C N.c.length h.e) 31
  rw [← hw0] at hb hh hsz
  have HK : Hid (∀ w', Below w0.heap.size w0 w' → w'.cell? ⟨w.heap.size, 0, none⟩ = some (.slice h.A N.w.length h.c) ∧ w'.cell? ⟨w.heap.size, 1, none⟩ = some (.slice h.L N.l.length h.d) ∧ w'.cell? ⟨w.heap.size, 2, none⟩ = some (.slice h.C N.c.length h.e)) := Lib.hid fun w' hw => three_cells ((hw.block _ (by omega)).trans hh)
  have HR := Lib.hid (fun (w' : World) (hw : Below w0.heap.size w0 w') => show RdN w' w'.heap.size h N from ((r.below (hb.trans (hw.mono hb.size))).more (Nat.le_trans hb.size hw.size)))
  have HC := Lib.hid (sConclusionSeq_any h N w0 (HR.out _ (Below.refl _ _)) hnw hnl hnc)
  have HB0 := Lib.hid hb
  obtain ⟨y0, y1, y2⟩ := three_cells hh
  clear hb hh hsz r hi0 hz0 hz1 hz2
  go_enter Tryd.func19, Tryd.ntmps19
  go_upto_region 1 with (fail)
  rw [← hw0]
  clear hw0
  go_wp2_with (fail)
  refine HC.out.mono ?_
  rintro e w1 ⟨hs, A, c, rfl, own1, bel1⟩
  have hb2 : Below w1.heap.size w1 (w1.alloc (.cells #[.slice A (cqL N).length c] 47)) := (Below.refl _ _).alloc (Nat.le_refl _) _
  obtain ⟨w2, hw2⟩ : ∃ w2, w2 = w1.alloc (.cells #[.slice A (cqL N).length c] 47) := ⟨_, rfl⟩
  rw [← hw2] at hb2
  have HB2 := Lib.hid (bel1.trans (hb2.mono bel1.size))
  clear own1 bel1 hb2 y0 y1 y2
  go_upto_region 2 with (fail)
  rw [← hw2]
  clear hw2
  cases hcq : cqB N with
  | false =>
    have HG := Lib.hid (givesB_noS (maB_c hcq) (HB0.out.trans (HB2.out.mono HB0.out.size)))
    clear hcq
    go_wp2
    go_ret2
    exact HG.out
  | true =>
    obtain ⟨y0, y1, y2⟩ := HK.out _ HB2.out
    have HA := Lib.hid (sAtomicNet_any h N w2 (HR.out _ HB2.out) hnw hnl hnc)
    cases hat : atN N with
    | false =>
      rw [hat] at HA
      have HMB := Lib.hid (maB_a hat)
      clear hcq hat
      go_wp2_with (fail)
      refine HA.out.mono ?_
      rintro e w3 ⟨rfl, bel3⟩
      have HG := Lib.hid (givesB_noS HMB.out (HB0.out.trans ((HB2.out.trans (bel3.mono HB2.out.size)).mono HB0.out.size)))
      clear bel3 y0 y1 y2
      go_wp2
      go_ret2
      exact HG.out
    | true =>
      rw [hat] at HA
      have HCQ := Lib.hid hcq; have HAT := Lib.hid hat
      clear hcq hat
      go_wp2_with (fail)
      refine HA.out.mono ?_
      rintro e w3 ⟨rfl, bel3⟩
      have HB3 := Lib.hid (HB2.out.trans (bel3.mono HB2.out.size))
      clear bel3 y0 y1 y2
      obtain ⟨y0, y1, y2⟩ := HK.out _ HB3.out
      have HLK := Lib.hid (sLinksOfKind_any h N 2 w3 (HR.out _ HB3.out) hnw hnl hnc)
      go_wp2_with (fail)
      refine HLK.out.mono ?_
      rintro e w4 ⟨A4, c4, rfl, own4, bel4⟩
      have HB4 := Lib.hid (HB3.out.trans (bel4.mono HB3.out.size))
      clear own4 bel4 y0 y1 y2
      by_cases hk0 : (kinN N 2).length = 0
      · have hv := atN_valid HAT.out
        have HVT := Lib.hid hv
        have HNC := Lib.hid (nocut_of hv hk0)
        have HMB := Lib.hid (maB_yes HCQ.out HAT.out hk0)
        have h48 := (valN_size hv).2
        have h48w := (valN_size hv).1
        rw [hk0]
        clear hk0 hv
        obtain ⟨y0, y1, y2⟩ := HK.out _ HB4.out
        have HLW := Lib.hid (sLeafWires_any h N w4 (HR.out _ HB4.out) hnw hnl hnc)
        go_wp2_with (fail)
        refine HLW.out.mono ?_
        rintro e w5 ⟨A5, c5, rfl, own5, bel5⟩
        have HB5 := Lib.hid (HB4.out.trans (bel5.mono HB4.out.size))
        have HRL := Lib.hid (RdI.of_own own5)
        have hln := lwN_len N
        have h0 : (w5.alloc (.cells #[] 2)).ownsRow w5.heap.size 2 1 (.slice (some ⟨w5.heap.size, 0, none⟩) 0 0) (maU N 0).length ((maU N 0).map (Value.int .i64)) := World.ownsRow_made w5 #[] 0 (Nat.le_refl _) (by simp [maxLen]) rfl
        have H0 := Lib.hid h0
        have B6 : Hid (Below w5.heap.size w5 (w5.alloc (.cells #[] 2))) := Lib.hid ((Below.refl _ _).alloc (Nat.le_refl _) _)
        clear own5 bel5 y0 y1 y2 h0
        go_wp2
        go_loopw [7, 8] (fun v i wr => ∃ k : Nat, k ≤ (lwN N).length ∧ i = .int .i64 k ∧ wr.ownsRow w5.heap.size 2 1 v (maU N k).length ((maU N k).map (Value.int .i64)) ∧ Below w5.heap.size w5 wr) (fun _ i _ => (lwN N).length - (intOf i).toNat)
        case atStart => exact ⟨0, Nat.zero_le _, rfl, H0.out, B6.out⟩
        case round =>
          obtain ⟨k, hk, rfl, hown, hB⟩ := hrel
          by_cases hlt : k < (lwN N).length
          · have hox := leaf_out HVT.out hlt
            obtain ⟨hxw, ks, hfs, hk1⟩ := hox
            obtain ⟨hksl, hsb⟩ := src_find hfs
            have hfit := link_fits HVT.out hksl
            obtain ⟨_, hal, ea⟩ := inW_yes (fitsN_yes hfit).1
            obtain ⟨_, hbl, eb⟩ := inW_yes (fitsN_yes hfit).2.1
            obtain ⟨_, hxl, ex⟩ := inW_yes hxw
            have HPAR : Hid (parN N ((lwN N).getD k 0) = (N.l.getD ks Lk.nil).a + (N.l.getD ks Lk.nil).b - (lwN N).getD k 0) := Lib.hid (by unfold parN; rw [srcL_at hfs])
            have hfk : firstN (srcB ((lwN N).getD k 0)) N.l = (ks : Int) := by unfold firstN; rw [hfs]
            have HB9 := Lib.hid (HB5.out.trans (hB.mono HB5.out.size))
            have HRX := Lib.hid (fun (wx : World) (hx : Below wr.heap.size wr wx) => show Below w0.heap.size w0 wx from HB9.out.trans (hx.mono HB9.out.size))
            have HF := Lib.hid (fun (wx : World) (hx : Below wr.heap.size wr wx) => sFrom_any h.A h.L h.C N.w.length h.c h.d N.c.length h.e N.l ((lwN N).getD k 0) wx ((HR.out wx (HRX.out wx hx)).2.1) hnl)
            rw [hfk] at HF
            obtain ⟨b, off, hLL, hbb, _⟩ := (HR.out _ HB9.out).2.1.at (show 0 < N.l.length by omega)
            have HLL := Lib.hid hLL
            rw [hLL] at HF
            obtain ⟨b5, off5, hA5, hb5, hc5⟩ := (HRL.out).2 (by omega)
            have HL5 := Lib.hid (fun m (hm : m < (lwN N).length) (wx : World) (hx : Below w5.heap.size w5 wx) => (hx.cell (p := ⟨b5, off5 + m, none⟩) hb5).trans (hc5 m hm))
            have HMI := Lib.hid (maI_zero N k)
            have HMA := Lib.hid (maI_all HVT.out HNC.out hlt)
            have HMY := Lib.hid (fun m (hm : m < (lwN N).length) e => maI_yes HVT.out HNC.out (i := k) hm e)
            have HMN := Lib.hid (fun m e => maI_no HVT.out HNC.out (i := k) (m := m) hlt e)
            have HML := Lib.hid (fun m => maI_len (N := N) (i := k) (m := m) hlt)
            have HO := Lib.hid hown; have HB := Lib.hid hB
            have hki : (ks : Int) < (N.l.length : Int) := by omega
            obtain ⟨x, hx⟩ : ∃ x, (lwN N).getD k 0 = x := ⟨_, rfl⟩
            rw [hx] at HPAR HF hxl ex HMY HMN
            have HX := Lib.hid hx
            obtain ⟨⟨lk, la, lb, lc⟩, hl⟩ : ∃ l, N.l.getD ks Lk.nil = l := ⟨_, rfl⟩
            rw [hl] at hal ea hbl eb HPAR
            dsimp only at hal ea hbl eb HPAR
            have HLG := Lib.hid hl
            have hw1 : IntKind.i64.wrap (la + lb) = la + lb := IntWalk.i64_in _ (by omega)
            have hw2 : IntKind.i64.wrap (la + lb - x) = la + lb - x := IntWalk.i64_in _ (by omega)
            have HW1 := Lib.hid hw1; have HW2 := Lib.hid hw2
            have HSX : Hid (∀ wx : World, Below wr.heap.size wr wx → wx.cell? ⟨w.heap.size, 0, none⟩ = some (.slice h.A N.w.length h.c) ∧ wx.cell? ⟨w.heap.size, 1, none⟩ = some (.slice (some ⟨b, off, none⟩) N.l.length h.d) ∧ wx.cell? ⟨w.heap.size, 2, none⟩ = some (.slice h.C N.c.length h.e) ∧ wx.cell? ⟨b5, off5 + k, none⟩ = some (.int .i64 x) ∧ wx.cell? ⟨b, off + ks * 4, none⟩ = some (.int .i64 lk) ∧ wx.cell? ⟨b, off + ks * 4 + 1, none⟩ = some (.int .i64 la) ∧ wx.cell? ⟨b, off + ks * 4 + 2, none⟩ = some (.int .i64 lb) ∧ wx.cell? ⟨b, off + ks * 4 + 3, none⟩ = some (.int .i64 lc)) := Lib.hid fun wx hx => by
              obtain ⟨n0, n1, n2⟩ := HK.out wx (HRX.out wx hx)
              obtain ⟨b', off', hL', _, hcells⟩ := (HR.out _ (HRX.out wx hx)).2.1.at (show 0 < N.l.length by omega)
              rw [HLL.out] at n1 hL'
              injection hL' with hL'; injection hL' with e1 e2
              subst e1; subst e2
              have hcl := hcells ks hksl
              rw [HLG.out] at hcl
              have hc := HL5.out k hlt wx (HB.out.trans (hx.mono HB.out.size))
              rw [HX.out] at hc
              exact ⟨n0, n1, n2, hc, hcl⟩
            have HOB := Lib.hid hown.lt
            have hsr := hB.size
            subst hA5
            clear hown hB hxw hfs hk1 hsb hfit hLL hc5 hx hl hfk hal ea hbl eb hxl ex hw1 hw2
            go_upto_region 9 with (fail)
            go_cut [9] (fun p wx => ∃ g, p = .pointer (some ⟨g, 0, none⟩) ∧ wr.heap.size ≤ g ∧ wx.heap[g]? = some (.cells #[.int .i64 lk, .int .i64 la, .int .i64 lb, .int .i64 lc] 71 (0, 0)) ∧ Below wr.heap.size wr wx)
            case first =>
              have FB_0 := Lib.hid (Below.refl wr.heap.size wr)
              refine wp_region_held_drew (S := fun wx => wx.cell? ⟨w.heap.size, 0, none⟩ = some (.slice h.A N.w.length h.c) ∧ wx.cell? ⟨w.heap.size, 1, none⟩ = some (.slice (some ⟨b, off, none⟩) N.l.length h.d) ∧ wx.cell? ⟨w.heap.size, 2, none⟩ = some (.slice h.C N.c.length h.e) ∧ wx.cell? ⟨b5, off5 + k, none⟩ = some (.int .i64 x) ∧ wx.cell? ⟨b, off + ks * 4, none⟩ = some (.int .i64 lk) ∧ wx.cell? ⟨b, off + ks * 4 + 1, none⟩ = some (.int .i64 la) ∧ wx.cell? ⟨b, off + ks * 4 + 2, none⟩ = some (.int .i64 lb) ∧ wx.cell? ⟨b, off + ks * 4 + 3, none⟩ = some (.int .i64 lc)) (by kernel_rfl) (HSX.out _ (Below.refl _ _).drew) (fun hHeld => ?_)
              obtain ⟨wr1, hwr1⟩ : ∃ w', w' = wr.drew := ⟨_, rfl⟩
              rw [← hwr1] at hHeld ⊢
              have br1 : Below wr.heap.size wr wr1 := by rw [hwr1]; exact (Below.refl _ _).drew
              clear hwr1
              have FB_r2 := Lib.hid ((FB_0.out).trans ((br1).mono (FB_0.out).size))
              clear FB_0
              refine wpAnyH_take (i := 0) (v := ?vr3) rfl (by kernel_rfl) (by kernel_rfl) (by kernel_rfl) (fun _ _ _ h => h) (Or.inl ⟨by rfl, ?yr3⟩) (by assumption) ?_
              case yr3 => (intro w hSw; (try dsimp only at hSw); go_simp; all_goals (with_reducible rfl))
              (try simp only [Act.put, List.setIfInBounds_toArray, List.set_cons_zero, List.set_cons_succ, List.getElem_toArray, List.getElem_cons_succ, List.getElem_cons_zero])
              refine wpAnyH_take (i := 2) (v := ?vr4) rfl (by kernel_rfl) (by kernel_rfl) (by kernel_rfl) (fun _ _ _ h => h) (Or.inl ⟨by rfl, ?yr4⟩) (by assumption) ?_
              case yr4 => (intro w hSw; (try dsimp only at hSw); go_simp; all_goals (with_reducible rfl))
              (try simp only [Act.put, List.setIfInBounds_toArray, List.set_cons_zero, List.set_cons_succ, List.getElem_toArray, List.getElem_cons_succ, List.getElem_cons_zero])
              refine wpAnyH_take (i := 3) (v := ?vr5) rfl (by kernel_rfl) (by kernel_rfl) (by kernel_rfl) (fun _ _ _ h => h) (Or.inl ⟨by rfl, ?yr5⟩) (by assumption) ?_
              case yr5 => (intro w hSw; (try dsimp only at hSw); go_simp; all_goals (with_reducible rfl))
              (try simp only [Act.put, List.setIfInBounds_toArray, List.set_cons_zero, List.set_cons_succ, List.getElem_toArray, List.getElem_cons_succ, List.getElem_cons_zero])
              refine wpAnyH_take (i := 4) (v := ?vr6) rfl (by kernel_rfl) (by kernel_rfl) (by kernel_rfl) (fun _ _ _ h => h) (Or.inl ⟨by rfl, ?yr6⟩) (by assumption) ?_
              case yr6 => (intro w hSw; (try dsimp only at hSw); go_simp; all_goals (with_reducible rfl))
              (try simp only [Act.put, List.setIfInBounds_toArray, List.set_cons_zero, List.set_cons_succ, List.getElem_toArray, List.getElem_cons_succ, List.getElem_cons_zero])
              refine wpAnyH_take (i := 1) (v := ?vr7) rfl (by kernel_rfl) (by kernel_rfl) (by kernel_rfl) (fun _ _ _ h => h) (Or.inl ⟨by rfl, ?yr7⟩) (by assumption) ?_
              case yr7 => (intro w hSw; (try dsimp only at hSw); go_simp; all_goals (with_reducible rfl))
              (try simp only [Act.put, List.setIfInBounds_toArray, List.set_cons_zero, List.set_cons_succ, List.getElem_toArray, List.getElem_cons_succ, List.getElem_cons_zero])
              refine wpAnyH_take (i := 5) (v := ?vr8) rfl (by kernel_rfl) (by kernel_rfl) (by kernel_rfl) (fun _ _ _ h => h) (Or.inl ⟨by rfl, ?yr8⟩) (by assumption) ?_
              case yr8 => (intro w hSw; (try dsimp only at hSw); go_simp; all_goals (with_reducible rfl))
              (try simp only [Act.put, List.setIfInBounds_toArray, List.set_cons_zero, List.set_cons_succ, List.getElem_toArray, List.getElem_cons_succ, List.getElem_cons_zero])
              refine wpAnyH_take (i := 6) (v := ?vr9) rfl (by kernel_rfl) (by kernel_rfl) (by kernel_rfl) (fun _ _ _ h => h) (Or.inl ⟨by rfl, ?yr9⟩) (by assumption) ?_
              case yr9 => (intro w hSw; (try dsimp only at hSw); go_simp; all_goals (with_reducible rfl))
              (try simp only [Act.put, List.setIfInBounds_toArray, List.set_cons_zero, List.set_cons_succ, List.getElem_toArray, List.getElem_cons_succ, List.getElem_cons_zero])
              refine wpAnyH_ready (rs := [7, 10]) (by kernel_rfl) (by simp) ?_
              refine AllReadyH.cons rfl (fun K hK => ?_) ?_
              · go_simp
                refine (HF.out wr1 FB_r2.out).mono ?_
                rintro e wr10 ⟨rfl, belr10⟩
                dsimp only
                have FB_r11 := Lib.hid ((FB_r2.out).trans ((belr10).mono (FB_r2.out).size))
                clear FB_r2
                clear belr10
                refine hK.out _ _ (HSX.out _ FB_r11.out) (fun hHeld => ?_)
                clear hK K
                (try simp only [Act.put, List.setIfInBounds_toArray, List.set_cons_zero, List.set_cons_succ, List.getElem_toArray, List.getElem_cons_succ, List.getElem_cons_zero])
                refine wpAnyH_take (i := 8) (v := ?vr12) rfl (by kernel_rfl) (by kernel_rfl) (by kernel_rfl) (fun _ _ _ h => h) (Or.inl ⟨by rfl, ?yr12⟩) (by assumption) ?_
                case yr12 => (intro w hSw; (try dsimp only at hSw); go_simp; all_goals (with_reducible rfl))
                (try simp only [Act.put, List.setIfInBounds_toArray, List.set_cons_zero, List.set_cons_succ, List.getElem_toArray, List.getElem_cons_succ, List.getElem_cons_zero])
                refine wpAnyH_take (i := 9) (v := ?vr13) rfl (by kernel_rfl) (by kernel_rfl) (by kernel_rfl) (fun _ _ _ h => h) (Or.inl ⟨by rfl, ?yr13⟩) (by assumption) ?_
                case yr13 => (intro w hSw; (try dsimp only at hSw); go_simp; all_goals (with_reducible rfl))
                (try simp only [Act.put, List.setIfInBounds_toArray, List.set_cons_zero, List.set_cons_succ, List.getElem_toArray, List.getElem_cons_succ, List.getElem_cons_zero])
                refine wpAnyH_ready (rs := [10]) (by kernel_rfl) (by simp) ?_
                refine AllReadyH.cons rfl (fun K hK => ?_) ?_
                · have GE := FB_r11.out.size
                  go_simp
                  obtain ⟨wr14, hwr14⟩ : ∃ w', w' = wr10.alloc (.cells #[.int .i64 0, .int .i64 0, .int .i64 0, .int .i64 0] 71) := ⟨_, rfl⟩
                  rw [← hwr14]
                  have br14 : Below wr10.heap.size wr10 wr14 := by rw [hwr14]; exact (Below.refl _ _).alloc (Nat.le_refl _) _
                  have gr14 : wr14.heap[wr10.heap.size]? = some (.cells #[.int .i64 0, .int .i64 0, .int .i64 0, .int .i64 0] 71 (0, 0)) := by rw [hwr14]; exact heap_alloc_new _ _
                  clear hwr14
                  have FB_r15 := Lib.hid ((FB_r11.out).trans ((br14).mono (FB_r11.out).size))
                  clear FB_r11
                  obtain ⟨gar16, hgr16⟩ : ∃ b, wr10.heap.size = b := ⟨_, rfl⟩
                  have GE_gar16 := Lib.hid (show wr.heap.size ≤ gar16 by omega)
                  have GB_r16 := Lib.hid gr14
                  rw [hgr16] at GB_r16 ⊢
                  clear hgr16 gr14 br14
                  clear GE
                  refine hK.out _ _ (HSX.out _ FB_r15.out) (fun hHeld => ?_)
                  clear hK K
                  (try simp only [Act.put, List.setIfInBounds_toArray, List.set_cons_zero, List.set_cons_succ, List.getElem_toArray, List.getElem_cons_succ, List.getElem_cons_zero])
                  refine wpAnyH_ready (rs := [11]) (by kernel_rfl) (by simp) ?_
                  refine AllReadyH.cons rfl (fun K hK => ?_) ?_
                  · have e0 := cell_of_row _ _ 0 _ _ (0, 0) GB_r16.out; have e1 := cell_of_row _ _ 1 _ _ (0, 0) GB_r16.out; have e2 := cell_of_row _ _ 2 _ _ (0, 0) GB_r16.out; have e3 := cell_of_row _ _ 3 _ _ (0, 0) GB_r16.out
                    have f0 := frozen_of_row _ _ 0 _ _ GB_r16.out; have f1 := frozen_of_row _ _ 1 _ _ GB_r16.out; have f2 := frozen_of_row _ _ 2 _ _ GB_r16.out; have f3 := frozen_of_row _ _ 3 _ _ GB_r16.out
                    have h9 := set4_at GB_r16.out (.int .i64 lk) (.int .i64 la) (.int .i64 lb) (.int .i64 lc)
                    have b9 := set4_below FB_r15.out GE_gar16.out (.int .i64 lk) (.int .i64 la) (.int .i64 lb) (.int .i64 lc)
                    have H9 := Lib.hid h9; have B9 := Lib.hid b9; have GE9 := GE_gar16
                    clear h9 b9
                    go_simp
                    clear e0 e1 e2 e3 f0 f1 f2 f3
                    refine hK.out _ _ (HSX.out _ B9.out) (fun hHeld => ?_)
                    clear hK K
                    (try simp only [Act.put, List.setIfInBounds_toArray, List.set_cons_zero, List.set_cons_succ, List.getElem_toArray, List.getElem_cons_succ, List.getElem_cons_zero])
                    refine wpAnyH_done (by kernel_rfl) ?_ _
                    go_wp2_with (fail)
                    go_meet
                    exact ⟨_, rfl, GE9.out, H9.out, B9.out⟩
                  exact AllReadyH.nil
                exact AllReadyH.nil
              refine AllReadyH.cons rfl (fun K hK => ?_) ?_
              · have GE := FB_r2.out.size
                go_simp
                obtain ⟨wr18, hwr18⟩ : ∃ w', w' = wr1.alloc (.cells #[.int .i64 0, .int .i64 0, .int .i64 0, .int .i64 0] 71) := ⟨_, rfl⟩
                rw [← hwr18]
                have br18 : Below wr1.heap.size wr1 wr18 := by rw [hwr18]; exact (Below.refl _ _).alloc (Nat.le_refl _) _
                have gr18 : wr18.heap[wr1.heap.size]? = some (.cells #[.int .i64 0, .int .i64 0, .int .i64 0, .int .i64 0] 71 (0, 0)) := by rw [hwr18]; exact heap_alloc_new _ _
                clear hwr18
                have FB_r19 := Lib.hid ((FB_r2.out).trans ((br18).mono (FB_r2.out).size))
                clear FB_r2
                obtain ⟨gar20, hgr20⟩ : ∃ b, wr1.heap.size = b := ⟨_, rfl⟩
                have GE_gar20 := Lib.hid (show wr.heap.size ≤ gar20 by omega)
                have GB_r20 := Lib.hid gr18
                rw [hgr20] at GB_r20 ⊢
                clear hgr20 gr18 br18
                clear GE
                refine hK.out _ _ (HSX.out _ FB_r19.out) (fun hHeld => ?_)
                clear hK K
                (try simp only [Act.put, List.setIfInBounds_toArray, List.set_cons_zero, List.set_cons_succ, List.getElem_toArray, List.getElem_cons_succ, List.getElem_cons_zero])
                refine wpAnyH_ready (rs := [7]) (by kernel_rfl) (by simp) ?_
                refine AllReadyH.cons rfl (fun K hK => ?_) ?_
                · go_simp
                  refine (HF.out wr18 FB_r19.out).mono ?_
                  rintro e wr21 ⟨rfl, belr21⟩
                  dsimp only
                  have FB_r22 := Lib.hid ((FB_r19.out).trans ((belr21).mono (FB_r19.out).size))
                  have GB_r23 := Lib.hid (((belr21).block _ (Array.getElem?_eq_some_iff.1 (GB_r20.out)).1).trans (GB_r20.out))
                  clear FB_r19 GB_r20
                  clear belr21
                  refine hK.out _ _ (HSX.out _ FB_r22.out) (fun hHeld => ?_)
                  clear hK K
                  (try simp only [Act.put, List.setIfInBounds_toArray, List.set_cons_zero, List.set_cons_succ, List.getElem_toArray, List.getElem_cons_succ, List.getElem_cons_zero])
                  refine wpAnyH_take (i := 8) (v := ?vr24) rfl (by kernel_rfl) (by kernel_rfl) (by kernel_rfl) (fun _ _ _ h => h) (Or.inl ⟨by rfl, ?yr24⟩) (by assumption) ?_
                  case yr24 => (intro w hSw; (try dsimp only at hSw); go_simp; all_goals (with_reducible rfl))
                  (try simp only [Act.put, List.setIfInBounds_toArray, List.set_cons_zero, List.set_cons_succ, List.getElem_toArray, List.getElem_cons_succ, List.getElem_cons_zero])
                  refine wpAnyH_take (i := 9) (v := ?vr25) rfl (by kernel_rfl) (by kernel_rfl) (by kernel_rfl) (fun _ _ _ h => h) (Or.inl ⟨by rfl, ?yr25⟩) (by assumption) ?_
                  case yr25 => (intro w hSw; (try dsimp only at hSw); go_simp; all_goals (with_reducible rfl))
                  (try simp only [Act.put, List.setIfInBounds_toArray, List.set_cons_zero, List.set_cons_succ, List.getElem_toArray, List.getElem_cons_succ, List.getElem_cons_zero])
                  refine wpAnyH_ready (rs := [11]) (by kernel_rfl) (by simp) ?_
                  refine AllReadyH.cons rfl (fun K hK => ?_) ?_
                  · have e0 := cell_of_row _ _ 0 _ _ (0, 0) GB_r23.out; have e1 := cell_of_row _ _ 1 _ _ (0, 0) GB_r23.out; have e2 := cell_of_row _ _ 2 _ _ (0, 0) GB_r23.out; have e3 := cell_of_row _ _ 3 _ _ (0, 0) GB_r23.out
                    have f0 := frozen_of_row _ _ 0 _ _ GB_r23.out; have f1 := frozen_of_row _ _ 1 _ _ GB_r23.out; have f2 := frozen_of_row _ _ 2 _ _ GB_r23.out; have f3 := frozen_of_row _ _ 3 _ _ GB_r23.out
                    have h9 := set4_at GB_r23.out (.int .i64 lk) (.int .i64 la) (.int .i64 lb) (.int .i64 lc)
                    have b9 := set4_below FB_r22.out GE_gar20.out (.int .i64 lk) (.int .i64 la) (.int .i64 lb) (.int .i64 lc)
                    have H9 := Lib.hid h9; have B9 := Lib.hid b9; have GE9 := GE_gar20
                    clear h9 b9
                    go_simp
                    clear e0 e1 e2 e3 f0 f1 f2 f3
                    refine hK.out _ _ (HSX.out _ B9.out) (fun hHeld => ?_)
                    clear hK K
                    (try simp only [Act.put, List.setIfInBounds_toArray, List.set_cons_zero, List.set_cons_succ, List.getElem_toArray, List.getElem_cons_succ, List.getElem_cons_zero])
                    refine wpAnyH_done (by kernel_rfl) ?_ _
                    go_wp2_with (fail)
                    go_meet
                    exact ⟨_, rfl, GE9.out, H9.out, B9.out⟩
                  exact AllReadyH.nil
                exact AllReadyH.nil
              exact AllReadyH.nil
            case rest =>
            obtain ⟨g, rfl, hg0, p2, b2⟩ := hcut
            rename World => w7
            have P2 := Lib.hid p2
            have HB7 := Lib.hid (HB.out.trans (b2.mono HB.out.size))
            have O7 := Lib.hid (own_below HO.out b2 (Nat.le_refl _))
            have NG := Lib.hid (fun e => (absurd (HOB.out g e).2 (by omega) : False))
            have hg7 : g < w7.heap.size := (Array.getElem?_eq_some_iff.1 p2).1
            clear b2 p2
            go_wp2
            go_loopw [7, 10] (fun v i wx => ∃ m : Nat, m ≤ (lwN N).length ∧ i = .int .i64 m ∧ wx.ownsRow w5.heap.size 2 1 v (maI N k m).length ((maI N k m).map (Value.int .i64)) ∧ wx.heap[g]? = some (.cells #[.int .i64 lk, .int .i64 la, .int .i64 lb, .int .i64 lc] 71 (0, 0)) ∧ v.ownBlock ≠ some g ∧ g < wx.heap.size ∧ Below w5.heap.size w5 wx) (fun _ i _ => (lwN N).length - (intOf i).toNat)
            case atStart => exact ⟨0, Nat.zero_le _, rfl, (by rw [HMI.out]; exact O7.out), P2.out, NG.out, hg7, HB7.out⟩
            case round =>
              obtain ⟨m, hm, rfl, hown, hp, hng, hgs, hB⟩ := hrel
              obtain ⟨z0, z1, z2, z3⟩ := cells4 hp
              by_cases hlm : m < (lwN N).length
              · have hcm := HL5.out m hlm _ hB
                have hck := HL5.out k hlt _ hB
                rw [HX.out] at hck
                have hw1 := HW1.out; have hw2 := HW2.out
                have hkx : (k : Int) < ((lwN N).length : Int) := by omega
                obtain ⟨t, ht⟩ : ∃ t, (lwN N).getD m 0 = t := ⟨_, rfl⟩
                rw [ht] at hcm
                have HTT := Lib.hid ht
                have HO2 := Lib.hid hown; have HB2' := Lib.hid hB; have HP := Lib.hid hp; have HNG := Lib.hid hng
                have hml := HML.out m
                clear hown hB hp hng ht
                by_cases he : t = la + lb - x
                · have hd : (t == la + lb - x) = true := by simpa using he
                  have HSU := Lib.hid (HMY.out m hlm (by rw [HTT.out, HPAR.out]; exact he))
                  clear he
                  go_upto_region 13 with (fail)
                  go_quiet (fail)
                  have bq1 := below_drewN (Below.refl wr.heap.size wr) nq
                  have HB8 := Lib.hid (below_drewN HB2'.out nq)
                  have HO8 := Lib.hid (own_below HO2.out bq1 (Nat.le_refl _))
                  have HP8 := Lib.hid ((bq1.block g hgs).trans HP.out)
                  obtain ⟨v1, hv1⟩ : ∃ x, x = wr.drewN nq := ⟨_, rfl⟩
                  rw [← hv1] at HB8 HO8 HP8 ⊢
                  have hs8 : wr.heap.size ≤ v1.heap.size := by rw [hv1]; exact bq1.size
                  have hg8 : g < v1.heap.size := by omega
                  have HLO := Lib.hid (show w5.heap.size ≤ v1.heap.size from HB8.out.size)
                  obtain ⟨H8, hH8⟩ : ∃ q, v1.heap.size = q := ⟨_, rfl⟩
                  have HH8 := Lib.hid hH8
                  have HGL := Lib.hid hg8
                  clear bq1 hv1 hs8 hH8 hcm hck z0 z1 z2 z3 hg8
                  go_wp2_with (at_builtin; refine wpList_append_lies _ rfl _ _ 24 rfl w5.heap.size 2 i0 (.int .i64 0) 1 8 Tryd.underlying24 HI.out HZ0.out HZ1.out HZ2.out rfl (by decide) _ _ _ rfl (HO8.out.alloc _) ⟨v1.heap.size, 0, none⟩ 1 1 [.int .i64 m] rfl rfl (cell_one_new _ _ _) (by simp [Value.oneCell']) (by decide) (by simp only [maxLen]; omega) (by omega) (Nat.le_trans HLO.out (by simp)) (H8 + 1) (by simp [HH8.out]) ?_)
                  intro g9 cap9 w9 own9 grow9 at9 lt9
                  have HNG9 : Hid ((Value.slice (some ⟨g9, 0, none⟩) ((maI N k m).length + 1) cap9).ownBlock ≠ some g) := Lib.hid (fun e => by
                    have e' : g9 = g := Option.some.inj (show some g9 = some g from e)
                    rcases at9 with q | q
                    · exact HNG.out (by rw [q, e'])
                    · have h1 := HGL.out; have h2 := HH8.out; omega)
                  have HP9 := Lib.hid ((grow9.block g (by simp; have := HGL.out; omega) (fun e => HNG.out e.symm)).trans (((Below.refl v1.heap.size v1).alloc (Nat.le_refl _) (.cells #[.int .i64 m] 2)).block g HGL.out |>.trans HP8.out))
                  have HB9' := Lib.hid ((HB8.out.alloc HB8.out.size (.cells #[.int .i64 m] 2)).grown grow9 (by simp; have := HLO.out; omega) (fun q hq => (HO8.out.lt q hq).1))
                  have HLS := Lib.hid (show (maI N k (m + 1)).length = (maI N k m).length + 1 by rw [HSU.out, List.length_append]; rfl)
                  have O9 : Hid (w9.ownsRow w5.heap.size 2 1 (.slice (some ⟨g9, 0, none⟩) ((maI N k m).length + 1) cap9) (maI N k (m + 1)).length ((maI N k (m + 1)).map (Value.int .i64))) := Lib.hid (by rw [HLS.out, HSU.out, List.map_append]; exact own9)
                  have HG9 := Lib.hid (show g < w9.heap.size by have h1 := grow9.size; simp at h1; have h2 := HGL.out; omega)
                  clear own9 grow9 at9 lt9
                  go_wp2
                  go_roundw
                  case rel => exact ⟨m + 1, by omega, by go_num, O9.out, HP9.out, HNG9.out, HG9.out, HB9'.out⟩
                  case measure => simp [intOf]; omega
                · have hd : (t == la + lb - x) = false := by simpa using he
                  have HSU := Lib.hid (HMN.out m (by rw [HTT.out, HPAR.out]; exact he))
                  clear he
                  go_upto_region 13 with (fail)
                  go_quiet (fail)
                  have bq1 := below_drewN (Below.refl wr.heap.size wr) nq
                  have HB8 := Lib.hid (below_drewN HB2'.out nq)
                  have HO8 := Lib.hid (own_below HO2.out bq1 (Nat.le_refl _))
                  have HP8 := Lib.hid ((bq1.block g hgs).trans HP.out)
                  have HG8 := Lib.hid (Nat.lt_of_lt_of_le hgs bq1.size)
                  clear bq1 hcm hck z0 z1 z2 z3
                  go_wp2
                  go_roundw
                  case rel => exact ⟨m + 1, by omega, by go_num, (by rw [HSU.out]; exact HO8.out), HP8.out, HNG.out, HG8.out, HB8.out⟩
                  case measure => simp [intOf]; omega
              · have hml : m = (lwN N).length := by omega
                subst hml
                have O6 := Lib.hid (show _root_.Go.World.ownsRow _ w5.heap.size 2 1 _ (maU N (k + 1)).length ((maU N (k + 1)).map (Value.int .i64)) by rw [← HMA.out]; exact hown)
                have HB6 := Lib.hid hB
                clear hown hB hp hng z0 z1 z2 z3
                go_wp2
                go_roundw
                case rel => exact ⟨k + 1, by omega, by go_num, O6.out, HB6.out⟩
                case measure => simp [intOf]; omega
          · have hkl : k = (lwN N).length := by omega
            subst hkl
            obtain ⟨A9, c9, rfl⟩ := own_shapeS hown
            have hlm : (maL N).length = (lwN N).length := maU_len (Nat.le_refl _)
            have HG2 : Hid (GivesB w (maV N) (maB N) (.returned (.tuple #[.slice A9 (maL N).length c9, .bool true])) wr) := Lib.hid (by
              rw [maV_yes HMB.out, HMB.out]
              exact ⟨A9, c9, rfl, (show wr.ownsRow w5.heap.size 2 1 (.slice A9 (maL N).length c9) (maL N).length ((maL N).map (Value.int .i64)) from hown).mono (by have h1 := HB0.out.size; have h2 := HB5.out.size; omega), HB0.out.trans ((HB5.out.trans (hB.mono HB5.out.size)).mono HB0.out.size)⟩)
            rw [show maU N (lwN N).length = maL N from rfl]
            clear hown hB hlm
            go_wp2
            go_ret2
            exact HG2.out
      · have HG := Lib.hid (givesB_noS (maB_k hk0) (HB0.out.trans (HB4.out.mono HB0.out.size)))
        have hd0 : decide (0 < ((kinN N 2).length : Int)) = true := decide_eq_true (by omega)
        have hd0n : decide (0 < (kinN N 2).length) = true := decide_eq_true (by omega)
        clear hk0
        go_wp2
        go_ret2
        exact HG.out
end Go.Proofs.YtfanapddopafiaaDoor
