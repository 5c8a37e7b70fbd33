/- The model's AtomicNet. -/
import Derived.Test.YtfanapddopafiaaDoorAtM
import Derived.Test.YtfanapddopafiaaDoorQNetK
namespace Go.Proofs.YtfanapddopafiaaDoor
set_option linter.unusedSimpArgs false
set_option linter.unusedVariables false
open Go.ChangeAt Go.ChangeShapes Go.RowKit Go.WideShapes

set_option maxRecDepth 100000 in
set_option maxHeartbeats 4000000 in
theorem sAtomicNet_any (h : NH) (N : Nt) (w : World) (r : RdN w w.heap.size h N) (hn : N.w.length ≤ 1048576) (hl : N.l.length ≤ 1048576) (hc : N.c.length ≤ 1048576) :
    Calls Tryd.prog 49 #[.agg #[.slice h.A N.w.length h.c, .slice h.L N.l.length h.d, .slice h.C N.c.length h.e]] w fun e w' => e = .returned (.bool (atN N)) ∧ Below w.heap.size w w' := by
  obtain ⟨w0, hw0⟩ : ∃ w0, w0 = w.alloc (.cells #[.slice h.A N.w.length h.c, .slice h.L N.l.length h.d, .slice h.C N.c.length h.e] 31) := ⟨_, rfl⟩
  obtain ⟨hb, hh, hsz⟩ := box3_any w (.slice h.A N.w.length h.c) (.slice h.L N.l.length h.d) (.slice h.C N.c.length h.e) 31
  rw [← hw0] at hb hh hsz
  have hs0 : w.heap.size + 1 ≤ w0.heap.size := by omega
  have HK : Hid (∀ w', Below w0.heap.size w0 w' → w'.cell? ⟨w.heap.size, 0, none⟩ = some (.slice h.A N.w.length h.c) ∧ w'.cell? ⟨w.heap.size, 1, none⟩ = some (.slice h.L N.l.length h.d) ∧ w'.cell? ⟨w.heap.size, 2, none⟩ = some (.slice h.C N.c.length h.e)) := Lib.hid fun w' hw => three_cells ((hw.block _ (by omega)).trans hh)
  have HR := Lib.hid (fun (w' : World) (hw : Below w0.heap.size w0 w') => ((r.below (hb.trans (hw.mono hb.size))).more (Nat.le_trans hb.size hw.size)))
  have HV := Lib.hid (fun (w' : World) (hw : Below w0.heap.size w0 w') => sValidNet_any h N w' ((r.below (hb.trans (hw.mono hb.size))).more (Nat.le_trans hb.size hw.size)) hn hl hc)
  have HB0 := Lib.hid hb
  clear hb hh hsz r
  go_enter Tryd.func49, Tryd.ntmps49
  go_wp2
  rw [← hw0]
  clear hw0
  go_loopw [3] (fun i wx => ∃ k : Nat, k ≤ N.l.length ∧ i = .int .i64 k ∧ OrV k N ∧ (∀ j, j < k → atomL N.w (N.l.getD j Lk.nil) = true) ∧ Below w0.heap.size w0 wx) (fun i _ => N.l.length - (intOf i).toNat)
  case atStart => exact ⟨0, Nat.zero_le _, rfl, .inl rfl, fun j hj => absurd hj (by omega), Below.refl _ _⟩
  case round =>
    obtain ⟨k, hk, rfl, hor, hno, hB⟩ := hrel
    obtain ⟨y0, y1, y2⟩ := HK.out _ hB
    by_cases hlt : k < N.l.length
    · have hV := HV.out _ hB
      cases hv : valN N with
      | false =>
        have HE := Lib.hid (atN_no hv)
        rw [hv] at hV
        have HVV := Lib.hid hV; have HB := Lib.hid hB
        clear hV hB hor hno
        go_wp2_with (fail)
        refine HVV.out.mono ?_
        rintro e w1 ⟨rfl, bel⟩
        have HB1 := Lib.hid (HB.out.trans (bel.mono HB.out.size))
        have hV := HV.out _ HB1.out
        rw [hv] at hV
        have HV2 := Lib.hid hV
        clear bel y0 y1 y2 hv hV
        obtain ⟨y0, y1, y2⟩ := HK.out _ HB1.out
        go_wp2_with (fail)
        refine HV2.out.mono ?_
        rintro e w2 ⟨rfl, bel⟩
        have HB2 := Lib.hid (HB0.out.trans ((HB1.out.trans (bel.mono HB1.out.size)).mono HB0.out.size))
        clear bel y0 y1 y2
        go_wp2
        go_ret
        exact ⟨ret_bool HE.out.symm, HB2.out⟩
      | true =>
        rw [hv] at hV
        have hfit := all_at (d := Lk.nil) (valN_fits hv) hlt
        obtain ⟨_, hix, ez⟩ := inW_yes (fitsN_yes hfit).1
        have HVV := Lib.hid hV; have HB := Lib.hid hB; have HVT := Lib.hid hv
        have HNO := Lib.hid hno
        have HOT := Lib.hid (fun hq => atomL_other (ws := N.w) (l := N.l.getD k Lk.nil) hq)
        have HYE := Lib.hid (fun hq => atomL_yes (ws := N.w) (l := N.l.getD k Lk.nil) hq)
        have HBD := Lib.hid (fun h1 h2 => atN_bad (N := N) hlt (atomL_no h1 h2))
        have hwz : wAt N.w (N.l.getD k Lk.nil).a = N.w.getD (N.l.getD k Lk.nil).a.toNat [] := rfl
        have HGD : Hid (atomL N.w (N.l.getD k Lk.nil) = true → ∀ j, j < k + 1 → atomL N.w (N.l.getD j Lk.nil) = true) := Lib.hid (fun h1 j hj => by by_cases e : j = k; (subst e; exact h1); exact HNO.out j (by omega))
        have HAT : Hid (∀ wx, Below w0.heap.size w0 wx → ∃ b off bw offw A' c', h.L = some ⟨b, off, none⟩ ∧ h.A = some ⟨bw, offw, none⟩ ∧ wx.cell? ⟨b, off + k * 4, none⟩ = some (.int .i64 (N.l.getD k Lk.nil).k) ∧ wx.cell? ⟨b, off + k * 4 + 1, none⟩ = some (.int .i64 (N.l.getD k Lk.nil).a) ∧ wx.cell? ⟨bw, offw + (N.l.getD k Lk.nil).a.toNat, none⟩ = some (.slice A' (N.w.getD (N.l.getD k Lk.nil).a.toNat []).length c')) := Lib.hid fun wx hx => by
          obtain ⟨b, off, hA, hbb, hcells⟩ := (HR.out _ hx).2.1.at (by omega)
          obtain ⟨x0, x1, _, _⟩ := hcells k hlt
          obtain ⟨bw, offw, hW, hbw, hcw⟩ := (HR.out _ hx).1.2 (by omega)
          obtain ⟨A', c', hcell, _, _⟩ := hcw _ hix
          exact ⟨b, off, bw, offw, A', c', hA, hW, x0, x1, hcell⟩
        rw [hwz] at HYE HBD
        obtain ⟨⟨lk, la, lb, lc⟩, hl'⟩ : ∃ l, N.l.getD k Lk.nil = l := ⟨_, rfl⟩
        rw [hl'] at hix ez HOT HYE HBD HGD HAT
        dsimp only at hix ez HOT HYE HBD HGD HAT
        generalize hq : (N.w.getD la.toNat []).length = nl at HYE HBD HAT
        generalize la.toNat = iz at *
        subst ez
        clear hV hB hor hno hfit hl' hwz hv hq
        go_wp2_with (fail)
        refine HVV.out.mono ?_
        rintro e w1 ⟨rfl, bel⟩
        have HB1 := Lib.hid (HB.out.trans (bel.mono HB.out.size))
        clear bel y0 y1 y2
        obtain ⟨y0, y1, y2⟩ := HK.out _ HB1.out
        obtain ⟨b, off, bw, offw, A', c', hA, hW, x0, x1, x2⟩ := HAT.out _ HB1.out
        rw [hA] at y1
        rw [hW] at y0
        clear hA hW
        by_cases hkd : lk = 1
        · subst hkd
          by_cases hq1 : nl = 1
          · have hd2 : ((nl : Int) != 1) = false := by rw [hq1]; rfl
            have HG := Lib.hid (HGD.out (HYE.out hq1))
            clear hq1
            go_upto_region 4 with (fail)
            go_quiet (fail)
            go_wp2
            go_roundw
            case rel => exact ⟨k + 1, by omega, by go_num, .inr HVT.out, HG.out, (below_drewN HB1.out nq)⟩
            case measure => simp [intOf]; omega
          · have hd2 : ((nl : Int) != 1) = true := by simp; omega
            have HE := Lib.hid (HBD.out rfl hq1)
            have HBX := Lib.hid (HB0.out.trans (HB1.out.mono HB0.out.size))
            clear hq1
            go_upto_region 4 with (fail)
            go_quiet (fail)
            go_wp2
            go_ret
            exact ⟨ret_bool HE.out.symm, below_drewN HBX.out nq⟩
        · have hd : (lk == 1) = false := by simpa using hkd
          have HG := Lib.hid (HGD.out (HOT.out hkd))
          clear hkd
          go_upto_region 4 with (fail)
          go_quiet (fail)
          go_wp2
          go_roundw
          case rel => exact ⟨k + 1, by omega, by go_num, .inr HVT.out, HG.out, below_drewN HB1.out nq⟩
          case measure => simp [intOf]; omega
    · have hkl : k = N.l.length := by omega
      subst hkl
      have hV := HV.out _ hB
      have HE : Hid (valN N = atN N) := Lib.hid (by
        cases hv : valN N with
        | true => rw [atN_all hv hno]
        | false => rw [atN_no hv])
      have HVV := Lib.hid hV; have HB := Lib.hid hB
      clear hV hB hor hno
      go_wp2_with (fail)
      refine HVV.out.mono ?_
      rintro e w1 ⟨rfl, bel⟩
      have HB1 := Lib.hid (HB0.out.trans ((HB.out.trans (bel.mono HB.out.size)).mono HB0.out.size))
      clear bel y0 y1 y2
      go_wp2
      go_ret
      exact ⟨ret_bool HE.out, HB1.out⟩
end Go.Proofs.YtfanapddopafiaaDoor
