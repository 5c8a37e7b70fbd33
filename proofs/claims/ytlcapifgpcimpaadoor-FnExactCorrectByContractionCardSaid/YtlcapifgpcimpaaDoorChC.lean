/- The program's linked list read back into a graph. Made by mkchc.py. -/
import Derived.Test.YtlcapifgpcimpaaDoorChA
import Derived.Test.YtlcapifgpcimpaaDoorEgA
import Derived.Deep.RegionHeldLaw
import Derived.Deep.DeepCutAuto
import Derived.BigQuiet
import Derived.Deep.LoopGhost
namespace Go.Proofs.YtlcapifgpcimpaaDoor
set_option linter.unusedSimpArgs false
set_option linter.unusedVariables false
open Go.ChangeAt Go.ChangeShapes Go.RowKit Go.WideShapes

/-- What a function leaves that hands back a graph. -/
def GivesG (w : World) (V : Gr) (e : Ending) (w' : World) : Prop :=
  ∃ h, e = .returned (.agg #[.int .i64 V.n, .slice h.A V.e.length h.c]) ∧ OwnG w' w.heap.size w'.heap.size h V ∧ Below w.heap.size w w'
set_option maxRecDepth 100000 in
set_option maxHeartbeats 1000000 in
theorem graph_any {base c : Nat} {nd : Int} {ns : List Nd} (w : World) (h : ChG w base c nd ns) (hl : ns.length ≤ 1000000) :
    Calls Tryd.prog 74 #[.pointer (some ⟨c, 0, none⟩)] w (GivesG w ⟨nd, edsN ns⟩) := by
  obtain ⟨i3, hi3, hz3, hs3, hb3⟩ := info_partsE
  have HI := Lib.hid hi3; have HZ0 := Lib.hid hz3; have HZ1 := Lib.hid hs3; have HZ2 := Lib.hid hb3
  obtain ⟨w1, hw1⟩ : ∃ w1, w1 = w.alloc (.cells #[.int .i64 0, .slice none 0 0] 30) := ⟨_, rfl⟩
  obtain ⟨hb, hh, hsz⟩ := box2E w (.int .i64 0) (.slice none 0 0) 30
  rw [← hw1] at hb hh hsz
  have HCH := Lib.hid (h.below hb)
  have HRB := Lib.hid hh
  have HB1 := Lib.hid hb
  have hs0 := HCH.out.cells
  have HCL := Lib.hid (show c < w1.heap.size from HCH.out.ltC)
  have hE1 := neqP1; have hE0 := neqP0
  obtain ⟨w2, hw2⟩ : ∃ w2, w2 = w1.alloc (.cells #[.int .i64 nd, .slice none 0 0] 30) := ⟨_, rfl⟩
  have HST0 : Hid (GrSt w1 w2 ⟨none, 0⟩ ⟨nd, []⟩) := Lib.hid (by rw [hw2]; exact GrSt.start w1 nd)
  have HW2 := Lib.hid hw2
  have HSZ := Lib.hid hsz
  obtain ⟨c0, c1⟩ := hs0
  rw [hw1] at c0
  clear hb hh hi3 hz3 hs3 hb3 h hsz
  go_enter Tryd.func74, Tryd.ntmps74
  go_upto_region 2 with (fail)
  rw [← hw1, ← hw2]
  (try rw [← HSZ.out])
  clear hw2 c0 c1 hw1
  have c1 := (HCH.out.below HST0.out.bel).cells.2
  obtain ⟨pv0, hpv0⟩ : ∃ pv, ptE (hdN ns none) = pv := ⟨_, rfl⟩
  rw [hpv0] at c1
  have HPV := Lib.hid hpv0
  clear hpv0
  go_wp2_with (fail)
  clear c1
  go_loopg [4] ns.length (fun k ev wr => ∃ K R hh, Hid (ns = K ++ R ∧ R.length = k) ∧ ev = ptE (hdN R none) ∧ GrSt w1 wr hh ⟨nd, edsN K⟩)
  case atStart => exact ⟨[], ns, ⟨none, 0⟩, Lib.hid ⟨rfl, rfl⟩, HPV.out.symm, HST0.out⟩
  case round =>
    obtain ⟨K, R, hh, hKR, rfl, hST⟩ := hrel
    have HST := Lib.hid hST
    clear hST HST0 HPV
    have HCX := Lib.hid (HCH.out.below HST.out.bel)
    cases R with
    | nil =>
      simp only [hdN, ptE]
      have hk := hKR.out.1
      rw [List.append_nil] at hk
      have hbx := HST.out.box
      have hrb := (HST.out.bel.block w.heap.size (by have := HSZ.out; omega)).trans HRB.out
      obtain ⟨y0, y1⟩ := twE_cells hbx
      obtain ⟨z0, z1⟩ := twE_cells hrb
      have f0 := frozen_of_row _ _ 0 _ _ hrb; have f1 := frozen_of_row _ _ 1 _ _ hrb
      dsimp only at y0 y1
      have HF := Lib.hid (set2E_at hrb (.int .i64 nd) (.slice hh.A (edsN K).length hh.c))
      have HO : Hid (OwnG wr (w1.heap.size + 1) wr.heap.size hh ⟨nd, edsN ns⟩) := Lib.hid (by rw [hk]; exact OwnG.of_own HST.out.own)
      have HBB := Lib.hid (HB1.out.trans (HST.out.bel.mono HB1.out.size))
      have HEQ : Hid ((edsN K).length = (edsN ns).length) := Lib.hid (by rw [hk])
      clear hbx hrb hk
      rw [HEQ.out] at y1 HF
      go_wp2
      (try simp only [Exit.inBlock, Exit.then])
      refine bodyPost_ret (results_cell_row rfl _ _ w.heap.size _ _ (0, 0) _ rfl HF.out Tryd.underlying30 rfl (by kernel_rfl)) rfl ?_
      exact ⟨hh, rfl, ((HO.out.set (by have := HSZ.out; omega) _).set (by have := HSZ.out; omega) _).more (by have := HSZ.out; omega) (by simp), (HBB.out.setCell (p := ⟨w.heap.size, 0, none⟩) (Nat.le_refl _) _).setCell (p := ⟨w.heap.size, 1, none⟩) (Nat.le_refl _) _⟩
    | cons n R' =>
      simp only [hdN, ptE]
      obtain ⟨hk1, hk2⟩ := hKR.out
      have hna := HCX.out
      rw [hk1] at hna
      have HNT := Lib.hid hna.at
      have hlt : n.x < w1.heap.size := HCH.out.lt n (by rw [hk1]; simp)
      have HNX : Hid (ns = (K ++ [n]) ++ R' ∧ R'.length < gk) := Lib.hid ⟨by rw [hk1]; simp, by rw [← hk2]; simp⟩
      have HLEN : Hid ((edsN K).length ≤ 1000000) := Lib.hid (by rw [edsN_len]; have : ns.length = K.length + (n :: R').length := by rw [hk1, List.length_append]
                                                                 omega)
      have hna1 : NdAt w1 n (hdN R' none) := by have := HCH.out; rw [hk1] at this; exact this.at
      have HSX : Hid (∀ wx : World, Below w1.heap.size w1 wx → wx.cell? ⟨n.x, 0, none⟩ = some (.int .i64 n.e.a) ∧ wx.cell? ⟨n.x, 1, none⟩ = some (.int .i64 n.e.b) ∧ wx.cell? ⟨n.x, 2, none⟩ = some (.int .i64 n.e.p)) := Lib.hid fun wx hx => by
        have : NdAt wx n (hdN R' none) := (hx.block n.x hlt).trans hna1
        exact ⟨this.cells.1, this.cells.2.1, this.cells.2.2.1⟩
      have HTL : Hid (∀ wx : World, Below w1.heap.size w1 wx → wx.cell? ⟨n.x, 4, none⟩ = some (ptE (hdN R' none))) := Lib.hid fun wx hx => by
        have : NdAt wx n (hdN R' none) := (hx.block n.x hlt).trans hna1
        exact this.cells.2.2.2.2
      have HEX : Hid (edsN (K ++ [n]) = edsN K ++ [⟨n.e.a, n.e.b, n.e.p⟩]) := Lib.hid (by rw [edsN_app]; rfl)
      clear hk1 hk2 hKR hna hlt hna1 HCX HNT
      generalize edsN K = es at *
      obtain ⟨ea, hea⟩ : ∃ q, n.e.a = q := ⟨_, rfl⟩
      obtain ⟨eb, heb⟩ : ∃ q, n.e.b = q := ⟨_, rfl⟩
      obtain ⟨ep, hep⟩ : ∃ q, n.e.p = q := ⟨_, rfl⟩
      rw [hea, heb, hep] at HSX HEX
      clear hea heb hep
      go_upto_region 5 with (fail)
      have HS0 : Hid (∀ wx : World, Below wr.heap.size wr wx → wx.cell? ⟨n.x, 0, none⟩ = some (.int .i64 ea) ∧ wx.cell? ⟨n.x, 1, none⟩ = some (.int .i64 eb) ∧ wx.cell? ⟨n.x, 2, none⟩ = some (.int .i64 ep)) := Lib.hid fun wx hx => HSX.out wx (HST.out.bel.trans (hx.mono HST.out.bel.size))
      have FB_0 := Lib.hid (Below.refl wr.heap.size wr)
      refine wp_region_held_drew (S := fun wx => wx.cell? ⟨n.x, 0, none⟩ = some (.int .i64 ea) ∧ wx.cell? ⟨n.x, 1, none⟩ = some (.int .i64 eb) ∧ wx.cell? ⟨n.x, 2, none⟩ = some (.int .i64 ep)) (by kernel_rfl) (HS0.out _ (Below.refl _ _).drew) (fun hHeld => ?_)
      obtain ⟨wq1, hwq1⟩ : ∃ w', w' = wr.drew := ⟨_, rfl⟩
      rw [← hwq1] at hHeld ⊢
      have bq1 : Below wr.heap.size wr wq1 := by rw [hwq1]; exact (Below.refl _ _).drew
      clear hwq1
      have FB_q2 := Lib.hid ((FB_0.out).trans ((bq1).mono (FB_0.out).size))
      clear FB_0
      refine wpAnyH_take (i := 0) (v := ?vq3) rfl (by kernel_rfl) (by kernel_rfl) (by kernel_rfl) (fun _ _ _ h => h) (Or.inl ⟨by rfl, ?yq3⟩) (by assumption) ?_
      case yq3 => (intro w hSw; (try dsimp only at hSw); go_simp; all_goals (with_reducible rfl))
      (try simp only [Act.put, List.setIfInBounds_toArray, List.set_cons_zero, List.set_cons_succ, List.getElem_toArray, List.getElem_cons_succ, List.getElem_cons_zero])
      refine wpAnyH_take (i := 2) (v := ?vq4) rfl (by kernel_rfl) (by kernel_rfl) (by kernel_rfl) (fun _ _ _ h => h) (Or.inl ⟨by rfl, ?yq4⟩) (by assumption) ?_
      case yq4 => (intro w hSw; (try dsimp only at hSw); go_simp; all_goals (with_reducible rfl))
      (try simp only [Act.put, List.setIfInBounds_toArray, List.set_cons_zero, List.set_cons_succ, List.getElem_toArray, List.getElem_cons_succ, List.getElem_cons_zero])
      refine wpAnyH_take (i := 3) (v := ?vq5) rfl (by kernel_rfl) (by kernel_rfl) (by kernel_rfl) (fun _ _ _ h => h) (Or.inl ⟨by rfl, ?yq5⟩) (by assumption) ?_
      case yq5 => (intro w hSw; (try dsimp only at hSw); go_simp; all_goals (with_reducible rfl))
      (try simp only [Act.put, List.setIfInBounds_toArray, List.set_cons_zero, List.set_cons_succ, List.getElem_toArray, List.getElem_cons_succ, List.getElem_cons_zero])
      refine wpAnyH_take (i := 4) (v := ?vq6) rfl (by kernel_rfl) (by kernel_rfl) (by kernel_rfl) (fun _ _ _ h => h) (Or.inl ⟨by rfl, ?yq6⟩) (by assumption) ?_
      case yq6 => (intro w hSw; (try dsimp only at hSw); go_simp; all_goals (with_reducible rfl))
      (try simp only [Act.put, List.setIfInBounds_toArray, List.set_cons_zero, List.set_cons_succ, List.getElem_toArray, List.getElem_cons_succ, List.getElem_cons_zero])
      refine wpAnyH_take (i := 5) (v := ?vq7) rfl (by kernel_rfl) (by kernel_rfl) (by kernel_rfl) (fun _ _ _ h => h) (Or.inl ⟨by rfl, ?yq7⟩) (by assumption) ?_
      case yq7 => (intro w hSw; (try dsimp only at hSw); go_simp; all_goals (with_reducible rfl))
      (try simp only [Act.put, List.setIfInBounds_toArray, List.set_cons_zero, List.set_cons_succ, List.getElem_toArray, List.getElem_cons_succ, List.getElem_cons_zero])
      refine wpAnyH_ready (rs := [1, 6]) (by kernel_rfl) (by simp) ?_
      refine AllReadyH.cons rfl (fun K hK => ?_) ?_
      · have hx9 := (twE_cells (HST.out.below FB_q2.out).box).2
        (try dsimp only at hx9)
        go_simp
        clear hx9
        refine hK.out _ _ (hHeld) (fun hHeld => ?_)
        clear hK K
        (try simp only [Act.put, List.setIfInBounds_toArray, List.set_cons_zero, List.set_cons_succ, List.getElem_toArray, List.getElem_cons_succ, List.getElem_cons_zero])
        refine wpAnyH_ready (rs := [6]) (by kernel_rfl) (by simp) ?_
        refine AllReadyH.cons rfl (fun K hK => ?_) ?_
        · go_simp
          obtain ⟨wq8, hwq8⟩ : ∃ w', w' = wq1.alloc (.cells #[.int .i64 ea, .int .i64 eb, .int .i64 ep] 52) := ⟨_, rfl⟩
          rw [← hwq8]
          have bq8 : Below wq1.heap.size wq1 wq8 := by rw [hwq8]; exact (Below.refl _ _).alloc (Nat.le_refl _) _
          have hn9 := thE_new wq1 (.int .i64 ea) (.int .i64 eb) (.int .i64 ep) 52
          rw [← hwq8] at hn9
          have HNW := Lib.hid hn9
          clear hwq8 hn9
          have FB_q9 := Lib.hid ((FB_q2.out).trans ((bq8).mono (FB_q2.out).size))
          clear FB_q2
          clear bq8
          refine hK.out _ _ (HS0.out _ FB_q9.out) (fun hHeld => ?_)
          clear hK K
          (try simp only [Act.put, List.setIfInBounds_toArray, List.set_cons_zero, List.set_cons_succ, List.getElem_toArray, List.getElem_cons_succ, List.getElem_cons_zero])
          refine wpAnyH_ready (rs := [7]) (by kernel_rfl) (by simp) ?_
          refine AllReadyH.cons rfl (fun K hK => ?_) ?_
          · have OW := (HST.out.below FB_q9.out).own
            have hlt9 := (HST.out.below FB_q9.out).lt
            have hle9 := HLEN.out
            (try dsimp only at OW)
            refine stepE rfl _ _ 28 rfl (w1.heap.size + 1) 52 i3 (.agg #[.int .i64 0, .int .i64 0, .int .i64 0]) 3 24 Tryd.underlying28 HI.out HZ0.out HZ1.out HZ2.out rfl (by decide) _ _ _ rfl OW ⟨wq1.heap.size, 0, none⟩ 1 1 [.int .i64 ea, .int .i64 eb, .int .i64 ep] rfl rfl HNW.out (by intro u hu; simp at hu; rcases hu with rfl | rfl | rfl <;> rfl) (by simp only [maxLen]; omega) (by omega) (by omega) ?_
            intro v9 w9 own9 gr9
            obtain ⟨A9, c9, rfl, hbx9, hbl9, hst9⟩ := (HST.out.below FB_q9.out).grown (x := ⟨ea, eb, ep⟩) own9 gr9
            have HBX9 := Lib.hid hbx9; have HBL9 := Lib.hid hbl9; have HST9 := Lib.hid hst9
            clear hbx9 hbl9 hst9 own9 gr9 OW hlt9 hle9
            refine hK.out _ _ (HSX.out _ HBL9.out) (fun hHeld => ?_)
            clear hK K
            (try simp only [Act.put, List.setIfInBounds_toArray, List.set_cons_zero, List.set_cons_succ, List.getElem_toArray, List.getElem_cons_succ, List.getElem_cons_zero])
            refine wpAnyH_take (i := 8) (v := ?vq10) rfl (by kernel_rfl) (by kernel_rfl) (by kernel_rfl) (fun _ _ _ h => h) (Or.inl ⟨by rfl, ?yq10⟩) (by assumption) ?_
            case yq10 => (intro w hSw; (try dsimp only at hSw); go_simp; all_goals (with_reducible rfl))
            (try simp only [Act.put, List.setIfInBounds_toArray, List.set_cons_zero, List.set_cons_succ, List.getElem_toArray, List.getElem_cons_succ, List.getElem_cons_zero])
            refine wpAnyH_ready (rs := [9]) (by kernel_rfl) (by simp) ?_
            refine AllReadyH.cons rfl (fun K hK => ?_) ?_
            · obtain ⟨a0, a1⟩ := twE_cells HBX9.out
              have f1 := frozen_of_row _ _ 1 _ _ HBX9.out
              (try dsimp only at a0 a1)
              go_simp
              clear a0 a1 f1
              refine hK.out _ _ (HSX.out _ HST9.out.bel) (fun hHeld => ?_)
              clear hK K
              (try simp only [Act.put, List.setIfInBounds_toArray, List.set_cons_zero, List.set_cons_succ, List.getElem_toArray, List.getElem_cons_succ, List.getElem_cons_zero])
              refine wpAnyH_done (by kernel_rfl) ?_ _
              have HST10 : Hid (GrSt w1 (w9.setCell ⟨w1.heap.size, 1, none⟩ (.slice A9 (es.length + 1) c9)) ⟨A9, c9⟩ ⟨nd, edsN (K ++ [n])⟩) := Lib.hid (by rw [HEX.out]; exact HST9.out)
              have t9 := HTL.out _ HST9.out.bel
              obtain ⟨tv, htv⟩ : ∃ tv, ptE (hdN R' none) = tv := ⟨_, rfl⟩
              rw [htv] at t9
              have HTV := Lib.hid htv
              clear htv
              go_wp2
              go_roundg R'.length
              case measure => exact HNX.out.2
              case rel => exact ⟨K ++ [n], R', ⟨A9, c9⟩, Lib.hid ⟨HNX.out.1, rfl⟩, HTV.out.symm, HST10.out⟩
            exact AllReadyH.nil
          exact AllReadyH.nil
        exact AllReadyH.nil
      refine AllReadyH.cons rfl (fun K hK => ?_) ?_
      · go_simp
        obtain ⟨wq11, hwq11⟩ : ∃ w', w' = wq1.alloc (.cells #[.int .i64 ea, .int .i64 eb, .int .i64 ep] 52) := ⟨_, rfl⟩
        rw [← hwq11]
        have bq11 : Below wq1.heap.size wq1 wq11 := by rw [hwq11]; exact (Below.refl _ _).alloc (Nat.le_refl _) _
        have hn9 := thE_new wq1 (.int .i64 ea) (.int .i64 eb) (.int .i64 ep) 52
        rw [← hwq11] at hn9
        have HNW := Lib.hid hn9
        clear hwq11 hn9
        have FB_q12 := Lib.hid ((FB_q2.out).trans ((bq11).mono (FB_q2.out).size))
        clear FB_q2
        clear bq11
        refine hK.out _ _ (HS0.out _ FB_q12.out) (fun hHeld => ?_)
        clear hK K
        (try simp only [Act.put, List.setIfInBounds_toArray, List.set_cons_zero, List.set_cons_succ, List.getElem_toArray, List.getElem_cons_succ, List.getElem_cons_zero])
        refine wpAnyH_ready (rs := [1]) (by kernel_rfl) (by simp) ?_
        refine AllReadyH.cons rfl (fun K hK => ?_) ?_
        · have hx9 := (twE_cells (HST.out.below FB_q12.out).box).2
          (try dsimp only at hx9)
          go_simp
          clear hx9
          refine hK.out _ _ (hHeld) (fun hHeld => ?_)
          clear hK K
          (try simp only [Act.put, List.setIfInBounds_toArray, List.set_cons_zero, List.set_cons_succ, List.getElem_toArray, List.getElem_cons_succ, List.getElem_cons_zero])
          refine wpAnyH_ready (rs := [7]) (by kernel_rfl) (by simp) ?_
          refine AllReadyH.cons rfl (fun K hK => ?_) ?_
          · have OW := (HST.out.below FB_q12.out).own
            have hlt9 := (HST.out.below FB_q12.out).lt
            have hle9 := HLEN.out
            (try dsimp only at OW)
            refine stepE rfl _ _ 28 rfl (w1.heap.size + 1) 52 i3 (.agg #[.int .i64 0, .int .i64 0, .int .i64 0]) 3 24 Tryd.underlying28 HI.out HZ0.out HZ1.out HZ2.out rfl (by decide) _ _ _ rfl OW ⟨wq1.heap.size, 0, none⟩ 1 1 [.int .i64 ea, .int .i64 eb, .int .i64 ep] rfl rfl HNW.out (by intro u hu; simp at hu; rcases hu with rfl | rfl | rfl <;> rfl) (by simp only [maxLen]; omega) (by omega) (by omega) ?_
            intro v9 w9 own9 gr9
            obtain ⟨A9, c9, rfl, hbx9, hbl9, hst9⟩ := (HST.out.below FB_q12.out).grown (x := ⟨ea, eb, ep⟩) own9 gr9
            have HBX9 := Lib.hid hbx9; have HBL9 := Lib.hid hbl9; have HST9 := Lib.hid hst9
            clear hbx9 hbl9 hst9 own9 gr9 OW hlt9 hle9
            refine hK.out _ _ (HSX.out _ HBL9.out) (fun hHeld => ?_)
            clear hK K
            (try simp only [Act.put, List.setIfInBounds_toArray, List.set_cons_zero, List.set_cons_succ, List.getElem_toArray, List.getElem_cons_succ, List.getElem_cons_zero])
            refine wpAnyH_take (i := 8) (v := ?vq13) rfl (by kernel_rfl) (by kernel_rfl) (by kernel_rfl) (fun _ _ _ h => h) (Or.inl ⟨by rfl, ?yq13⟩) (by assumption) ?_
            case yq13 => (intro w hSw; (try dsimp only at hSw); go_simp; all_goals (with_reducible rfl))
            (try simp only [Act.put, List.setIfInBounds_toArray, List.set_cons_zero, List.set_cons_succ, List.getElem_toArray, List.getElem_cons_succ, List.getElem_cons_zero])
            refine wpAnyH_ready (rs := [9]) (by kernel_rfl) (by simp) ?_
            refine AllReadyH.cons rfl (fun K hK => ?_) ?_
            · obtain ⟨a0, a1⟩ := twE_cells HBX9.out
              have f1 := frozen_of_row _ _ 1 _ _ HBX9.out
              (try dsimp only at a0 a1)
              go_simp
              clear a0 a1 f1
              refine hK.out _ _ (HSX.out _ HST9.out.bel) (fun hHeld => ?_)
              clear hK K
              (try simp only [Act.put, List.setIfInBounds_toArray, List.set_cons_zero, List.set_cons_succ, List.getElem_toArray, List.getElem_cons_succ, List.getElem_cons_zero])
              refine wpAnyH_done (by kernel_rfl) ?_ _
              have HST10 : Hid (GrSt w1 (w9.setCell ⟨w1.heap.size, 1, none⟩ (.slice A9 (es.length + 1) c9)) ⟨A9, c9⟩ ⟨nd, edsN (K ++ [n])⟩) := Lib.hid (by rw [HEX.out]; exact HST9.out)
              have t9 := HTL.out _ HST9.out.bel
              obtain ⟨tv, htv⟩ : ∃ tv, ptE (hdN R' none) = tv := ⟨_, rfl⟩
              rw [htv] at t9
              have HTV := Lib.hid htv
              clear htv
              go_wp2
              go_roundg R'.length
              case measure => exact HNX.out.2
              case rel => exact ⟨K ++ [n], R', ⟨A9, c9⟩, Lib.hid ⟨HNX.out.1, rfl⟩, HTV.out.symm, HST10.out⟩
            exact AllReadyH.nil
          exact AllReadyH.nil
        exact AllReadyH.nil
      exact AllReadyH.nil
end Go.Proofs.YtlcapifgpcimpaaDoor
