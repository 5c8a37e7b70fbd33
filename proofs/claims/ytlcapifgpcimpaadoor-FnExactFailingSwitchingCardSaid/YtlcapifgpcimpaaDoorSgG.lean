/- The program's graph of a switching. Made by mksgg.py. -/
import Derived.Test.YtlcapifgpcimpaaDoorSgS
import Derived.Deep.RegionHeldLaw
import Derived.Deep.DeepCutAuto
import Derived.BigQuiet
namespace Go.Proofs.YtlcapifgpcimpaaDoor
set_option linter.unusedSimpArgs false
set_option linter.unusedVariables false
open Go.ChangeAt Go.ChangeShapes Go.RowKit Go.WideShapes

theorem grL_kp (N : Nt) (s : List Int) : grL N s = kpA (notU N s (prkN N).length) (arcsU N N.w.length) (arcsU N N.w.length).length := by
  unfold grL kpA outB
  rw [List.take_length]
theorem sw_at {N : Nt} {s : List Int} (h : isSw N s = true) {k : Nat} (hk : k < (prkN N).length) : ∃ z : Nat, z < 2 ∧ s.getD k 0 = 1 - (z : Int) ∧ (1 - s.getD k 0).toNat = z := by
  obtain ⟨_, hl, hs⟩ := isSw_yes h
  rcases hs _ (getL_mem (d := 0) (show k < s.length by omega)) with e | e
  · exact ⟨1, by omega, by rw [e]; rfl, by rw [e]; rfl⟩
  · exact ⟨0, by omega, by rw [e]; rfl, by rw [e]; rfl⟩
set_option maxRecDepth 100000 in
set_option maxHeartbeats 1000000 in
theorem graph_any (N : Nt) (s : List Int) (A P S : Option Addr) (c d sc : Nat) (w : World) (hsw : isSw N s = true) (rA : RdA w w.heap.size A (arcsU N N.w.length).length (arcsU N N.w.length)) (rP : RdQ w w.heap.size P (prkN N).length (pairsU N (prkN N).length)) (rS : RdI w w.heap.size S s.length s) :
    Calls Tryd.prog 54 #[.agg #[.int .i64 (N.l.length : Nat), .slice A (arcsU N N.w.length).length c, .slice P (prkN N).length d], .slice S s.length sc] w (GivesA w (grL N s)) := by
  obtain ⟨hvt, hsl, _⟩ := isSw_yes hsw
  obtain ⟨h48, h48l⟩ := valN_size hvt
  obtain ⟨i0, hi0, hz0, hz1, hz2⟩ := info_parts info_i64
  have HI := Lib.hid hi0; have HZ0 := Lib.hid hz0; have HZ1 := Lib.hid hz1; have HZ2 := Lib.hid hz2
  have hna : (arcsU N N.w.length).length ≤ 48 := Nat.le_trans (arcsU_len _ _) h48
  have hnp : (prkN N).length ≤ 48 := Nat.le_trans (prkN_len N) h48l
  have HGR := Lib.hid (grL_kp N s)
  have HSL := Lib.hid hsl
  clear hsl
  have HSW := Lib.hid (fun k hk => sw_at hsw (k := k) hk)
  have HTWO := Lib.hid (fun k (hk : k < (prkN N).length) => show ∃ x y : Int, (pairsU N (prkN N).length).getD k [] = [x, y] ∧ inL (N.l.getD ((prkN N).getD k 0).toNat Lk.nil) = [x, y] from by
    obtain ⟨j, hj, hkd, e⟩ := prkN_at hk
    rw [pairsU_at hk, e, Int.toNat_natCast, in_two (by omega)]
    exact ⟨_, _, rfl, rfl⟩)
  obtain ⟨w1, hw1⟩ : ∃ u, u = w.alloc (.cells #[.int .i64 (N.l.length : Nat), .slice A (arcsU N N.w.length).length c, .slice P (prkN N).length d] 74) := ⟨_, rfl⟩
  obtain ⟨w2, hw2⟩ : ∃ u, u = w1.alloc (.cells #[.slice none 0 0] 24) := ⟨_, rfl⟩
  have b1 : Below w.heap.size w w1 := by rw [hw1]; exact (Below.refl _ _).alloc (Nat.le_refl _) _
  have g1 : w1.heap[w.heap.size]? = some (.cells #[.int .i64 (N.l.length : Nat), .slice A (arcsU N N.w.length).length c, .slice P (prkN N).length d] 74 (0, 0)) := by rw [hw1]; exact heap_alloc_new _ _
  have s1 : w1.heap.size = w.heap.size + 1 := by rw [hw1]; simp
  have b2 : Below w1.heap.size w1 w2 := by rw [hw2]; exact (Below.refl _ _).alloc (Nat.le_refl _) _
  have g2 : w2.heap[w1.heap.size]? = some (.cells #[.slice none 0 0] 24 (0, 0)) := by rw [hw2]; exact heap_alloc_new _ _
  have s2 : w2.heap.size = w1.heap.size + 1 := by rw [hw2]; simp
  have g1' := (b2.block w.heap.size (by omega)).trans g1
  obtain ⟨bx, hbx⟩ : ∃ b, w1.heap.size = b := ⟨_, rfl⟩
  rw [hbx] at g2 s2
  have B02 := Lib.hid (b1.trans (b2.mono b1.size))
  have HW1 := Lib.hid hw1; have HW2 := Lib.hid hw2; have HBX := Lib.hid hbx
  have G2 := Lib.hid g2; have G1 := Lib.hid g1'
  have RA := Lib.hid rA; have RP := Lib.hid rP; have RS := Lib.hid rS
  have hbw : bx = w.heap.size + 1 := by omega
  have HBWE := Lib.hid hbw
  have hbw1 : bx ≤ w.heap.size + 1 := by omega
  have hbw2 : w.heap.size < bx := by omega
  have hbw3 : bx < w2.heap.size := by omega
  obtain ⟨x0, x1, x2⟩ := three_at g1'
  clear b1 g1 b2 g2 g1' hw1 hw2 hbx rA rP rS hi0 hz0 hz1 hz2 hbw
  go_enter Tryd.func54, Tryd.ntmps54
  go_upto_region 2 with (fail)
  rw [← HW1.out, ← HW2.out, ← HBWE.out]
  go_wp2
  go_loopw [12] (fun i wr => ∃ k : Nat, k ≤ (prkN N).length ∧ i = .int .i64 k ∧ ∃ v, wr.heap[bx]? = some (.cells #[v] 24 (0, 0)) ∧ wr.ownsRow w2.heap.size 2 1 v (notU N s k).length ((notU N s k).map (Value.int .i64)) ∧ w2.grownBy wr (some bx)) (fun i _ => (prkN N).length - (intOf i).toNat)
  case atStart => exact ⟨0, Nat.zero_le _, rfl, _, G2.out, World.ownsRow_nil _ _ _ _, grown_reflx _ _⟩
  case round =>
    obtain ⟨k, hk, rfl, v, hbox, hown, hg⟩ := hrel
    have hgs := hg.size
    have hcellk := fun (b off : Nat) (hb : b < w.heap.size) => (World.cell?_of_block (a := ⟨b, off, none⟩) ((hg.block b (by omega) (fun e => by injection e with e; omega)).trans (B02.out.block b hb)))
    by_cases hlt : k < (prkN N).length
    · obtain ⟨bp, op, hPe, hbp, hcp⟩ := RP.out.2 (by omega)
      obtain ⟨A', c', hcell0, hcc, hrd⟩ := hcp k hlt
      obtain ⟨px, py, e1, e2⟩ := HTWO.out k hlt
      rw [e1] at hcell0 hrd hcc
      obtain ⟨bq, oq, hAq, hbq, hcq⟩ := hrd.2 (by simp)
      obtain ⟨bS, oS, hSe, hbS, hcS⟩ := RS.out.2 (by have := HSL.out; omega)
      obtain ⟨z, hz2, hz3, hz4⟩ := HSW.out k hlt
      have cp := (hcellk bp (op + k) hbp).trans hcell0
      have cq := (hcellk bq (oq + z) hbq).trans (hcq z hz2)
      have cS := (hcellk bS (oS + k) hbS).trans (hcS k (by have := HSL.out; omega))
      rw [hz3] at cS
      have HNS : Hid (notU N s (k + 1) = notU N s k ++ [[px, py].getD z 0]) := Lib.hid (by rw [notU_succ, e2, hz4])
      have HNL := Lib.hid (notU_len N s k)
      generalize [px, py].getD z 0 = y at *
      have HBOX := Lib.hid hbox; have HG := Lib.hid hg; have HO := Lib.hid hown
      have hbr : bx < wr.heap.size := by omega
      have hw1s : IntKind.i64.wrap ((1 : Int) - (1 - (z : Int))) = (z : Int) := by rw [IntWalk.i64_in _ (by omega)]; omega
      have hz2i : (z : Int) < 2 := by omega
      have hkp : (k : Int) < ((prkN N).length : Int) := by omega
      have hks : (k : Int) < (s.length : Int) := by have := HSL.out; omega
      have HSY : Hid (∀ wx : World, Below wr.heap.size wr wx → wx.cell? ⟨bq, oq + z, none⟩ = some (.int .i64 y) ∧ wx.cell? ⟨bS, oS + k, none⟩ = some (.int .i64 (1 - (z : Int)))) := Lib.hid fun wx hx => ⟨(hx.cell (p := ⟨bq, oq + z, none⟩) (by show bq < _; omega)).trans cq, (hx.cell (p := ⟨bS, oS + k, none⟩) (by show bS < _; omega)).trans cS⟩
      subst hPe; subst hSe; subst hAq
      simp only [List.length_cons, List.length_nil, Nat.zero_add, Nat.reduceAdd] at cp
      clear hcellk hbox hown hg hcp hcell0 hrd hcq hcS e1 e2 hz3 hz4 x0 x1 x2
      go_upto_region 5 with (fail)
      clear cp cq cS
      have FB_0 := Lib.hid (Below.refl wr.heap.size wr)
      have FX_0 := Lib.hid HBOX.out
      refine wp_region_held_drew (S := fun wx => wx.cell? ⟨bq, oq + z, none⟩ = some (.int .i64 y) ∧ wx.cell? ⟨bS, oS + k, none⟩ = some (.int .i64 (1 - (z : Int)))) (by kernel_rfl) (HSY.out _ (Below.refl _ _).drew) (fun hHeld => ?_)
      obtain ⟨wq1, hwq1⟩ : ∃ w', w' = wr.drew := ⟨_, rfl⟩
      rw [← hwq1] at hHeld ⊢
      have bq1 : Below wr.heap.size wr wq1 := by rw [hwq1]; exact (Below.refl _ _).drew
      clear hwq1
      have FB_q2 := Lib.hid ((FB_0.out).trans ((bq1).mono (FB_0.out).size))
      have FX_q3 := Lib.hid (((bq1).block _ (Array.getElem?_eq_some_iff.1 (FX_0.out)).1).trans (FX_0.out))
      clear FB_0 FX_0
      refine wpAnyH_take (i := 1) (v := ?vq4) rfl (by kernel_rfl) (by kernel_rfl) (by kernel_rfl) (fun _ _ _ h => h) (Or.inl ⟨by rfl, ?yq4⟩) (by assumption) ?_
      case yq4 => (intro w hSw; (try dsimp only at hSw); go_simp; all_goals (with_reducible rfl))
      (try simp only [Act.put, List.setIfInBounds_toArray, List.set_cons_zero, List.set_cons_succ, List.getElem_toArray, List.getElem_cons_succ, List.getElem_cons_zero])
      refine wpAnyH_take (i := 2) (v := ?vq5) rfl (by kernel_rfl) (by kernel_rfl) (by kernel_rfl) (fun _ _ _ h => h) (Or.inl ⟨by rfl, ?yq5⟩) (by assumption) ?_
      case yq5 => (intro w hSw; (try dsimp only at hSw); go_simp; all_goals (with_reducible rfl))
      (try simp only [Act.put, List.setIfInBounds_toArray, List.set_cons_zero, List.set_cons_succ, List.getElem_toArray, List.getElem_cons_succ, List.getElem_cons_zero])
      refine wpAnyH_take (i := 3) (v := ?vq6) rfl (by kernel_rfl) (by kernel_rfl) (by kernel_rfl) (fun _ _ _ h => h) (Or.inl ⟨by rfl, ?yq6⟩) (by assumption) ?_
      case yq6 => (intro w hSw; (try dsimp only at hSw); go_simp; all_goals (with_reducible rfl))
      (try simp only [Act.put, List.setIfInBounds_toArray, List.set_cons_zero, List.set_cons_succ, List.getElem_toArray, List.getElem_cons_succ, List.getElem_cons_zero])
      refine wpAnyH_take (i := 4) (v := ?vq7) rfl (by kernel_rfl) (by kernel_rfl) (by kernel_rfl) (fun _ _ _ h => h) (Or.inl ⟨by rfl, ?yq7⟩) (by assumption) ?_
      case yq7 => (intro w hSw; (try dsimp only at hSw); go_simp; all_goals (with_reducible rfl))
      (try simp only [Act.put, List.setIfInBounds_toArray, List.set_cons_zero, List.set_cons_succ, List.getElem_toArray, List.getElem_cons_succ, List.getElem_cons_zero])
      refine wpAnyH_take (i := 5) (v := ?vq8) rfl (by kernel_rfl) (by kernel_rfl) (by kernel_rfl) (fun _ _ _ h => h) (Or.inl ⟨by rfl, ?yq8⟩) (by assumption) ?_
      case yq8 => (intro w hSw; (try dsimp only at hSw); go_simp; all_goals (with_reducible rfl))
      (try simp only [Act.put, List.setIfInBounds_toArray, List.set_cons_zero, List.set_cons_succ, List.getElem_toArray, List.getElem_cons_succ, List.getElem_cons_zero])
      refine wpAnyH_take (i := 6) (v := ?vq9) rfl (by kernel_rfl) (by kernel_rfl) (by kernel_rfl) (fun _ _ _ h => h) (Or.inl ⟨by rfl, ?yq9⟩) (by assumption) ?_
      case yq9 => (intro w hSw; (try dsimp only at hSw); go_simp; all_goals (with_reducible rfl))
      (try simp only [Act.put, List.setIfInBounds_toArray, List.set_cons_zero, List.set_cons_succ, List.getElem_toArray, List.getElem_cons_succ, List.getElem_cons_zero])
      refine wpAnyH_take (i := 7) (v := ?vq10) rfl (by kernel_rfl) (by kernel_rfl) (by kernel_rfl) (fun _ _ _ h => h) (Or.inl ⟨by rfl, ?yq10⟩) (by assumption) ?_
      case yq10 => (intro w hSw; (try dsimp only at hSw); go_simp; all_goals (with_reducible rfl))
      (try simp only [Act.put, List.setIfInBounds_toArray, List.set_cons_zero, List.set_cons_succ, List.getElem_toArray, List.getElem_cons_succ, List.getElem_cons_zero])
      refine wpAnyH_take (i := 8) (v := ?vq11) rfl (by kernel_rfl) (by kernel_rfl) (by kernel_rfl) (fun _ _ _ h => h) (Or.inl ⟨by rfl, ?yq11⟩) (by assumption) ?_
      case yq11 => (intro w hSw; (try dsimp only at hSw); go_simp; all_goals (with_reducible rfl))
      (try simp only [Act.put, List.setIfInBounds_toArray, List.set_cons_zero, List.set_cons_succ, List.getElem_toArray, List.getElem_cons_succ, List.getElem_cons_zero])
      refine wpAnyH_ready (rs := [0, 9]) (by kernel_rfl) (by simp) ?_
      refine AllReadyH.cons rfl (fun K hK => ?_) ?_
      · have q0 := cell_of_row _ _ 0 _ _ (0, 0) FX_q3.out
        simp only [List.getElem?_toArray, List.getElem?_cons_zero] at q0
        go_simp
        clear q0
        refine hK.out _ _ (hHeld) (fun hHeld => ?_)
        clear hK K
        (try simp only [Act.put, List.setIfInBounds_toArray, List.set_cons_zero, List.set_cons_succ, List.getElem_toArray, List.getElem_cons_succ, List.getElem_cons_zero])
        refine wpAnyH_ready (rs := [9]) (by kernel_rfl) (by simp) ?_
        refine AllReadyH.cons rfl (fun K hK => ?_) ?_
        · go_simp
          have FBU := FB_q2
          obtain ⟨wq12, hwq12⟩ : ∃ w', w' = wq1.alloc (.cells #[.int .i64 y] 2) := ⟨_, rfl⟩
          rw [← hwq12]
          have bq12 : Below wq1.heap.size wq1 wq12 := by rw [hwq12]; exact (Below.refl _ _).alloc (Nat.le_refl _) _
          have HW9 := Lib.hid hwq12
          clear hwq12
          have FB_q13 := Lib.hid ((FB_q2.out).trans ((bq12).mono (FB_q2.out).size))
          have FX_q14 := Lib.hid (((bq12).block _ (Array.getElem?_eq_some_iff.1 (FX_q3.out)).1).trans (FX_q3.out))
          clear FB_q2 FX_q3
          clear bq12
          refine hK.out _ _ (HSY.out _ FB_q13.out) (fun hHeld => ?_)
          clear hK K
          (try simp only [Act.put, List.setIfInBounds_toArray, List.set_cons_zero, List.set_cons_succ, List.getElem_toArray, List.getElem_cons_succ, List.getElem_cons_zero])
          refine wpAnyH_ready (rs := [10]) (by kernel_rfl) (by simp) ?_
          refine AllReadyH.cons rfl (fun K hK => ?_) ?_
          · have OW := own_below HO.out FB_q13.out (Nat.le_refl _)
            have hz9 := FB_q13.out.size
            obtain ⟨H8, hH8⟩ : ∃ q, wq12.heap.size = q := ⟨_, rfl⟩
            have HN9 := Lib.hid (cell_one_new wq1 (.int .i64 y) 2)
            rw [← HW9.out] at HN9
            rw [HNL.out] at OW
            have OWH := Lib.hid OW
            refine step_append_lies _ rfl _ _ 24 rfl w2.heap.size 2 i0 (.int .i64 0) 1 8 Tryd.underlying24 HI.out HZ0.out HZ1.out HZ2.out rfl (by decide) _ _ _ rfl OW ⟨wq1.heap.size, 0, none⟩ 1 1 [.int .i64 y] rfl rfl HN9.out (by intro u hu; simp at hu; subst hu; rfl) (by decide) (by simp only [maxLen]; (try dsimp only); omega) (by (try dsimp only); omega) (by omega) H8 hH8 ?_
            intro g9 cap9 w9 hown9 hgrow9 hat9 hlt9
            have o9 : w9.ownsRow w2.heap.size 2 1 (.slice (some ⟨g9, 0, none⟩) (k + 1) cap9) (notU N s (k + 1)).length ((notU N s (k + 1)).map (Value.int .i64)) := by rw [notU_len, HNS.out, List.map_append]; exact hown9
            have hbx9 := (hgrow9.block bx (by omega) (fun e => by have := (OWH.out.lt bx e.symm).1; omega)).trans ((FB_q13.out.block bx hbr).trans HBOX.out)
            have hg9 : w2.grownBy w9 (some bx) := ⟨hgrow9.os.trans (FB_q13.out.os.trans HG.out.os), hgrow9.tape.trans (FB_q13.out.tape.trans HG.out.tape), hgrow9.output.trans (FB_q13.out.output.trans HG.out.output), Nat.le_trans HG.out.size (Nat.le_trans hz9 hgrow9.size), fun z hz hne => (hgrow9.block z (by omega) (fun e => by have := (OWH.out.lt z e.symm).1; omega)).trans ((FB_q13.out.block z (by omega)).trans (HG.out.block z hz hne))⟩
            have hs9 := HSY.out _ FB_q13.out
            have cc := fun (b off : Nat) (hb : b < w.heap.size) => World.cell?_of_block (a := ⟨b, off, none⟩) (hgrow9.block b (by omega) (fun e => by have := (OWH.out.lt b e.symm).1; omega))
            have HC9 := Lib.hid (And.intro ((cc bq (oq + z) hbq).trans hs9.1) ((cc bS (oS + k) hbS).trans hs9.2))
            have O9 := Lib.hid o9; have HX9 := Lib.hid hbx9; have G9 := Lib.hid hg9
            clear o9 hbx9 hg9 hown9 hgrow9 hat9 hlt9 hH8 OW hs9 cc
            refine hK.out _ _ (HC9.out) (fun hHeld => ?_)
            clear hK K
            (try simp only [Act.put, List.setIfInBounds_toArray, List.set_cons_zero, List.set_cons_succ, List.getElem_toArray, List.getElem_cons_succ, List.getElem_cons_zero])
            refine wpAnyH_ready (rs := [11]) (by kernel_rfl) (by simp) ?_
            refine AllReadyH.cons rfl (fun K hK => ?_) ?_
            · have a0 := cell_of_row _ _ 0 _ _ (0, 0) HX9.out
              simp only [List.getElem?_toArray, List.getElem?_cons_zero] at a0
              have f0 := frozen_of_row _ _ 0 _ _ HX9.out
              go_simp
              clear a0 f0
              refine hK.out _ _ (⟨(World.cell?_setCell_other _ _ _ _ (fun e => by injection e with e1 e2 e3; omega)).trans HC9.out.1, (World.cell?_setCell_other _ _ _ _ (fun e => by injection e with e1 e2 e3; omega)).trans HC9.out.2⟩) (fun hHeld => ?_)
              clear hK K
              (try simp only [Act.put, List.setIfInBounds_toArray, List.set_cons_zero, List.set_cons_succ, List.getElem_toArray, List.getElem_cons_succ, List.getElem_cons_zero])
              refine wpAnyH_done (by kernel_rfl) ?_ _
              have HX10 := Lib.hid (show (w9.setCell ⟨bx, 0, none⟩ (.slice (some ⟨g9, 0, none⟩) (k + 1) cap9)).heap[bx]? = some (.cells #[(.slice (some ⟨g9, 0, none⟩) (k + 1) cap9)] 24 (0, 0)) from heap_setCell_same _ bx 0 _ _ (.slice (some ⟨g9, 0, none⟩) (k + 1) cap9) HX9.out)
              have O10 := Lib.hid (own_same (w' := w9.setCell ⟨bx, 0, none⟩ (.slice (some ⟨g9, 0, none⟩) (k + 1) cap9)) O9.out (fun z hz => Below.heap_setCell _ _ _ _ (fun e => by have h1 := (O9.out.lt z hz).1; dsimp only at e; omega)))
              have G10 := Lib.hid (grown_transx G9.out (grown_set (w := w9) (g := bx) (j := 0) (v := (.slice (some ⟨g9, 0, none⟩) (k + 1) cap9))))
              go_wp2
              go_roundw
              case rel => exact ⟨k + 1, by omega, by go_num, _, HX10.out, O10.out, G10.out⟩
              case measure => simp [intOf]; omega
            exact AllReadyH.nil
          exact AllReadyH.nil
        exact AllReadyH.nil
      refine AllReadyH.cons rfl (fun K hK => ?_) ?_
      · go_simp
        have FBU := FB_q2
        obtain ⟨wq15, hwq15⟩ : ∃ w', w' = wq1.alloc (.cells #[.int .i64 y] 2) := ⟨_, rfl⟩
        rw [← hwq15]
        have bq15 : Below wq1.heap.size wq1 wq15 := by rw [hwq15]; exact (Below.refl _ _).alloc (Nat.le_refl _) _
        have HW9 := Lib.hid hwq15
        clear hwq15
        have FB_q16 := Lib.hid ((FB_q2.out).trans ((bq15).mono (FB_q2.out).size))
        have FX_q17 := Lib.hid (((bq15).block _ (Array.getElem?_eq_some_iff.1 (FX_q3.out)).1).trans (FX_q3.out))
        clear FB_q2 FX_q3
        clear bq15
        refine hK.out _ _ (HSY.out _ FB_q16.out) (fun hHeld => ?_)
        clear hK K
        (try simp only [Act.put, List.setIfInBounds_toArray, List.set_cons_zero, List.set_cons_succ, List.getElem_toArray, List.getElem_cons_succ, List.getElem_cons_zero])
        refine wpAnyH_ready (rs := [0]) (by kernel_rfl) (by simp) ?_
        refine AllReadyH.cons rfl (fun K hK => ?_) ?_
        · have q0 := cell_of_row _ _ 0 _ _ (0, 0) FX_q17.out
          simp only [List.getElem?_toArray, List.getElem?_cons_zero] at q0
          go_simp
          clear q0
          refine hK.out _ _ (hHeld) (fun hHeld => ?_)
          clear hK K
          (try simp only [Act.put, List.setIfInBounds_toArray, List.set_cons_zero, List.set_cons_succ, List.getElem_toArray, List.getElem_cons_succ, List.getElem_cons_zero])
          refine wpAnyH_ready (rs := [10]) (by kernel_rfl) (by simp) ?_
          refine AllReadyH.cons rfl (fun K hK => ?_) ?_
          · have OW := own_below HO.out FB_q16.out (Nat.le_refl _)
            have hz9 := FB_q16.out.size
            obtain ⟨H8, hH8⟩ : ∃ q, wq15.heap.size = q := ⟨_, rfl⟩
            have HN9 := Lib.hid (cell_one_new wq1 (.int .i64 y) 2)
            rw [← HW9.out] at HN9
            rw [HNL.out] at OW
            have OWH := Lib.hid OW
            refine step_append_lies _ rfl _ _ 24 rfl w2.heap.size 2 i0 (.int .i64 0) 1 8 Tryd.underlying24 HI.out HZ0.out HZ1.out HZ2.out rfl (by decide) _ _ _ rfl OW ⟨wq1.heap.size, 0, none⟩ 1 1 [.int .i64 y] rfl rfl HN9.out (by intro u hu; simp at hu; subst hu; rfl) (by decide) (by simp only [maxLen]; (try dsimp only); omega) (by (try dsimp only); omega) (by omega) H8 hH8 ?_
            intro g9 cap9 w9 hown9 hgrow9 hat9 hlt9
            have o9 : w9.ownsRow w2.heap.size 2 1 (.slice (some ⟨g9, 0, none⟩) (k + 1) cap9) (notU N s (k + 1)).length ((notU N s (k + 1)).map (Value.int .i64)) := by rw [notU_len, HNS.out, List.map_append]; exact hown9
            have hbx9 := (hgrow9.block bx (by omega) (fun e => by have := (OWH.out.lt bx e.symm).1; omega)).trans ((FB_q16.out.block bx hbr).trans HBOX.out)
            have hg9 : w2.grownBy w9 (some bx) := ⟨hgrow9.os.trans (FB_q16.out.os.trans HG.out.os), hgrow9.tape.trans (FB_q16.out.tape.trans HG.out.tape), hgrow9.output.trans (FB_q16.out.output.trans HG.out.output), Nat.le_trans HG.out.size (Nat.le_trans hz9 hgrow9.size), fun z hz hne => (hgrow9.block z (by omega) (fun e => by have := (OWH.out.lt z e.symm).1; omega)).trans ((FB_q16.out.block z (by omega)).trans (HG.out.block z hz hne))⟩
            have hs9 := HSY.out _ FB_q16.out
            have cc := fun (b off : Nat) (hb : b < w.heap.size) => World.cell?_of_block (a := ⟨b, off, none⟩) (hgrow9.block b (by omega) (fun e => by have := (OWH.out.lt b e.symm).1; omega))
            have HC9 := Lib.hid (And.intro ((cc bq (oq + z) hbq).trans hs9.1) ((cc bS (oS + k) hbS).trans hs9.2))
            have O9 := Lib.hid o9; have HX9 := Lib.hid hbx9; have G9 := Lib.hid hg9
            clear o9 hbx9 hg9 hown9 hgrow9 hat9 hlt9 hH8 OW hs9 cc
            refine hK.out _ _ (HC9.out) (fun hHeld => ?_)
            clear hK K
            (try simp only [Act.put, List.setIfInBounds_toArray, List.set_cons_zero, List.set_cons_succ, List.getElem_toArray, List.getElem_cons_succ, List.getElem_cons_zero])
            refine wpAnyH_ready (rs := [11]) (by kernel_rfl) (by simp) ?_
            refine AllReadyH.cons rfl (fun K hK => ?_) ?_
            · have a0 := cell_of_row _ _ 0 _ _ (0, 0) HX9.out
              simp only [List.getElem?_toArray, List.getElem?_cons_zero] at a0
              have f0 := frozen_of_row _ _ 0 _ _ HX9.out
              go_simp
              clear a0 f0
              refine hK.out _ _ (⟨(World.cell?_setCell_other _ _ _ _ (fun e => by injection e with e1 e2 e3; omega)).trans HC9.out.1, (World.cell?_setCell_other _ _ _ _ (fun e => by injection e with e1 e2 e3; omega)).trans HC9.out.2⟩) (fun hHeld => ?_)
              clear hK K
              (try simp only [Act.put, List.setIfInBounds_toArray, List.set_cons_zero, List.set_cons_succ, List.getElem_toArray, List.getElem_cons_succ, List.getElem_cons_zero])
              refine wpAnyH_done (by kernel_rfl) ?_ _
              have HX10 := Lib.hid (show (w9.setCell ⟨bx, 0, none⟩ (.slice (some ⟨g9, 0, none⟩) (k + 1) cap9)).heap[bx]? = some (.cells #[(.slice (some ⟨g9, 0, none⟩) (k + 1) cap9)] 24 (0, 0)) from heap_setCell_same _ bx 0 _ _ (.slice (some ⟨g9, 0, none⟩) (k + 1) cap9) HX9.out)
              have O10 := Lib.hid (own_same (w' := w9.setCell ⟨bx, 0, none⟩ (.slice (some ⟨g9, 0, none⟩) (k + 1) cap9)) O9.out (fun z hz => Below.heap_setCell _ _ _ _ (fun e => by have h1 := (O9.out.lt z hz).1; dsimp only at e; omega)))
              have G10 := Lib.hid (grown_transx G9.out (grown_set (w := w9) (g := bx) (j := 0) (v := (.slice (some ⟨g9, 0, none⟩) (k + 1) cap9))))
              go_wp2
              go_roundw
              case rel => exact ⟨k + 1, by omega, by go_num, _, HX10.out, O10.out, G10.out⟩
              case measure => simp [intOf]; omega
            exact AllReadyH.nil
          exact AllReadyH.nil
        exact AllReadyH.nil
      exact AllReadyH.nil
    · have hkl : k = (prkN N).length := by omega
      subst hkl
      have hx1 := hcellk
      have hb0 := ((hg.block w.heap.size (by omega) (fun e => by injection e with e; omega)).trans G1.out)
      obtain ⟨t0, t1, t2⟩ := three_at hb0
      obtain ⟨A5, c5, rfl⟩ := own_shape hown
      have NL := notU_len N s (prkN N).length
      have rX : RdI wr wr.heap.size A5 (notU N s (prkN N).length).length (notU N s (prkN N).length) := RdI.of_own hown
      have hxb := cell_of_row _ _ 0 _ _ (0, 0) hbox
      simp only [List.getElem?_toArray, List.getElem?_cons_zero] at hxb
      have HOS : Hid (OutS wr bx A5 c5 (notU N s (prkN N).length)) := Lib.hid ⟨by omega, hxb, rX⟩
      have HRA : Hid (RdA wr wr.heap.size A (arcsU N N.w.length).length (arcsU N N.w.length)) := Lib.hid ⟨RA.out.1, by
        refine ⟨RA.out.2.1, fun hpos => ?_⟩
        obtain ⟨b, off, e, hb, hc⟩ := RA.out.2.2 hpos
        exact ⟨b, off, e, by omega, fun j hj => (hcellk b (off + j) hb).trans (hc j hj)⟩⟩
      have HCL := Lib.hid (cloneArc_any A c (arcsU N N.w.length) wr HRA.out (by omega))
      have HB1 : Hid (Below w.heap.size w wr) := Lib.hid (B02.out.trans ((Below.refl w.heap.size w2).grown hg (by omega) (fun q hq => by injection hq with hq; omega)))
      have HNX : (notU N s (prkN N).length).length ≤ 1048576 := by omega
      clear hx1 hb0 hcellk hbox hown hg rX hxb NL x0 x1 x2
      generalize notU N s (prkN N).length = X at *
      go_wp2_with (fail)
      refine HCL.out.mono ?_
      rintro e w5 ⟨A6, c6, rfl, own6, bel6⟩
      have HDL := Lib.hid (delArc_any bx A5 c5 X HNX A6 c6 (arcsU N N.w.length) w5 wr.heap.size own6 (by omega) (fun wx hx => by
        have h1 := HOS.out.below bel6
        have ho6 := fun b (e : (Value.slice A6 (arcsU N N.w.length).length c6).ownBlock = some b) => (own6.lt b e).1
        have hlt := HOS.out.lt
        refine ⟨Nat.lt_of_lt_of_le h1.lt hx.size, (World.cell?_of_block (a := ⟨bx, 0, none⟩) (hx.block bx h1.lt (fun e => by have := ho6 bx e.symm; omega))).trans h1.box, HOS.out.rd.1, fun hpos => ?_⟩
        obtain ⟨b, off, e, hb, hc⟩ := (HOS.out.rd.below bel6).2 hpos
        have hs6 := bel6.size
        exact ⟨b, off, e, Nat.lt_of_lt_of_le (Nat.lt_of_lt_of_le hb hs6) hx.size, fun j hj => (World.cell?_of_block (a := ⟨b, off + j, none⟩) (hx.block b (Nat.lt_of_lt_of_le hb hs6) (fun e => by have := ho6 b e.symm; omega))).trans (hc j hj)⟩))
      have B5 := Lib.hid bel6
      have O6 := Lib.hid (fun q (hq : (Value.slice A6 (arcsU N N.w.length).length c6).ownBlock = some q) => (own6.lt q hq).1)
      clear own6 bel6
      go_wp2_with (fail)
      refine HDL.out.mono ?_
      rintro e w7 ⟨A7, c7, rfl, own7, g7⟩
      have HG : Hid (GivesA w (grL N s) (.returned (.slice A7 (kpA X (arcsU N N.w.length) (arcsU N N.w.length).length).length c7)) w7) := Lib.hid (by
        rw [HGR.out]
        exact ⟨A7, c7, rfl, own7.mono HB1.out.size, HB1.out.trans ((B5.out.grown g7 B5.out.size (fun q hq => O6.out q hq)).mono HB1.out.size)⟩)
      clear own7 g7
      go_wp2
      go_ret
      exact HG.out
end Go.Proofs.YtlcapifgpcimpaaDoor
