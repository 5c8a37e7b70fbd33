/- The program's graph of a switching. Made by mksgg.py. A range over a function whose iterator hands out what it has just made: what is handed is told of in the world of the hand-over. The program: the iterator over all switchings. A range over a function whose body may overwrite blocks of an exempt set (captured variables). Made of RgR by hand (RgE). And a drawn region of such a body, walked as one of the plain world. -/
import Derived.Test.YtfdpkhiiboghiaaGreatDoorJSgS
import Derived.Deep.RegionHeldLaw
import Derived.Deep.DeepCutAuto
import Derived.BigQuiet
import Derived.Test.YtfdpkhiiboghiaaGreatDoorRows
import Derived.RangeFuncCalls
import Derived.RangeFuncKeeps
import Derived.Test.YtfdpkhiiboghiaaGreatDoorJQSwQ
import Derived.RangeFuncNested
import Derived.RangeFuncBound
import Derived.RangeFuncLeaves
import Derived.Shelf.Abstract
import Derived.Shelf.RegionOpen
import Derived.WalkKit
import Derived.OwnWalkIn
import Derived.TacticsInMore
import Derived.LoopNIn
import Derived.LoopIn
import Derived.Test.YtfdpkhiiboghiaaGreatDoorJQPgL
namespace Go.Proofs.YtfdpkhiiboghiaaGreatDoor
set_option linter.unusedSimpArgs false
set_option linter.unusedVariables false
section
set_option linter.unusedSimpArgs false
set_option linter.unusedVariables false
open Go.ChangeAt Go.ChangeShapes Go.RowKit Go.WideShapes

theorem grL_kp (N : Nt) (s : List Int) : grL N s = kpA (notU N s (prkN N).length) (arcsU N N.w.length) (arcsU N N.w.length).length := by
  unfold grL kpA outB
  rw [List.take_length]
theorem sw_at {N : Nt} {s : List Int} (h : isSw N s = true) {k : Nat} (hk : k < (prkN N).length) : ∃ z : Nat, z < 2 ∧ s.getD k 0 = 1 - (z : Int) ∧ (1 - s.getD k 0).toNat = z := by
  obtain ⟨_, hl, hs⟩ := isSw_yes h
  rcases hs _ (getL_mem (d := 0) (show k < s.length by omega)) with e | e
  · exact ⟨1, by omega, by rw [e]; rfl, by rw [e]; rfl⟩
  · exact ⟨0, by omega, by rw [e]; rfl, by rw [e]; rfl⟩
set_option maxRecDepth 100000 in
set_option maxHeartbeats 1000000 in
theorem graph_any (N : Nt) (s : List Int) (A P S : Option Addr) (c d sc : Nat) (w : World) (hsw : isSw N s = true) (rA : RdA w w.heap.size A (arcsU N N.w.length).length (arcsU N N.w.length)) (rP : RdQ w w.heap.size P (prkN N).length (pairsU N (prkN N).length)) (rS : RdI w w.heap.size S s.length s) :
    Calls Tryz.prog 84 #[.agg #[.int .i64 (N.l.length : Nat), .slice A (arcsU N N.w.length).length c, .slice P (prkN N).length d], .slice S s.length sc] w (GivesA w (grL N s)) := by
  obtain ⟨hvt, hsl, _⟩ := isSw_yes hsw
  obtain ⟨h48, h48l⟩ := valN_size hvt
  obtain ⟨i0, hi0, hz0, hz1, hz2⟩ := info_parts info_i64
  have HI := Lib.hid hi0; have HZ0 := Lib.hid hz0; have HZ1 := Lib.hid hz1; have HZ2 := Lib.hid hz2
  have hna : (arcsU N N.w.length).length ≤ 48 := Nat.le_trans (arcsU_len _ _) h48
  have hnp : (prkN N).length ≤ 48 := Nat.le_trans (prkN_len N) h48l
  have HGR := Lib.hid (grL_kp N s)
  have HSL := Lib.hid hsl
  clear hsl
  have HSW := Lib.hid (fun k hk => sw_at hsw (k := k) hk)
  have HTWO := Lib.hid (fun k (hk : k < (prkN N).length) => show ∃ x y : Int, (pairsU N (prkN N).length).getD k [] = [x, y] ∧ inL (N.l.getD ((prkN N).getD k 0).toNat Lk.nil) = [x, y] from by
    obtain ⟨j, hj, hkd, e⟩ := prkN_at hk
    rw [pairsU_at hk, e, Int.toNat_natCast, in_two (by omega)]
    exact ⟨_, _, rfl, rfl⟩)
  obtain ⟨w1, hw1⟩ : ∃ u, u = w.alloc (.cells #[.int .i64 (N.l.length : Nat), .slice A (arcsU N N.w.length).length c, .slice P (prkN N).length d] 88) := ⟨_, rfl⟩
  obtain ⟨w2, hw2⟩ : ∃ u, u = w1.alloc (.cells #[.slice none 0 0] 24) := ⟨_, rfl⟩
  have b1 : Below w.heap.size w w1 := by rw [hw1]; exact (Below.refl _ _).alloc (Nat.le_refl _) _
  have g1 : w1.heap[w.heap.size]? = some (.cells #[.int .i64 (N.l.length : Nat), .slice A (arcsU N N.w.length).length c, .slice P (prkN N).length d] 88 (0, 0)) := by rw [hw1]; exact heap_alloc_new _ _
  have s1 : w1.heap.size = w.heap.size + 1 := by rw [hw1]; simp
  have b2 : Below w1.heap.size w1 w2 := by rw [hw2]; exact (Below.refl _ _).alloc (Nat.le_refl _) _
  have g2 : w2.heap[w1.heap.size]? = some (.cells #[.slice none 0 0] 24 (0, 0)) := by rw [hw2]; exact heap_alloc_new _ _
  have s2 : w2.heap.size = w1.heap.size + 1 := by rw [hw2]; simp
  have g1' := (b2.block w.heap.size (by omega)).trans g1
  obtain ⟨bx, hbx⟩ : ∃ b, w1.heap.size = b := ⟨_, rfl⟩
  rw [hbx] at g2 s2
  have B02 := Lib.hid (b1.trans (b2.mono b1.size))
  have HW1 := Lib.hid hw1; have HW2 := Lib.hid hw2; have HBX := Lib.hid hbx
  have G2 := Lib.hid g2; have G1 := Lib.hid g1'
  have RA := Lib.hid rA; have RP := Lib.hid rP; have RS := Lib.hid rS
  have hbw : bx = w.heap.size + 1 := by omega
  have HBWE := Lib.hid hbw
  have hbw1 : bx ≤ w.heap.size + 1 := by omega
  have hbw2 : w.heap.size < bx := by omega
  have hbw3 : bx < w2.heap.size := by omega
  obtain ⟨x0, x1, x2⟩ := three_at g1'
  clear b1 g1 b2 g2 g1' hw1 hw2 hbx rA rP rS hi0 hz0 hz1 hz2 hbw
  go_enter Tryz.func84, Tryz.ntmps84
  go_upto_region 2 with (fail)
  rw [← HW1.out, ← HW2.out, ← HBWE.out]
  go_wp2
  go_loopw [12] (fun i wr => ∃ k : Nat, k ≤ (prkN N).length ∧ i = .int .i64 k ∧ ∃ v, wr.heap[bx]? = some (.cells #[v] 24 (0, 0)) ∧ wr.ownsRow w2.heap.size 2 1 v (notU N s k).length ((notU N s k).map (Value.int .i64)) ∧ w2.grownBy wr (some bx)) (fun i _ => (prkN N).length - (intOf i).toNat)
  case atStart => exact ⟨0, Nat.zero_le _, rfl, _, G2.out, World.ownsRow_nil _ _ _ _, grown_reflx _ _⟩
  case round =>
    obtain ⟨k, hk, rfl, v, hbox, hown, hg⟩ := hrel
    have hgs := hg.size
    have hcellk := fun (b off : Nat) (hb : b < w.heap.size) => (World.cell?_of_block (a := ⟨b, off, none⟩) ((hg.block b (by omega) (fun e => by injection e with e; omega)).trans (B02.out.block b hb)))
    by_cases hlt : k < (prkN N).length
    · obtain ⟨bp, op, hPe, hbp, hcp⟩ := RP.out.2 (by omega)
      obtain ⟨A', c', hcell0, hcc, hrd⟩ := hcp k hlt
      obtain ⟨px, py, e1, e2⟩ := HTWO.out k hlt
      rw [e1] at hcell0 hrd hcc
      obtain ⟨bq, oq, hAq, hbq, hcq⟩ := hrd.2 (by simp)
      obtain ⟨bS, oS, hSe, hbS, hcS⟩ := RS.out.2 (by have := HSL.out; omega)
      obtain ⟨z, hz2, hz3, hz4⟩ := HSW.out k hlt
      have cp := (hcellk bp (op + k) hbp).trans hcell0
      have cq := (hcellk bq (oq + z) hbq).trans (hcq z hz2)
      have cS := (hcellk bS (oS + k) hbS).trans (hcS k (by have := HSL.out; omega))
      rw [hz3] at cS
      have HNS : Hid (notU N s (k + 1) = notU N s k ++ [[px, py].getD z 0]) := Lib.hid (by rw [notU_succ, e2, hz4])
      have HNL := Lib.hid (notU_len N s k)
      generalize [px, py].getD z 0 = y at *
      have HBOX := Lib.hid hbox; have HG := Lib.hid hg; have HO := Lib.hid hown
      have hbr : bx < wr.heap.size := by omega
      have hw1s : IntKind.i64.wrap ((1 : Int) - (1 - (z : Int))) = (z : Int) := by rw [IntWalk.i64_in _ (by omega)]; omega
      have hz2i : (z : Int) < 2 := by omega
      have hkp : (k : Int) < ((prkN N).length : Int) := by omega
      have hks : (k : Int) < (s.length : Int) := by have := HSL.out; omega
      have HSY : Hid (∀ wx : World, Below wr.heap.size wr wx → wx.cell? ⟨bq, oq + z, none⟩ = some (.int .i64 y) ∧ wx.cell? ⟨bS, oS + k, none⟩ = some (.int .i64 (1 - (z : Int)))) := Lib.hid fun wx hx => ⟨(hx.cell (p := ⟨bq, oq + z, none⟩) (by show bq < _; omega)).trans cq, (hx.cell (p := ⟨bS, oS + k, none⟩) (by show bS < _; omega)).trans cS⟩
      subst hPe; subst hSe; subst hAq
      simp only [List.length_cons, List.length_nil, Nat.zero_add, Nat.reduceAdd] at cp
      clear hcellk hbox hown hg hcp hcell0 hrd hcq hcS e1 e2 hz3 hz4 x0 x1 x2
      go_upto_region 5 with (fail)
      clear cp cq cS
      have FB_0 := Lib.hid (Below.refl wr.heap.size wr)
      have FX_0 := Lib.hid HBOX.out
      refine wp_region_held_drew (S := fun wx => wx.cell? ⟨bq, oq + z, none⟩ = some (.int .i64 y) ∧ wx.cell? ⟨bS, oS + k, none⟩ = some (.int .i64 (1 - (z : Int)))) (by kernel_rfl) (HSY.out _ (Below.refl _ _).drew) (fun hHeld => ?_)
      obtain ⟨wq1, hwq1⟩ : ∃ w', w' = wr.drew := ⟨_, rfl⟩
      rw [← hwq1] at hHeld ⊢
      have bq1 : Below wr.heap.size wr wq1 := by rw [hwq1]; exact (Below.refl _ _).drew
      clear hwq1
      have FB_q2 := Lib.hid ((FB_0.out).trans ((bq1).mono (FB_0.out).size))
      have FX_q3 := Lib.hid (((bq1).block _ (Array.getElem?_eq_some_iff.1 (FX_0.out)).1).trans (FX_0.out))
      clear FB_0 FX_0
      refine wpAnyH_take (i := 1) (v := ?vq4) rfl (by kernel_rfl) (by kernel_rfl) (by kernel_rfl) (fun _ _ _ h => h) (Or.inl ⟨by rfl, ?yq4⟩) (by assumption) ?_
      case yq4 => (intro w hSw; (try dsimp only at hSw); go_simp; all_goals (with_reducible rfl))
      (try simp only [Act.put, List.setIfInBounds_toArray, List.set_cons_zero, List.set_cons_succ, List.getElem_toArray, List.getElem_cons_succ, List.getElem_cons_zero])
      refine wpAnyH_take (i := 2) (v := ?vq5) rfl (by kernel_rfl) (by kernel_rfl) (by kernel_rfl) (fun _ _ _ h => h) (Or.inl ⟨by rfl, ?yq5⟩) (by assumption) ?_
      case yq5 => (intro w hSw; (try dsimp only at hSw); go_simp; all_goals (with_reducible rfl))
      (try simp only [Act.put, List.setIfInBounds_toArray, List.set_cons_zero, List.set_cons_succ, List.getElem_toArray, List.getElem_cons_succ, List.getElem_cons_zero])
      refine wpAnyH_take (i := 3) (v := ?vq6) rfl (by kernel_rfl) (by kernel_rfl) (by kernel_rfl) (fun _ _ _ h => h) (Or.inl ⟨by rfl, ?yq6⟩) (by assumption) ?_
      case yq6 => (intro w hSw; (try dsimp only at hSw); go_simp; all_goals (with_reducible rfl))
      (try simp only [Act.put, List.setIfInBounds_toArray, List.set_cons_zero, List.set_cons_succ, List.getElem_toArray, List.getElem_cons_succ, List.getElem_cons_zero])
      refine wpAnyH_take (i := 4) (v := ?vq7) rfl (by kernel_rfl) (by kernel_rfl) (by kernel_rfl) (fun _ _ _ h => h) (Or.inl ⟨by rfl, ?yq7⟩) (by assumption) ?_
      case yq7 => (intro w hSw; (try dsimp only at hSw); go_simp; all_goals (with_reducible rfl))
      (try simp only [Act.put, List.setIfInBounds_toArray, List.set_cons_zero, List.set_cons_succ, List.getElem_toArray, List.getElem_cons_succ, List.getElem_cons_zero])
      refine wpAnyH_take (i := 5) (v := ?vq8) rfl (by kernel_rfl) (by kernel_rfl) (by kernel_rfl) (fun _ _ _ h => h) (Or.inl ⟨by rfl, ?yq8⟩) (by assumption) ?_
      case yq8 => (intro w hSw; (try dsimp only at hSw); go_simp; all_goals (with_reducible rfl))
      (try simp only [Act.put, List.setIfInBounds_toArray, List.set_cons_zero, List.set_cons_succ, List.getElem_toArray, List.getElem_cons_succ, List.getElem_cons_zero])
      refine wpAnyH_take (i := 6) (v := ?vq9) rfl (by kernel_rfl) (by kernel_rfl) (by kernel_rfl) (fun _ _ _ h => h) (Or.inl ⟨by rfl, ?yq9⟩) (by assumption) ?_
      case yq9 => (intro w hSw; (try dsimp only at hSw); go_simp; all_goals (with_reducible rfl))
      (try simp only [Act.put, List.setIfInBounds_toArray, List.set_cons_zero, List.set_cons_succ, List.getElem_toArray, List.getElem_cons_succ, List.getElem_cons_zero])
      refine wpAnyH_take (i := 7) (v := ?vq10) rfl (by kernel_rfl) (by kernel_rfl) (by kernel_rfl) (fun _ _ _ h => h) (Or.inl ⟨by rfl, ?yq10⟩) (by assumption) ?_
      case yq10 => (intro w hSw; (try dsimp only at hSw); go_simp; all_goals (with_reducible rfl))
      (try simp only [Act.put, List.setIfInBounds_toArray, List.set_cons_zero, List.set_cons_succ, List.getElem_toArray, List.getElem_cons_succ, List.getElem_cons_zero])
      refine wpAnyH_take (i := 8) (v := ?vq11) rfl (by kernel_rfl) (by kernel_rfl) (by kernel_rfl) (fun _ _ _ h => h) (Or.inl ⟨by rfl, ?yq11⟩) (by assumption) ?_
      case yq11 => (intro w hSw; (try dsimp only at hSw); go_simp; all_goals (with_reducible rfl))
      (try simp only [Act.put, List.setIfInBounds_toArray, List.set_cons_zero, List.set_cons_succ, List.getElem_toArray, List.getElem_cons_succ, List.getElem_cons_zero])
      refine wpAnyH_ready (rs := [0, 9]) (by kernel_rfl) (by simp) ?_
      refine AllReadyH.cons rfl (fun K hK => ?_) ?_
      · have q0 := cell_of_row _ _ 0 _ _ (0, 0) FX_q3.out
        simp only [List.getElem?_toArray, List.getElem?_cons_zero] at q0
        go_simp
        clear q0
        refine hK.out _ _ (hHeld) (fun hHeld => ?_)
        clear hK K
        (try simp only [Act.put, List.setIfInBounds_toArray, List.set_cons_zero, List.set_cons_succ, List.getElem_toArray, List.getElem_cons_succ, List.getElem_cons_zero])
        refine wpAnyH_ready (rs := [9]) (by kernel_rfl) (by simp) ?_
        refine AllReadyH.cons rfl (fun K hK => ?_) ?_
        · go_simp
          have FBU := FB_q2
          obtain ⟨wq12, hwq12⟩ : ∃ w', w' = wq1.alloc (.cells #[.int .i64 y] 2) := ⟨_, rfl⟩
          rw [← hwq12]
          have bq12 : Below wq1.heap.size wq1 wq12 := by rw [hwq12]; exact (Below.refl _ _).alloc (Nat.le_refl _) _
          have HW9 := Lib.hid hwq12
          clear hwq12
          have FB_q13 := Lib.hid ((FB_q2.out).trans ((bq12).mono (FB_q2.out).size))
          have FX_q14 := Lib.hid (((bq12).block _ (Array.getElem?_eq_some_iff.1 (FX_q3.out)).1).trans (FX_q3.out))
          clear FB_q2 FX_q3
          clear bq12
          refine hK.out _ _ (HSY.out _ FB_q13.out) (fun hHeld => ?_)
          clear hK K
          (try simp only [Act.put, List.setIfInBounds_toArray, List.set_cons_zero, List.set_cons_succ, List.getElem_toArray, List.getElem_cons_succ, List.getElem_cons_zero])
          refine wpAnyH_ready (rs := [10]) (by kernel_rfl) (by simp) ?_
          refine AllReadyH.cons rfl (fun K hK => ?_) ?_
          · have OW := own_below HO.out FB_q13.out (Nat.le_refl _)
            have hz9 := FB_q13.out.size
            obtain ⟨H8, hH8⟩ : ∃ q, wq12.heap.size = q := ⟨_, rfl⟩
            have HN9 := Lib.hid (cell_one_new wq1 (.int .i64 y) 2)
            rw [← HW9.out] at HN9
            rw [HNL.out] at OW
            have OWH := Lib.hid OW
            refine step_append_lies _ rfl _ _ 24 rfl w2.heap.size 2 i0 (.int .i64 0) 1 8 Tryz.underlying24 HI.out HZ0.out HZ1.out HZ2.out rfl (by decide) _ _ _ rfl OW ⟨wq1.heap.size, 0, none⟩ 1 1 [.int .i64 y] rfl rfl HN9.out (by intro u hu; simp at hu; subst hu; rfl) (by decide) (by simp only [maxLen]; (try dsimp only); omega) (by (try dsimp only); omega) (by omega) H8 hH8 ?_
            intro g9 cap9 w9 hown9 hgrow9 hat9 hlt9
            have o9 : w9.ownsRow w2.heap.size 2 1 (.slice (some ⟨g9, 0, none⟩) (k + 1) cap9) (notU N s (k + 1)).length ((notU N s (k + 1)).map (Value.int .i64)) := by rw [notU_len, HNS.out, List.map_append]; exact hown9
            have hbx9 := (hgrow9.block bx (by omega) (fun e => by have := (OWH.out.lt bx e.symm).1; omega)).trans ((FB_q13.out.block bx hbr).trans HBOX.out)
            have hg9 : w2.grownBy w9 (some bx) := ⟨hgrow9.os.trans (FB_q13.out.os.trans HG.out.os), hgrow9.tape.trans (FB_q13.out.tape.trans HG.out.tape), hgrow9.output.trans (FB_q13.out.output.trans HG.out.output), Nat.le_trans HG.out.size (Nat.le_trans hz9 hgrow9.size), fun z hz hne => (hgrow9.block z (by omega) (fun e => by have := (OWH.out.lt z e.symm).1; omega)).trans ((FB_q13.out.block z (by omega)).trans (HG.out.block z hz hne))⟩
            have hs9 := HSY.out _ FB_q13.out
            have cc := fun (b off : Nat) (hb : b < w.heap.size) => World.cell?_of_block (a := ⟨b, off, none⟩) (hgrow9.block b (by omega) (fun e => by have := (OWH.out.lt b e.symm).1; omega))
            have HC9 := Lib.hid (And.intro ((cc bq (oq + z) hbq).trans hs9.1) ((cc bS (oS + k) hbS).trans hs9.2))
            have O9 := Lib.hid o9; have HX9 := Lib.hid hbx9; have G9 := Lib.hid hg9
            clear o9 hbx9 hg9 hown9 hgrow9 hat9 hlt9 hH8 OW hs9 cc
            refine hK.out _ _ (HC9.out) (fun hHeld => ?_)
            clear hK K
            (try simp only [Act.put, List.setIfInBounds_toArray, List.set_cons_zero, List.set_cons_succ, List.getElem_toArray, List.getElem_cons_succ, List.getElem_cons_zero])
            refine wpAnyH_ready (rs := [11]) (by kernel_rfl) (by simp) ?_
            refine AllReadyH.cons rfl (fun K hK => ?_) ?_
            · have a0 := cell_of_row _ _ 0 _ _ (0, 0) HX9.out
              simp only [List.getElem?_toArray, List.getElem?_cons_zero] at a0
              have f0 := frozen_of_row _ _ 0 _ _ HX9.out
              go_simp
              clear a0 f0
              refine hK.out _ _ (⟨(World.cell?_setCell_other _ _ _ _ (fun e => by injection e with e1 e2 e3; omega)).trans HC9.out.1, (World.cell?_setCell_other _ _ _ _ (fun e => by injection e with e1 e2 e3; omega)).trans HC9.out.2⟩) (fun hHeld => ?_)
              clear hK K
              (try simp only [Act.put, List.setIfInBounds_toArray, List.set_cons_zero, List.set_cons_succ, List.getElem_toArray, List.getElem_cons_succ, List.getElem_cons_zero])
              refine wpAnyH_done (by kernel_rfl) ?_ _
              have HX10 := Lib.hid (show (w9.setCell ⟨bx, 0, none⟩ (.slice (some ⟨g9, 0, none⟩) (k + 1) cap9)).heap[bx]? = some (.cells #[(.slice (some ⟨g9, 0, none⟩) (k + 1) cap9)] 24 (0, 0)) from heap_setCell_same _ bx 0 _ _ (.slice (some ⟨g9, 0, none⟩) (k + 1) cap9) HX9.out)
              have O10 := Lib.hid (own_same (w' := w9.setCell ⟨bx, 0, none⟩ (.slice (some ⟨g9, 0, none⟩) (k + 1) cap9)) O9.out (fun z hz => Below.heap_setCell _ _ _ _ (fun e => by have h1 := (O9.out.lt z hz).1; dsimp only at e; omega)))
              have G10 := Lib.hid (grown_transx G9.out (grown_set (w := w9) (g := bx) (j := 0) (v := (.slice (some ⟨g9, 0, none⟩) (k + 1) cap9))))
              go_wp2
              go_roundw
              case rel => exact ⟨k + 1, by omega, by go_num, _, HX10.out, O10.out, G10.out⟩
              case measure => simp [intOf]; omega
            exact AllReadyH.nil
          exact AllReadyH.nil
        exact AllReadyH.nil
      refine AllReadyH.cons rfl (fun K hK => ?_) ?_
      · go_simp
        have FBU := FB_q2
        obtain ⟨wq15, hwq15⟩ : ∃ w', w' = wq1.alloc (.cells #[.int .i64 y] 2) := ⟨_, rfl⟩
        rw [← hwq15]
        have bq15 : Below wq1.heap.size wq1 wq15 := by rw [hwq15]; exact (Below.refl _ _).alloc (Nat.le_refl _) _
        have HW9 := Lib.hid hwq15
        clear hwq15
        have FB_q16 := Lib.hid ((FB_q2.out).trans ((bq15).mono (FB_q2.out).size))
        have FX_q17 := Lib.hid (((bq15).block _ (Array.getElem?_eq_some_iff.1 (FX_q3.out)).1).trans (FX_q3.out))
        clear FB_q2 FX_q3
        clear bq15
        refine hK.out _ _ (HSY.out _ FB_q16.out) (fun hHeld => ?_)
        clear hK K
        (try simp only [Act.put, List.setIfInBounds_toArray, List.set_cons_zero, List.set_cons_succ, List.getElem_toArray, List.getElem_cons_succ, List.getElem_cons_zero])
        refine wpAnyH_ready (rs := [0]) (by kernel_rfl) (by simp) ?_
        refine AllReadyH.cons rfl (fun K hK => ?_) ?_
        · have q0 := cell_of_row _ _ 0 _ _ (0, 0) FX_q17.out
          simp only [List.getElem?_toArray, List.getElem?_cons_zero] at q0
          go_simp
          clear q0
          refine hK.out _ _ (hHeld) (fun hHeld => ?_)
          clear hK K
          (try simp only [Act.put, List.setIfInBounds_toArray, List.set_cons_zero, List.set_cons_succ, List.getElem_toArray, List.getElem_cons_succ, List.getElem_cons_zero])
          refine wpAnyH_ready (rs := [10]) (by kernel_rfl) (by simp) ?_
          refine AllReadyH.cons rfl (fun K hK => ?_) ?_
          · have OW := own_below HO.out FB_q16.out (Nat.le_refl _)
            have hz9 := FB_q16.out.size
            obtain ⟨H8, hH8⟩ : ∃ q, wq15.heap.size = q := ⟨_, rfl⟩
            have HN9 := Lib.hid (cell_one_new wq1 (.int .i64 y) 2)
            rw [← HW9.out] at HN9
            rw [HNL.out] at OW
            have OWH := Lib.hid OW
            refine step_append_lies _ rfl _ _ 24 rfl w2.heap.size 2 i0 (.int .i64 0) 1 8 Tryz.underlying24 HI.out HZ0.out HZ1.out HZ2.out rfl (by decide) _ _ _ rfl OW ⟨wq1.heap.size, 0, none⟩ 1 1 [.int .i64 y] rfl rfl HN9.out (by intro u hu; simp at hu; subst hu; rfl) (by decide) (by simp only [maxLen]; (try dsimp only); omega) (by (try dsimp only); omega) (by omega) H8 hH8 ?_
            intro g9 cap9 w9 hown9 hgrow9 hat9 hlt9
            have o9 : w9.ownsRow w2.heap.size 2 1 (.slice (some ⟨g9, 0, none⟩) (k + 1) cap9) (notU N s (k + 1)).length ((notU N s (k + 1)).map (Value.int .i64)) := by rw [notU_len, HNS.out, List.map_append]; exact hown9
            have hbx9 := (hgrow9.block bx (by omega) (fun e => by have := (OWH.out.lt bx e.symm).1; omega)).trans ((FB_q16.out.block bx hbr).trans HBOX.out)
            have hg9 : w2.grownBy w9 (some bx) := ⟨hgrow9.os.trans (FB_q16.out.os.trans HG.out.os), hgrow9.tape.trans (FB_q16.out.tape.trans HG.out.tape), hgrow9.output.trans (FB_q16.out.output.trans HG.out.output), Nat.le_trans HG.out.size (Nat.le_trans hz9 hgrow9.size), fun z hz hne => (hgrow9.block z (by omega) (fun e => by have := (OWH.out.lt z e.symm).1; omega)).trans ((FB_q16.out.block z (by omega)).trans (HG.out.block z hz hne))⟩
            have hs9 := HSY.out _ FB_q16.out
            have cc := fun (b off : Nat) (hb : b < w.heap.size) => World.cell?_of_block (a := ⟨b, off, none⟩) (hgrow9.block b (by omega) (fun e => by have := (OWH.out.lt b e.symm).1; omega))
            have HC9 := Lib.hid (And.intro ((cc bq (oq + z) hbq).trans hs9.1) ((cc bS (oS + k) hbS).trans hs9.2))
            have O9 := Lib.hid o9; have HX9 := Lib.hid hbx9; have G9 := Lib.hid hg9
            clear o9 hbx9 hg9 hown9 hgrow9 hat9 hlt9 hH8 OW hs9 cc
            refine hK.out _ _ (HC9.out) (fun hHeld => ?_)
            clear hK K
            (try simp only [Act.put, List.setIfInBounds_toArray, List.set_cons_zero, List.set_cons_succ, List.getElem_toArray, List.getElem_cons_succ, List.getElem_cons_zero])
            refine wpAnyH_ready (rs := [11]) (by kernel_rfl) (by simp) ?_
            refine AllReadyH.cons rfl (fun K hK => ?_) ?_
            · have a0 := cell_of_row _ _ 0 _ _ (0, 0) HX9.out
              simp only [List.getElem?_toArray, List.getElem?_cons_zero] at a0
              have f0 := frozen_of_row _ _ 0 _ _ HX9.out
              go_simp
              clear a0 f0
              refine hK.out _ _ (⟨(World.cell?_setCell_other _ _ _ _ (fun e => by injection e with e1 e2 e3; omega)).trans HC9.out.1, (World.cell?_setCell_other _ _ _ _ (fun e => by injection e with e1 e2 e3; omega)).trans HC9.out.2⟩) (fun hHeld => ?_)
              clear hK K
              (try simp only [Act.put, List.setIfInBounds_toArray, List.set_cons_zero, List.set_cons_succ, List.getElem_toArray, List.getElem_cons_succ, List.getElem_cons_zero])
              refine wpAnyH_done (by kernel_rfl) ?_ _
              have HX10 := Lib.hid (show (w9.setCell ⟨bx, 0, none⟩ (.slice (some ⟨g9, 0, none⟩) (k + 1) cap9)).heap[bx]? = some (.cells #[(.slice (some ⟨g9, 0, none⟩) (k + 1) cap9)] 24 (0, 0)) from heap_setCell_same _ bx 0 _ _ (.slice (some ⟨g9, 0, none⟩) (k + 1) cap9) HX9.out)
              have O10 := Lib.hid (own_same (w' := w9.setCell ⟨bx, 0, none⟩ (.slice (some ⟨g9, 0, none⟩) (k + 1) cap9)) O9.out (fun z hz => Below.heap_setCell _ _ _ _ (fun e => by have h1 := (O9.out.lt z hz).1; dsimp only at e; omega)))
              have G10 := Lib.hid (grown_transx G9.out (grown_set (w := w9) (g := bx) (j := 0) (v := (.slice (some ⟨g9, 0, none⟩) (k + 1) cap9))))
              go_wp2
              go_roundw
              case rel => exact ⟨k + 1, by omega, by go_num, _, HX10.out, O10.out, G10.out⟩
              case measure => simp [intOf]; omega
            exact AllReadyH.nil
          exact AllReadyH.nil
        exact AllReadyH.nil
      exact AllReadyH.nil
    · have hkl : k = (prkN N).length := by omega
      subst hkl
      have hx1 := hcellk
      have hb0 := ((hg.block w.heap.size (by omega) (fun e => by injection e with e; omega)).trans G1.out)
      obtain ⟨t0, t1, t2⟩ := three_at hb0
      obtain ⟨A5, c5, rfl⟩ := own_shape hown
      have NL := notU_len N s (prkN N).length
      have rX : RdI wr wr.heap.size A5 (notU N s (prkN N).length).length (notU N s (prkN N).length) := RdI.of_own hown
      have hxb := cell_of_row _ _ 0 _ _ (0, 0) hbox
      simp only [List.getElem?_toArray, List.getElem?_cons_zero] at hxb
      have HOS : Hid (OutS wr bx A5 c5 (notU N s (prkN N).length)) := Lib.hid ⟨by omega, hxb, rX⟩
      have HRA : Hid (RdA wr wr.heap.size A (arcsU N N.w.length).length (arcsU N N.w.length)) := Lib.hid ⟨RA.out.1, by
        refine ⟨RA.out.2.1, fun hpos => ?_⟩
        obtain ⟨b, off, e, hb, hc⟩ := RA.out.2.2 hpos
        exact ⟨b, off, e, by omega, fun j hj => (hcellk b (off + j) hb).trans (hc j hj)⟩⟩
      have HCL := Lib.hid (cloneArc_any A c (arcsU N N.w.length) wr HRA.out (by omega))
      have HB1 : Hid (Below w.heap.size w wr) := Lib.hid (B02.out.trans ((Below.refl w.heap.size w2).grown hg (by omega) (fun q hq => by injection hq with hq; omega)))
      have HNX : (notU N s (prkN N).length).length ≤ 1048576 := by omega
      clear hx1 hb0 hcellk hbox hown hg rX hxb NL x0 x1 x2
      generalize notU N s (prkN N).length = X at *
      go_wp2_with (fail)
      refine HCL.out.mono ?_
      rintro e w5 ⟨A6, c6, rfl, own6, bel6⟩
      have HDL := Lib.hid (delArc_any bx A5 c5 X HNX A6 c6 (arcsU N N.w.length) w5 wr.heap.size own6 (by omega) (fun wx hx => by
        have h1 := HOS.out.below bel6
        have ho6 := fun b (e : (Value.slice A6 (arcsU N N.w.length).length c6).ownBlock = some b) => (own6.lt b e).1
        have hlt := HOS.out.lt
        refine ⟨Nat.lt_of_lt_of_le h1.lt hx.size, (World.cell?_of_block (a := ⟨bx, 0, none⟩) (hx.block bx h1.lt (fun e => by have := ho6 bx e.symm; omega))).trans h1.box, HOS.out.rd.1, fun hpos => ?_⟩
        obtain ⟨b, off, e, hb, hc⟩ := (HOS.out.rd.below bel6).2 hpos
        have hs6 := bel6.size
        exact ⟨b, off, e, Nat.lt_of_lt_of_le (Nat.lt_of_lt_of_le hb hs6) hx.size, fun j hj => (World.cell?_of_block (a := ⟨b, off + j, none⟩) (hx.block b (Nat.lt_of_lt_of_le hb hs6) (fun e => by have := ho6 b e.symm; omega))).trans (hc j hj)⟩))
      have B5 := Lib.hid bel6
      have O6 := Lib.hid (fun q (hq : (Value.slice A6 (arcsU N N.w.length).length c6).ownBlock = some q) => (own6.lt q hq).1)
      clear own6 bel6
      go_wp2_with (fail)
      refine HDL.out.mono ?_
      rintro e w7 ⟨A7, c7, rfl, own7, g7⟩
      have HG : Hid (GivesA w (grL N s) (.returned (.slice A7 (kpA X (arcsU N N.w.length) (arcsU N N.w.length).length).length c7)) w7) := Lib.hid (by
        rw [HGR.out]
        exact ⟨A7, c7, rfl, own7.mono HB1.out.size, HB1.out.trans ((B5.out.grown g7 B5.out.size (fun q hq => O6.out q hq)).mono HB1.out.size)⟩)
      clear own7 g7
      go_wp2
      go_ret
      exact HG.out
end
section
set_option linter.unusedSimpArgs false
set_option linter.unusedVariables false
open Go.RowKit

/-- All lies as it lay, but for blocks from m on that hold no cells. -/
structure StpR (m : Nat) (A B : World) : Prop where
  os : B.os = A.os
  tape : B.tape = A.tape
  output : B.output = A.output
  size : A.heap.size ≤ B.heap.size
  blk : ∀ i o, A.heap[i]? = some o → (o.isCells = true ∨ i < m) → B.heap[i]? = some o
theorem StpR.of_below {m : Nat} {A B : World} (h : Below A.heap.size A B) : StpR m A B :=
  ⟨h.os, h.tape, h.output, h.size, fun i o hi _ => (h.block i (Array.getElem?_eq_some_iff.1 hi).1).trans hi⟩
theorem StpR.put {m l : Nat} {A : World} {o : Obj} (hl : A.heap[l]? = some o) (hc : o.isCells = false) (hm : m ≤ l) (o' : Obj) : StpR m A (A.putObj l o') := by
  refine ⟨rfl, rfl, rfl, by simp, fun i x hi hr => ?_⟩
  by_cases e : i = l
  · subst e
    rw [hl] at hi
    injection hi with hi
    subst hi
    rcases hr with h | h
    · rw [hc] at h; cases h
    · omega
  · exact (World.putObj_heap_other e).trans hi
/-- The loop's record. -/
def recR (fn : FuncId) (a : Act) (ps : Array Tmp) (assign body : Code) (w : World) (st : LoopState) (pe : Option Code) : Loop :=
  { state := st, pending := pe, fn := fn, tmps := a.tmps, params := ps, assign := assign, body := body, defers := w.heap.size }
end
section
set_option linter.unusedSimpArgs false
set_option linter.unusedVariables false
open Go.ChangeAt Go.ChangeShapes Go.RowKit Go.WideShapes Go.Shelf
attribute [local go_sem] Oper.semAt_some

/-- What round k is handed: its number, and a row that reads as its bits. -/
def HdS (m k : Nat) (vs : Array Value) (W : World) : Prop := ∃ A c, vs = #[.int .i64 (k : Int), .slice A m c] ∧ RdI W W.heap.size A m (swU (k : Int) m)
theorem shl_u64 {m : Nat} (h : m ≤ 10) : IntKind.u64.wrap ((2 : Int) ^ m) = ((2 ^ m : Nat) : Int) := by
  have h1 : (2 ^ m : Nat) ≤ 2 ^ 10 := Nat.pow_le_pow_right (by decide) h
  have h2 : ((2 : Int) ^ m) = ((2 ^ m : Nat) : Int) := by simp
  rw [h2]
  generalize 2 ^ m = M at *
  rw [IntKind.wrap_u64]
  omega
end
section
set_option linter.unusedSimpArgs false
set_option linter.unusedVariables false
open Go.RowKit Go.ChangeAt Go.ChangeShapes Go.WideShapes Go.Shelf
attribute [local go_sem] Oper.semAt_some

/-- The iterator: N rounds; in round k it hands yield values of which Hd k tells in the world of the call. -/
def ItE (Ex : Nat → Prop) (F : Fence) (n : Nat) (P : Program) (g : Nat) (lb : Array Value) (N : Nat) (Hd : Nat → Array Value → World → Prop) (w : World) : Prop :=
  ∀ (l : Nat) (J Jx : Nat → World → Prop) (W : World), Below w.heap.size w W →
    (∀ k A B, J k A → Below A.heap.size A B → J k B) →
    (∀ k vs W1, k < N → J k W1 → Hd k vs W1 → YieldAt F (n - 1) P l vs W1 fun e W' =>
      (e = .returned (.bool true) ∧ J (k + 1) W' ∧ (∀ i, i < w.heap.size → ¬ Ex i → W'.heap[i]? = W1.heap[i]?) ∧ W1.heap.size ≤ W'.heap.size) ∨ (e = .returned (.bool false) ∧ Jx k W')) →
    J 0 W →
    CallsIn F n P g (#[.func (.yield l) #[] #[]] ++ lb) W fun e W' => (∃ v, e = .returned v) ∧ (J N W' ∨ ∃ k, k < N ∧ Jx k W')
/-- How a round's body may be left: off its end, or by a return. -/
def postE (Ex : Nat → Prop) (m : Nat) (I Ix : Nat → World → Prop) (k : Nat) (W : World) : Exit → Act → World → Prop
  | .normal, _, W' => KeepsOthers W W' ∧ (∀ i, i < m → ¬ Ex i → W'.heap[i]? = W.heap[i]?) ∧ I (k + 1) W'
  | .ret, _, W' => KeepsOthers W W' ∧ Ix k W'
  | _, _, _ => False
section
variable {F : Fence} {n : Nat} {P : Program}
theorem wpIn_rangeE {Ex : Nat → Prop} {g : Operand} {ps : Array Tmp} {assign body : Code} {Q : Exit → Act → World → Prop} {a : Act} {w : World}
    (hro : F.round = none) (h1 : 1 ≤ n) {gf : Nat} {lb : Array Value} (hg : a.eval g = .func (.func gf) #[] lb) (hFg : F.fn gf) (eg : ∀ args w, (callFunc gf args).run P w = .ok (.enter gf args) w)
    {N : Nat} {Hd : Nat → Array Value → World → Prop} {w0 : World} (hseq : ItE Ex F (n - 1) P gf lb N Hd w0) (hb0 : Below w0.heap.size w0 w)
    (hHd : ∀ k vs A B, Hd k vs A → StpR w.heap.size A B → Hd k vs B) (hps : ∀ k vs W, Hd k vs W → vs.size = ps.size)
    (I Ix : Nat → World → Prop) (hI : ∀ k A B, I k A → StpR w.heap.size A B → I k B) (hIx : ∀ k A B, Ix k A → StpR w.heap.size A B → Ix k B) (h0 : I 0 w) (a₁ : Array Value → Act)
    (hassign : ∀ (l k : Nat) (vs : Array Value) (W W0 : World) (K : Act → World → Prop), Hd k vs W0 → K (a₁ vs) W →
      assign.wpIn (F.inRound l) (n - 1 - 1) P (Exit.then K (fun _ _ _ => False)) { tmps := (ps.zip vs).foldl (fun t (p, v) => t.setIfInBounds p v) a.tmps, defers := [] } W)
    (hbody : ∀ (l k : Nat) (vs : Array Value) (W : World), k < N → w.heap.size ≤ W.heap.size → I k W → Hd k vs W → body.wpIn (F.inRound l) (n - 1 - 1) P (postE Ex w.heap.size I Ix k W) (a₁ vs) W)
    (hdone : ∀ W : World, I N W → W.heap[w.heap.size]? = some (.deferred (some [])) → Q .normal { a with defers := { target := .collected w.heap.size, args := #[] } :: a.defers } W)
    (hstop : ∀ (k : Nat) (W : World), k < N → Ix k W → W.heap[w.heap.size]? = some (.deferred (some [])) → Code.ret.wpIn F n P Q { a with defers := { target := .collected w.heap.size, args := #[] } :: a.defers } W) :
    (Code.rangeFunc g ps assign body).wpIn F n P Q a w := by
  refine wpIn_rangeFunc fun fn hfn => ?_
  rw [hro]
  have hbk : ∀ {A B : World} {i : Nat} {o : Obj}, Below A.heap.size A B → A.heap[i]? = some o → B.heap[i]? = some o := fun hb hi => (hb.block _ (Array.getElem?_eq_some_iff.1 hi).1).trans hi
  obtain ⟨W1, hW1⟩ : ∃ u, u = (w.alloc (.deferred (some []))).alloc (.loop (recR fn a ps assign body w .ready none)) := ⟨_, rfl⟩
  have hb1 : Below w.heap.size w W1 := by rw [hW1]; exact ((Below.refl _ w).alloc (Nat.le_refl _) _).alloc (by simp) _
  have hL1 : W1.heap[w.heap.size + 1]? = some (.loop (recR fn a ps assign body w .ready none)) := by
    have e : (w.alloc (.deferred (some []))).heap.size = w.heap.size + 1 := by simp
    rw [hW1, ← e]; exact World.alloc_heap_new _ _
  have hD1 : W1.heap[w.heap.size]? = some (.deferred (some [])) := by
    rw [hW1]; exact (Below.heap_alloc _ _ _ (by simp)).trans (World.alloc_heap_new w _)
  refine ⟨w.heap.size + 1, [{ target := .collected w.heap.size, args := #[] }], W1, { target := .fn (.func gf) lb, args := #[.func (.yield (w.heap.size + 1)) #[] #[]] }, W1, gf,
    #[.func (.yield (w.heap.size + 1)) #[] #[]] ++ lb, W1, by rw [hW1]; exact run_enterLoop_outer _ _ _ _ _, by simp only [resolve, hg]; simp [go_sem], ?_, by simp [invoke, go_sem, eg], fun _ => h1, ?_⟩
  · intro f' hf'
    simp [Target.leads] at hf'
    subst hf'
    exact hFg
  refine (hseq (w.heap.size + 1)
    (fun k W => I k W ∧ W.heap[w.heap.size + 1]? = some (.loop (recR fn a ps assign body w .ready none)) ∧ W.heap[w.heap.size]? = some (.deferred (some [])))
    (fun k W => Ix k W ∧ W.heap[w.heap.size + 1]? = some (.loop (recR fn a ps assign body w .done (some .ret))) ∧ W.heap[w.heap.size]? = some (.deferred (some [])))
    W1 (hb0.trans (hb1.mono hb0.size))
    (fun k A B h hb => ⟨hI k A B h.1 (.of_below hb), hbk hb h.2.1, hbk hb h.2.2⟩) ?_ ⟨hI 0 w W1 h0 (.of_below hb1), hL1, hD1⟩).mono ?_
  · rintro k vs W hk ⟨hi, hl, hd⟩ hh
    have hlt : w.heap.size + 1 < W.heap.size := (Array.getElem?_eq_some_iff.1 hl).1
    refine ⟨fn, _, assign, body, run_yield (P := P) (args := vs) hl (hps k vs W hh), roundIn_of_wpIn hfn (hassign _ k vs W W _ hh ⟨_, run_beginRound hl rfl, ?_⟩)⟩
    obtain ⟨W2, hW2⟩ : ∃ u, u = W.putObj (w.heap.size + 1) (.loop (recR fn a ps assign body w .busy none)) := ⟨_, rfl⟩
    have st2 : StpR w.heap.size W W2 := by rw [hW2]; exact .put hl rfl (by omega) _
    have hl2 : W2.heap[w.heap.size + 1]? = some (.loop (recR fn a ps assign body w .busy none)) := by rw [hW2]; exact World.putObj_heap_same hlt
    have hd2 : W2.heap[w.heap.size]? = some (.deferred (some [])) := by rw [hW2]; exact (World.putObj_heap_other (by omega)).trans hd
    have hs2 : W2.heap.size = W.heap.size := by rw [hW2]; simp
    have hlo2 : ∀ i, i < w.heap.size → W2.heap[i]? = W.heap[i]? := fun i hi => by rw [hW2]; exact World.putObj_heap_other (by omega)
    show body.wpIn (F.inRound (w.heap.size + 1)) (n - 1 - 1) P _ _ (W.putObj (w.heap.size + 1) (.loop (recR fn a ps assign body w .busy none)))
    rw [← hW2]
    refine wpIn_mono (hbody _ k vs W2 hk (by omega) (hI k W W2 hi st2) (hHd k vs W W2 hh st2)) ?_
    rintro e a3 W3 hp
    cases e with
    | normal =>
      obtain ⟨ko, kl, hi3⟩ := hp
      have hl3 := ko.same _ _ hl2 rfl
      have hlt3 := (Array.getElem?_eq_some_iff.1 hl3).1
      refine ⟨_, _, run_endRound (P := P) none hl3, .inl ⟨rfl, ⟨hI _ _ _ hi3 (.put hl3 rfl (by omega) _), World.putObj_heap_same hlt3, (World.putObj_heap_other (by omega)).trans (ko.same _ _ hd2 rfl)⟩, fun i hi' hx => ?_, ?_⟩⟩
      · have hb := hb0.size
        exact ((World.putObj_heap_other (by omega)).trans (kl i (by omega) hx)).trans (hlo2 i (by omega))
      · have := ko.size
        simp only [World.putObj_size]
        omega
    | ret =>
      obtain ⟨ko, hi3⟩ := hp
      have hl3 := ko.same _ _ hl2 rfl
      have hlt3 := (Array.getElem?_eq_some_iff.1 hl3).1
      exact ⟨_, _, run_endRound (P := P) (some .ret) hl3, .inr ⟨rfl, hIx _ _ _ hi3 (.put hl3 rfl (by omega) _), World.putObj_heap_same hlt3, (World.putObj_heap_other (by omega)).trans (ko.same _ _ hd2 rfl)⟩⟩
    | exit id => exact hp.elim
    | goto t => exact hp.elim
    | panic ch => exact hp.elim
    | outgrown => exact hp.elim
  · rintro e W2 ⟨⟨v, rfl⟩, (⟨hi, hl, hd⟩ | ⟨k, hk, hi, hl, hd⟩)⟩
    · exact ⟨none, _, run_endLoop (P := P) hl (by simp [recR]), hdone _ (hI _ _ _ hi (.put hl rfl (by omega) _)) ((World.putObj_heap_other (by omega)).trans hd)⟩
    · exact ⟨some .ret, _, run_endLoop (P := P) hl (by simp [recR]), hstop k _ hk (hIx _ _ _ hi (.put hl rfl (by omega) _)) ((World.putObj_heap_other (by omega)).trans hd)⟩
end

set_option maxRecDepth 100000 in
set_option maxHeartbeats 2000000 in
theorem swItE_any (Ex : Nat → Prop) (m : Nat) (hm : m ≤ 10) (bx : Nat) (w0 : World) (hbx : bx < w0.heap.size) (hc : w0.cell? ⟨bx, 0, none⟩ = some (.int .i64 m)) (hbe : ¬ Ex bx) :
    ItE Ex Fence.wide 2 Tryz.prog 128 #[.pointer (some ⟨bx, 0, none⟩)] (2 ^ m) (HdS m) w0 := by
  intro l J Jx W hW hJ hY h0
  have hpw : (2 ^ m : Nat) ≤ 1024 := by
    have h1 : (2 ^ m : Nat) ≤ 2 ^ 10 := Nat.pow_le_pow_right (by decide) hm
    omega
  have hcW := (hW.cell (p := ⟨bx, 0, none⟩) hbx).trans hc
  have hsh := shl_u64 hm
  have hsz := hW.size
  obtain ⟨M, hM⟩ : ∃ M, 2 ^ m = M := ⟨_, rfl⟩
  rw [hM] at hsh hpw hY ⊢
  clear hM
  refine callsIn_of_wp Tryz.func128 rfl trivial ?_ rfl
  simp only [Tryz.ntmps128, List.size_toArray, List.length_cons, List.length_nil, Nat.reduceAdd, Nat.reduceSub, Array.replicate_succ, Array.replicate_zero, List.push_toArray, List.append_toArray, List.nil_append, List.cons_append]
  gi_wp2
  gi_loopw [6] (fun i wr => ∃ k : Nat, k ≤ M ∧ i = .int .u64 k ∧ J k wr ∧ (∀ i, i < w0.heap.size → ¬ Ex i → wr.heap[i]? = W.heap[i]?) ∧ W.heap.size ≤ wr.heap.size) (fun i _ => M - (intOf i).toNat)
  case atStart => exact ⟨0, Nat.zero_le _, rfl, h0, fun _ _ _ => rfl, Nat.le_refl _⟩
  case round =>
    obtain ⟨k, hk, rfl, hJs, hkp, hsw⟩ := hrel
    have hcr : wr.cell? ⟨bx, 0, none⟩ = some (.int .i64 m) := (World.cell?_of_block (hkp bx hbx hbe)).trans hcW
    by_cases hlt : k < M
    · have hcv : IntKind.i64.wrap (k : Int) = k := IntWalk.i64_in _ (by omega)
      have hbits := bits_any m k wr (by omega) (by omega)
      have hln := swU_len (k : Int) m
      have HLN := Lib.hid hln
      gi_wp2_with (refine ⟨trivial, ?_⟩; gi_at_call 129; refine (callsIn_wide.2 hbits).mono ?_; rintro e w1 ⟨A, c, rfl, own, bel⟩; clear hbits; dsimp only)
      have R1 := RdI.of_own own
      rw [HLN.out] at R1
      obtain ⟨fn, tmps, assign, body, hy, hR⟩ := hY k _ w1 hlt (hJ k wr w1 hJs bel) ⟨A, c, rfl, R1⟩
      (try rw [HLN.out])
      (try dsimp only at hy)
      rw [hy]
      gi_wp2
      refine hR.mono ?_
      rintro e W3 (⟨rfl, hJ3, hk3, hs3⟩ | ⟨rfl, hJx3⟩)
      · have b1 := bel.size
        have hkp3 : ∀ i, i < w0.heap.size → ¬ Ex i → W3.heap[i]? = W.heap[i]? := fun i hi hx => ((hk3 i hi hx).trans (bel.block i (by omega))).trans (hkp i hi hx)
        gi_wp2
        go_roundw
        case rel => exact ⟨k + 1, by omega, by go_num, hJ3, hkp3, by omega⟩
        case measure => simp [intOf]; omega
      · gi_wp2
        refine bodyPost_ret (results_none rfl _ _ _) rfl ?_
        exact ⟨⟨_, rfl⟩, .inr ⟨k, hlt, hJx3⟩⟩
    · obtain rfl : k = M := by omega
      gi_wp2
      go_end0
      exact ⟨⟨_, rfl⟩, .inl hJs⟩

section
variable {P : Program} {ops : Array Oper} {Q : Exit → Act → World → Prop} {md : Region.Mode} {l n : Nat}
/-- An operation that is no 'defer', in a round: as in the plain world, where nothing lets the run out. -/
theorem wpOpIn_of_op {i : Nat} {K : Act → World → Prop} {a : Act} {w : World} (hno : ¬ LetsOut Q) (hd : ∀ o, ops[i]? = some o → ∀ c, o.op ≠ .defer c) (h : wpOp P ops Q i K a w) : wpOpIn (Fence.wide.inRound l) n P ops Q i K a w := by
  unfold wpOp at h
  unfold wpOpIn
  split
  · rename_i ho; simpa [ho] using h
  · rename_i o ho
    simp only [ho] at h
    split
    · rename_i hw
      simp only [hw, if_true] at h
      rcases h with h | ⟨_, hl⟩
      case inr => exact absurd hl hno
      refine ⟨fun _ _ => trivial, ?_⟩
      show o.uponIn (Fence.wide.inRound l) n P a K Q ((o.semAt (some l) a.eval).run P w)
      rw [Oper.semAt_some l a.eval o (hd o ho)]
      unfold Oper.wp at h
      generalize (execOp a.eval o).run P w = r at *
      cases r with
      | ok x w' =>
        cases x <;> simp only [Oper.upon, Oper.uponIn] at h ⊢ <;>
          first
            | exact h
            | exact ⟨fun e => (by cases e), CallsIn.inRound l (callsIn_wide.2 h)⟩
            | exact ⟨fun e => (by cases e), fun c cs _ => by obtain ⟨v, w2, q, s⟩ := h c cs; exact ⟨v, w2, q, stepsIn_wide.2 s⟩⟩
      | halt x w' => cases x <;> simp only [Oper.upon, Oper.uponIn] at h ⊢ <;> exact h
    · rename_i hw
      simp only [hw] at h
      exact ⟨fun _ _ => trivial, h⟩
theorem wpAnyIn_of_any (hno : ¬ LetsOut Q) (hd : ∀ (i : Nat) (o : Oper), ops[i]? = some o → ∀ c, o.op ≠ .defer c) : ∀ (fuel : Nat) (listed : Array Bool) (a : Act) (w : World), wpAny P md ops Q fuel listed a w → wpAnyIn (Fence.wide.inRound l) n P md ops Q fuel listed a w
  | 0, _, _, _, h => h
  | fuel + 1, _, _, _, h => ⟨h.1, fun i hi => wpOpIn_mono (fun a' w' h' => wpAnyIn_of_any hno hd fuel _ a' w' h') (wpOpIn_of_op hno (hd i) (h.2 i hi))⟩
/-- A drawn region of a round's body, by RgC's moves. -/
theorem wpIn_region_C_drew {c : Nat} {S : World → Prop} {id : Nat} {a : Act} {w : World} (hno : ¬ LetsOut Q) (hd : ops.all (fun o => match o.op with | .defer _ => false | _ => true) = true) (hm : P.follows .mixedOrders = true) (hS : S w.drew)
    (h : S w.drew → wpAnyC P .any ops Q S c ops.size (Array.replicate ops.size false) a w.drew) : (Code.region id ops true).wpIn (Fence.wide.inRound l) n P Q a w := by
  refine wpIn_region_any hm (wpAnyIn_of_any hno (fun i o ho c hc => ?_) _ _ _ _ (wpAny_of_C _ _ _ _ (h hS)))
  obtain ⟨hi, e⟩ := Array.getElem?_eq_some_iff.1 ho
  have := Array.all_eq_true.1 hd i hi
  rw [e, hc] at this
  cases this
end
end
end Go.Proofs.YtfdpkhiiboghiaaGreatDoor
