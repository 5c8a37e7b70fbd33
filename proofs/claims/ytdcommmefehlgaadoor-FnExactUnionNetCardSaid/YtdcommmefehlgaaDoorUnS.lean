/- The model's UnionNet. Made by mkuns.py. -/
import Derived.Test.YtdcommmefehlgaaDoorUnC
import Derived.Test.YtdcommmefehlgaaDoorUnP
import Derived.Test.YtdcommmefehlgaaDoorPgS
import Derived.Test.YtdcommmefehlgaaDoorNetT
import Derived.Test.YtdcommmefehlgaaDoorQPgG
import Derived.Test.YtdcommmefehlgaaDoorQPgC
import Derived.Test.YtdcommmefehlgaaDoorQSeqV
import Derived.Test.YtdcommmefehlgaaDoorQNetW
import Derived.Deep.DeepCutAuto
import Derived.Test.YtdcommmefehlgaaDoorTk
namespace Go.Proofs.YtdcommmefehlgaaDoor
set_option linter.unusedSimpArgs false
set_option linter.unusedVariables false
open Go.ChangeAt Go.ChangeShapes Go.RowKit Go.WideShapes

theorem four_at {w : World} {b : Nat} {a0 a1 a2 a3 : Value} {t : TypeId} (h : w.heap[b]? = some (.cells #[a0, a1, a2, a3] t (0, 0))) :
    w.cell? ⟨b, 0, none⟩ = some a0 ∧ w.cell? ⟨b, 1, none⟩ = some a1 ∧ w.cell? ⟨b, 2, none⟩ = some a2 ∧ w.cell? ⟨b, 3, none⟩ = some a3 := ⟨cell_of_row _ _ 0 _ _ (0, 0) h, cell_of_row _ _ 1 _ _ (0, 0) h, cell_of_row _ _ 2 _ _ (0, 0) h, cell_of_row _ _ 3 _ _ (0, 0) h⟩
theorem OwnQ.lowerX {w : World} {lo lo2 hi : Nat} {v : Value} {hs : Nat → Option Addr × Nat} {qs : List (List Int)} (h : OwnQ w lo hi v hs qs) (h2 : lo2 ≤ lo) : OwnQ w lo2 hi v hs qs := ⟨own_more h.outer h2, fun i hi => own_more (h.inner i hi) h2, h.apart, h.apart0, h.top0, h.top⟩
theorem rowV_one (hs : Nat → Option Addr × Nat) (qs : List (List Int)) : ∀ u ∈ rowV hs qs, u.oneCell' = true := fun u hu => by
  unfold rowV at hu
  obtain ⟨i, _, rfl⟩ := List.mem_map.1 hu
  rfl
theorem inW48 {n : Nat} {x : Int} (h : inW n x = true) (hn : n ≤ 48) : 0 ≤ x ∧ x < 48 := by
  obtain ⟨h0, h1, h2⟩ := inW_yes h
  omega
theorem sh_take {B : Nt} {k m : Nat} (h : k < B.l.length) : (B.l.take (k + 1)).map (shL m) = (B.l.take k).map (shL m) ++ [shL m (B.l.getD k Lk.nil)] := by
  rw [takeL_succ (d := Lk.nil) h, List.map_append]; rfl
theorem shc_take {B : Nt} {k m : Nat} (h : k < B.c.length) : ((B.c.take (k + 1)).map fun x => x + (m : Int)) = ((B.c.take k).map fun x => x + (m : Int)) ++ [B.c.getD k 0 + (m : Int)] := by
  rw [takeL_succ (d := 0) h, List.map_append]; rfl
set_option maxRecDepth 100000 in
set_option maxHeartbeats 8000000 in
theorem sUnion_any (hA hB : NH) (A B : Nt) (w : World) (rA : RdN w w.heap.size hA A) (rB : RdN w w.heap.size hB B) (hvA : valN A = true) (hvB : valN B = true) :
    Calls Tryd.prog 39 #[.agg #[.slice hA.A A.w.length hA.c, .slice hA.L A.l.length hA.d, .slice hA.C A.c.length hA.e], .agg #[.slice hB.A B.w.length hB.c, .slice hB.L B.l.length hB.d, .slice hB.C B.c.length hB.e]] w (CopiedN w (unS A B)) := by
  obtain ⟨w3, hw3⟩ : ∃ w3, w3 = ((w.alloc (.cells #[.slice hA.A A.w.length hA.c, .slice hA.L A.l.length hA.d, .slice hA.C A.c.length hA.e] 30)).alloc (.cells #[.slice hB.A B.w.length hB.c, .slice hB.L B.l.length hB.d, .slice hB.C B.c.length hB.e] 30)).alloc (.cells #[.slice none 0 0, .slice none 0 0, .slice none 0 0] 30) := ⟨_, rfl⟩
  obtain ⟨hb, g0, g1, g2, hsz⟩ := box_trio w (.cells #[.slice hA.A A.w.length hA.c, .slice hA.L A.l.length hA.d, .slice hA.C A.c.length hA.e] 30) (.cells #[.slice hB.A B.w.length hB.c, .slice hB.L B.l.length hB.d, .slice hB.C B.c.length hB.e] 30) (.cells #[.slice none 0 0, .slice none 0 0, .slice none 0 0] 30)
  rw [← hw3] at hb g0 g1 g2 hsz
  have hs0 : w.heap.size + 3 ≤ w3.heap.size := by omega
  have HKA := Lib.hid (fun (wx : World) (hx : Below w3.heap.size w3 wx) => three_cells ((hx.block w.heap.size (by omega)).trans g0))
  have HKB := Lib.hid (fun (wx : World) (hx : Below w3.heap.size w3 wx) => three_cells ((hx.block (w.heap.size + 1) (by omega)).trans g1))
  have HK2 := Lib.hid (fun (wx : World) (hx : Below w3.heap.size w3 wx) => (hx.block (w.heap.size + 2) (by omega)).trans g2)
  have HB0 := Lib.hid hb
  obtain ⟨y0, y1, y2⟩ := HKA.out _ (Below.refl _ w3)
  obtain ⟨z0, z1, z2⟩ := HKB.out _ (Below.refl _ w3)
  obtain ⟨sA1, sA2⟩ := valN_size hvA
  obtain ⟨sB1, sB2⟩ := valN_size hvB
  have sA3 := valN_conc_le hvA
  have sB3 := valN_conc_le hvB
  have HVF : ∀ q ∈ A.w, validB q = true := fun q hq => formN_valid (List.all_eq_true.1 (valN_forms hvA) q hq)
  have HVG : ∀ q ∈ B.w, validB q = true := fun q hq => formN_valid (List.all_eq_true.1 (valN_forms hvB) q hq)
  have HOW := Lib.hid (sOwn_any hA A w3 ((rA.below hb).more hb.size) (by omega) (fun q hq => by have := (valid_len (HVF q hq)).2.1; omega) (fun q hq => by have := (valid_len (HVF q hq)).1; omega) (by omega) (by omega))
  have HRB := Lib.hid (fun (wx : World) (hx : Below w3.heap.size w3 wx) => show RdN wx wx.heap.size hB B from (((rB.below hb).more hb.size).below hx).more hx.size)
  have HCF := Lib.hid (fun (wx : World) (hx : Below w3.heap.size w3 wx) => show Calls Tryd.prog 79 #[.slice hB.A B.w.length hB.c] wx (GivesSS wx B.w) from sCopyForms_any hB.A B.w.length hB.c B.w wx ((((rB.below hb).more hb.size).below hx).more hx.size).1 (by omega) (fun q hq => (by have := (valid_len (HVG q hq)).2.1; omega)) (fun q hq => (by have := (valid_len (HVG q hq)).1; omega)))
  have HRBC := Lib.hid (fun (bc offc : Nat) (hC : hB.C = some ⟨bc, offc, none⟩) (h0 : 0 < B.c.length) => show bc < w3.heap.size from by
    obtain ⟨b', off', e', hb', _⟩ := (((rB.below hb).more hb.size)).2.2.2 h0
    rw [hC] at e'
    injection e' with e'
    injection e' with e1 e2 e3
    omega)
  have HCL0 := Lib.hid (fun (bc offc k : Nat) (hC : hB.C = some ⟨bc, offc, none⟩) (hk : k < B.c.length) => show ∀ wx, Below w3.heap.size w3 wx → wx.cell? ⟨bc, offc + k, none⟩ = some (.int .i64 (B.c.getD k 0)) from by
    intro wx hx
    obtain ⟨b', off', e', hb', hc'⟩ := (((rB.below hb).more hb.size)).2.2.2 (by omega)
    rw [hC] at e'
    injection e' with e'
    injection e' with e1 e2 e3
    subst e1 e2
    exact (hx.cell (p := ⟨bc, offc + k, none⟩) hb').trans (hc' k hk))
  have HIL := Lib.hid (fun k (hk : k < B.l.length) => fitsN_yes (all_at (d := Lk.nil) (valN_fits hvB) hk))
  have HIC := Lib.hid (fun k (hk : k < B.c.length) => all_at (d := 0) (valN_concl hvB) hk)
  obtain ⟨i0, hi0, hz0, hz1, hz2⟩ := info_parts_s
  have HI := Lib.hid hi0; have HZ0 := Lib.hid hz0; have HZ1 := Lib.hid hz1; have HZ2 := Lib.hid hz2
  obtain ⟨i1, hi1, hz10, hz11, hz12⟩ := info_parts info_i64
  have HI1 := Lib.hid hi1; have HZ10 := Lib.hid hz10; have HZ11 := Lib.hid hz11; have HZ12 := Lib.hid hz12
  obtain ⟨i4, hi4, hz40, hz41, hz42⟩ := info_parts_link
  have HI4 := Lib.hid hi4; have HZ40 := Lib.hid hz40; have HZ41 := Lib.hid hz41; have HZ42 := Lib.hid hz42
  clear hi0 hz0 hz1 hz2 hi1 hz10 hz11 hz12 hi4 hz40 hz41 hz42 HVF HVG hb g0 g1 g2 hsz rA rB hvA hvB
  go_enter Tryd.func39, Tryd.ntmps39
  go_wp2_with (fail)
  rw [← hw3]
  clear hw3
  refine HOW.out.mono ?_
  rintro e u1 ⟨h2, rfl, own2, bel2⟩
  obtain ⟨u2, hu2⟩ : ∃ u2, u2 = u1.alloc (.cells #[.slice h2.A A.w.length h2.c, .slice h2.L A.l.length h2.d, .slice h2.C A.c.length h2.e] 30) := ⟨_, rfl⟩
  have bx : Below u1.heap.size u1 u2 := by rw [hu2]; exact (Below.refl _ _).alloc (Nat.le_refl _) _
  have p3 : u2.heap[u1.heap.size]? = some (.cells #[.slice h2.A A.w.length h2.c, .slice h2.L A.l.length h2.d, .slice h2.C A.c.length h2.e] 30 (0, 0)) := by rw [hu2]; exact heap_alloc_new _ _
  have s3 : u1.heap.size < u2.heap.size := by rw [hu2]; simp
  have s2 := bel2.size
  have hb3 := bel2.trans (bx.mono s2)
  have O3 := (own2.below bx).size
  have F3 := own2.far_ge (Nat.le_refl _)
  obtain ⟨bo, hbo⟩ : ∃ bo, u1.heap.size = bo := ⟨_, rfl⟩
  rw [hbo] at p3 s2 s3 F3
  have PS3 := Lib.hid (show PlSt w3 u2 u2 bo h2 A h2 A from { own := O3, far := fun _ _ f => f, keep := fun _ _ _ _ => rfl, box := p3, bel := hb3, size := Nat.le_refl _, sxl := s3, sxf := F3, sxb := s2 })
  have B2 := Lib.hid hb3
  have HU2 := Lib.hid hu2; have HBO := Lib.hid hbo
  have HBOL : Hid (w3.heap.size ≤ bo) := Lib.hid s2
  clear bx own2 bel2 y0 y1 y2 z0 z1 z2 p3 O3 F3 hb3 hu2 hbo
  obtain ⟨y0, y1, y2⟩ := HKA.out _ B2.out
  obtain ⟨z0, z1, z2⟩ := HKB.out _ B2.out
  obtain ⟨k0, k1, k2⟩ := three_cells PS3.out.box
  rw [HU2.out] at y0 y1 y2 z0 z1 z2 k0 k1 k2
  go_upto_region 3 with (fail)
  (try rw [HBO.out])
  (try rw [← HU2.out])
  clear y0 y1 y2 z0 z1 z2 k0 k1 k2
  go_cut [] (fun wx => LkSu w3 u2 w3 bo h2 A ⟨A.w ++ B.w, A.l, A.c⟩ wx)
  case first =>
    have FB_0 := Lib.hid (Below.refl u2.heap.size u2)
    have FX_0 := Lib.hid PS3.out.box
    have FO_0 := Lib.hid PS3.out.own.q.outer
    have HOQ := Lib.hid PS3.out.own.q.outer
    have HFA := Lib.hid (PS3.out.far bo PS3.out.sxl PS3.out.sxf).a
    have HSX : Hid (∀ wx : World, Below u2.heap.size u2 wx → wx.cell? ⟨w.heap.size + 1, 0, none⟩ = some (.slice hB.A B.w.length hB.c) ∧ wx.cell? ⟨w.heap.size + 1, 1, none⟩ = some (.slice hB.L B.l.length hB.d) ∧ wx.cell? ⟨w.heap.size + 1, 2, none⟩ = some (.slice hB.C B.c.length hB.e)) := Lib.hid fun wx hx => HKB.out wx (B2.out.trans (hx.mono B2.out.size))
    refine wp_region_held_drew (S := fun wx => wx.cell? ⟨w.heap.size + 1, 0, none⟩ = some (.slice hB.A B.w.length hB.c) ∧ wx.cell? ⟨w.heap.size + 1, 1, none⟩ = some (.slice hB.L B.l.length hB.d) ∧ wx.cell? ⟨w.heap.size + 1, 2, none⟩ = some (.slice hB.C B.c.length hB.e)) (by kernel_rfl) (HSX.out _ (Below.refl _ _).drew) (fun hHeld => ?_)
    obtain ⟨wq1, hwq1⟩ : ∃ w', w' = u2.drew := ⟨_, rfl⟩
    rw [← hwq1] at hHeld ⊢
    have bq1 : Below u2.heap.size u2 wq1 := by rw [hwq1]; exact (Below.refl _ _).drew
    clear hwq1
    have FB_q2 := Lib.hid ((FB_0.out).trans ((bq1).mono (FB_0.out).size))
    have FX_q3 := Lib.hid (((bq1).block _ (Array.getElem?_eq_some_iff.1 (FX_0.out)).1).trans (FX_0.out))
    have FO_q4 := Lib.hid (own_below (FO_0.out) (bq1) (Nat.le_refl _))
    clear FB_0 FX_0 FO_0
    refine wpAnyH_take (i := 0) (v := ?vq5) rfl (by kernel_rfl) (by kernel_rfl) (by kernel_rfl) (fun _ _ _ h => h) (Or.inl ⟨by rfl, ?yq5⟩) (by assumption) ?_
    case yq5 => (intro w hSw; (try dsimp only at hSw); go_simp; all_goals (with_reducible rfl))
    (try simp only [Act.put, List.setIfInBounds_toArray, List.set_cons_zero, List.set_cons_succ, List.getElem_toArray, List.getElem_cons_succ, List.getElem_cons_zero])
    refine wpAnyH_take (i := 2) (v := ?vq6) rfl (by kernel_rfl) (by kernel_rfl) (by kernel_rfl) (fun _ _ _ h => h) (Or.inl ⟨by rfl, ?yq6⟩) (by assumption) ?_
    case yq6 => (intro w hSw; (try dsimp only at hSw); go_simp; all_goals (with_reducible rfl))
    (try simp only [Act.put, List.setIfInBounds_toArray, List.set_cons_zero, List.set_cons_succ, List.getElem_toArray, List.getElem_cons_succ, List.getElem_cons_zero])
    refine wpAnyH_take (i := 3) (v := ?vq7) rfl (by kernel_rfl) (by kernel_rfl) (by kernel_rfl) (fun _ _ _ h => h) (Or.inl ⟨by rfl, ?yq7⟩) (by assumption) ?_
    case yq7 => (intro w hSw; (try dsimp only at hSw); go_simp; all_goals (with_reducible rfl))
    (try simp only [Act.put, List.setIfInBounds_toArray, List.set_cons_zero, List.set_cons_succ, List.getElem_toArray, List.getElem_cons_succ, List.getElem_cons_zero])
    refine wpAnyH_ready (rs := [1, 4]) (by kernel_rfl) (by simp) ?_
    refine AllReadyH.cons rfl (fun K hK => ?_) ?_
    · have cq := cell_of_row _ _ 0 _ _ (0, 0) FX_q3.out
      go_simp
      clear cq
      refine hK.out _ _ (hHeld) (fun hHeld => ?_)
      clear hK K
      (try simp only [Act.put, List.setIfInBounds_toArray, List.set_cons_zero, List.set_cons_succ, List.getElem_toArray, List.getElem_cons_succ, List.getElem_cons_zero])
      refine wpAnyH_ready (rs := [4]) (by kernel_rfl) (by simp) ?_
      refine AllReadyH.cons rfl (fun K hK => ?_) ?_
      · go_simp
        have hsp := Lib.hid FB_q2.out.size
        refine (HCF.out wq1 (B2.out.trans (FB_q2.out.mono B2.out.size))).mono ?_
        rintro e wq8 ⟨hsF, AF, cF, rfl, ownq8, belq8⟩
        dsimp only
        have FB_q9 := Lib.hid ((FB_q2.out).trans ((belq8).mono (FB_q2.out).size))
        have FX_q10 := Lib.hid (((belq8).block _ (Array.getElem?_eq_some_iff.1 (FX_q3.out)).1).trans (FX_q3.out))
        have FO_q11 := Lib.hid (own_below (FO_q4.out) (belq8) (Nat.le_refl _))
        clear FB_q2 FX_q3 FO_q4
        have OQ := Lib.hid ownq8
        clear ownq8 belq8
        refine hK.out _ _ (HSX.out _ FB_q9.out) (fun hHeld => ?_)
        clear hK K
        (try simp only [Act.put, List.setIfInBounds_toArray, List.set_cons_zero, List.set_cons_succ, List.getElem_toArray, List.getElem_cons_succ, List.getElem_cons_zero])
        refine wpAnyH_ready (rs := [5]) (by kernel_rfl) (by simp) ?_
        refine AllReadyH.cons rfl (fun K hK => ?_) ?_
        · have OQ2 := OwnQ.lowerX OQ.out hsp.out
          refine step_atX rfl _ _ 22 rfl w3.heap.size 24 i0 (.slice none 0 0) 24 Tryd.underlying22 HI.out HZ0.out HZ1.out HZ2.out rfl _ _ _ rfl FO_q11.out AF _ cF u2.heap.size _ rfl OQ2.outer (rowV_one _ _) (by simp only [maxLen]; omega) (by (try dsimp only); omega) (Nat.le_trans B2.out.size FB_q9.out.size) ?_
          intro v7 w7 own7 gr7 at7
          obtain ⟨A7, c7, rfl, _⟩ := own_shape1 own7
          have HP7 := Lib.hid (PS3.out.pushWs FB_q9.out OQ2 own7 gr7 at7)
          have q7 := (gr7.block bo (Nat.lt_of_lt_of_le s3 FB_q9.out.size) (fun e => HFA.out e.symm)).trans FX_q10.out
          have HQ7 := Lib.hid q7
          have b7 := (B2.out.trans (FB_q9.out.mono B2.out.size)).grown gr7 (Nat.le_trans B2.out.size FB_q9.out.size) (fun q hq => (HOQ.out.lt q hq).1)
          have HK7 := Lib.hid (HKB.out w7 b7)
          have HB8 := Lib.hid (b7.setCell (p := ⟨bo, 0, none⟩) HBOL.out (.slice A7 (A.w ++ B.w).length c7))
          have hlw : (A.w ++ B.w).length = A.w.length + B.w.length := List.length_append
          have HLW := Lib.hid hlw
          clear own7 gr7 at7 q7 b7 OQ2 hlw
          refine hK.out _ _ (HK7.out) (fun hHeld => ?_)
          clear hK K
          (try simp only [Act.put, List.setIfInBounds_toArray, List.set_cons_zero, List.set_cons_succ, List.getElem_toArray, List.getElem_cons_succ, List.getElem_cons_zero])
          refine wpAnyH_take (i := 6) (v := ?vq12) rfl (by kernel_rfl) (by kernel_rfl) (by kernel_rfl) (fun _ _ _ h => h) (Or.inl ⟨by rfl, ?yq12⟩) (by assumption) ?_
          case yq12 => (intro w hSw; (try dsimp only at hSw); go_simp; all_goals (with_reducible rfl))
          (try simp only [Act.put, List.setIfInBounds_toArray, List.set_cons_zero, List.set_cons_succ, List.getElem_toArray, List.getElem_cons_succ, List.getElem_cons_zero])
          refine wpAnyH_ready (rs := [7]) (by kernel_rfl) (by simp) ?_
          refine AllReadyH.cons rfl (fun K hK => ?_) ?_
          · obtain ⟨a0, a1, a2⟩ := three_cells HQ7.out
            have f2 := frozen_of_row _ _ 0 _ _ HQ7.out
            rw [HLW.out] at HP7 HB8
            go_simp
            clear a0 a1 a2 f2
            refine hK.out _ _ (⟨farW_cell HK7.out.1 (by have := HBOL.out; omega), farW_cell HK7.out.2.1 (by have := HBOL.out; omega), farW_cell HK7.out.2.2 (by have := HBOL.out; omega)⟩) (fun hHeld => ?_)
            clear hK K
            (try simp only [Act.put, List.setIfInBounds_toArray, List.set_cons_zero, List.set_cons_succ, List.getElem_toArray, List.getElem_cons_succ, List.getElem_cons_zero])
            refine wpAnyH_done (by kernel_rfl) ?_ _
            go_wp2_with (fail)
            go_meet
            exact ⟨_, HP7.out, HB8.out⟩
          exact AllReadyH.nil
        exact AllReadyH.nil
      exact AllReadyH.nil
    refine AllReadyH.cons rfl (fun K hK => ?_) ?_
    · go_simp
      have hsp := Lib.hid FB_q2.out.size
      refine (HCF.out wq1 (B2.out.trans (FB_q2.out.mono B2.out.size))).mono ?_
      rintro e wq13 ⟨hsF, AF, cF, rfl, ownq13, belq13⟩
      dsimp only
      have FB_q14 := Lib.hid ((FB_q2.out).trans ((belq13).mono (FB_q2.out).size))
      have FX_q15 := Lib.hid (((belq13).block _ (Array.getElem?_eq_some_iff.1 (FX_q3.out)).1).trans (FX_q3.out))
      have FO_q16 := Lib.hid (own_below (FO_q4.out) (belq13) (Nat.le_refl _))
      clear FB_q2 FX_q3 FO_q4
      have OQ := Lib.hid ownq13
      clear ownq13 belq13
      refine hK.out _ _ (HSX.out _ FB_q14.out) (fun hHeld => ?_)
      clear hK K
      (try simp only [Act.put, List.setIfInBounds_toArray, List.set_cons_zero, List.set_cons_succ, List.getElem_toArray, List.getElem_cons_succ, List.getElem_cons_zero])
      refine wpAnyH_ready (rs := [1]) (by kernel_rfl) (by simp) ?_
      refine AllReadyH.cons rfl (fun K hK => ?_) ?_
      · have cq := cell_of_row _ _ 0 _ _ (0, 0) FX_q15.out
        go_simp
        clear cq
        refine hK.out _ _ (hHeld) (fun hHeld => ?_)
        clear hK K
        (try simp only [Act.put, List.setIfInBounds_toArray, List.set_cons_zero, List.set_cons_succ, List.getElem_toArray, List.getElem_cons_succ, List.getElem_cons_zero])
        refine wpAnyH_ready (rs := [5]) (by kernel_rfl) (by simp) ?_
        refine AllReadyH.cons rfl (fun K hK => ?_) ?_
        · have OQ2 := OwnQ.lowerX OQ.out hsp.out
          refine step_atX rfl _ _ 22 rfl w3.heap.size 24 i0 (.slice none 0 0) 24 Tryd.underlying22 HI.out HZ0.out HZ1.out HZ2.out rfl _ _ _ rfl FO_q16.out AF _ cF u2.heap.size _ rfl OQ2.outer (rowV_one _ _) (by simp only [maxLen]; omega) (by (try dsimp only); omega) (Nat.le_trans B2.out.size FB_q14.out.size) ?_
          intro v7 w7 own7 gr7 at7
          obtain ⟨A7, c7, rfl, _⟩ := own_shape1 own7
          have HP7 := Lib.hid (PS3.out.pushWs FB_q14.out OQ2 own7 gr7 at7)
          have q7 := (gr7.block bo (Nat.lt_of_lt_of_le s3 FB_q14.out.size) (fun e => HFA.out e.symm)).trans FX_q15.out
          have HQ7 := Lib.hid q7
          have b7 := (B2.out.trans (FB_q14.out.mono B2.out.size)).grown gr7 (Nat.le_trans B2.out.size FB_q14.out.size) (fun q hq => (HOQ.out.lt q hq).1)
          have HK7 := Lib.hid (HKB.out w7 b7)
          have HB8 := Lib.hid (b7.setCell (p := ⟨bo, 0, none⟩) HBOL.out (.slice A7 (A.w ++ B.w).length c7))
          have hlw : (A.w ++ B.w).length = A.w.length + B.w.length := List.length_append
          have HLW := Lib.hid hlw
          clear own7 gr7 at7 q7 b7 OQ2 hlw
          refine hK.out _ _ (HK7.out) (fun hHeld => ?_)
          clear hK K
          (try simp only [Act.put, List.setIfInBounds_toArray, List.set_cons_zero, List.set_cons_succ, List.getElem_toArray, List.getElem_cons_succ, List.getElem_cons_zero])
          refine wpAnyH_take (i := 6) (v := ?vq17) rfl (by kernel_rfl) (by kernel_rfl) (by kernel_rfl) (fun _ _ _ h => h) (Or.inl ⟨by rfl, ?yq17⟩) (by assumption) ?_
          case yq17 => (intro w hSw; (try dsimp only at hSw); go_simp; all_goals (with_reducible rfl))
          (try simp only [Act.put, List.setIfInBounds_toArray, List.set_cons_zero, List.set_cons_succ, List.getElem_toArray, List.getElem_cons_succ, List.getElem_cons_zero])
          refine wpAnyH_ready (rs := [7]) (by kernel_rfl) (by simp) ?_
          refine AllReadyH.cons rfl (fun K hK => ?_) ?_
          · obtain ⟨a0, a1, a2⟩ := three_cells HQ7.out
            have f2 := frozen_of_row _ _ 0 _ _ HQ7.out
            rw [HLW.out] at HP7 HB8
            go_simp
            clear a0 a1 a2 f2
            refine hK.out _ _ (⟨farW_cell HK7.out.1 (by have := HBOL.out; omega), farW_cell HK7.out.2.1 (by have := HBOL.out; omega), farW_cell HK7.out.2.2 (by have := HBOL.out; omega)⟩) (fun hHeld => ?_)
            clear hK K
            (try simp only [Act.put, List.setIfInBounds_toArray, List.set_cons_zero, List.set_cons_succ, List.getElem_toArray, List.getElem_cons_succ, List.getElem_cons_zero])
            refine wpAnyH_done (by kernel_rfl) ?_ _
            go_wp2_with (fail)
            go_meet
            exact ⟨_, HP7.out, HB8.out⟩
          exact AllReadyH.nil
        exact AllReadyH.nil
      exact AllReadyH.nil
    exact AllReadyH.nil
  case rest =>
    obtain ⟨ww, hww⟩ : ∃ l, A.w ++ B.w = l := ⟨_, rfl⟩
    rw [hww] at hcut
    have HWW := Lib.hid hww
    have ST := Lib.hid hcut
    clear hcut PS3 hww
    obtain ⟨z0, z1, z2⟩ := HKB.out _ ST.out.choose_spec.2
    go_wp2
    go_loopw [7] (fun i wx => ∃ (k : Nat) (ll : List Lk), k ≤ B.l.length ∧ i = .int .i64 k ∧ Hid (A.l ++ (B.l.take k).map (shL A.w.length) = ll) ∧ LkSu w3 u2 w3 bo h2 A ⟨ww, ll, A.c⟩ wx) (fun i _ => B.l.length - (intOf i).toNat)
    case atStart => exact ⟨0, A.l, Nat.zero_le _, rfl, Lib.hid (by simp), ST.out⟩
    case round =>
      obtain ⟨k, ll, hk, rfl, HLE, h8, hP, hBl⟩ := hrel
      have hll : ll.length ≤ 96 := by rw [← HLE.out]; simp only [List.length_append, List.length_map, List.length_take]; omega
      clear ST z0 z1 z2
      obtain ⟨z0, z1, z2⟩ := HKB.out _ hBl
      by_cases hlt : k < B.l.length
      · obtain ⟨b, off, hL, hbb, hcells⟩ := (HRB.out _ hBl).2.1.at (by omega)
        obtain ⟨x0, x1, x2, x3⟩ := hcells k hlt
        obtain ⟨fa, fb, fc, _⟩ := HIL.out k hlt
        have HST := Lib.hid (sh_take (m := A.w.length) hlt)
        obtain ⟨⟨lk, la, lb, lc⟩, hl⟩ : ∃ l, B.l.getD k Lk.nil = l := ⟨_, rfl⟩
        rw [hl] at x0 x1 x2 x3 fa fb fc HST
        dsimp only at x0 x1 x2 x3 fa fb fc
        obtain ⟨a0, a1⟩ := inW48 fa sB1; obtain ⟨b0, b1⟩ := inW48 fb sB1; obtain ⟨c0, c1⟩ := inW48 fc sB1
        have hwa : IntKind.i64.wrap (la + (A.w.length : Int)) = la + (A.w.length : Int) := IntWalk.i64_in _ (by omega)
        have hwb : IntKind.i64.wrap (lb + (A.w.length : Int)) = lb + (A.w.length : Int) := IntWalk.i64_in _ (by omega)
        have hwc : IntKind.i64.wrap (lc + (A.w.length : Int)) = lc + (A.w.length : Int) := IntWalk.i64_in _ (by omega)
        have hsw := hBl.size
        obtain ⟨v0, hv0⟩ : ∃ v0, v0 = wr.alloc (.cells #[.int .i64 lk, .int .i64 la, .int .i64 lb, .int .i64 lc] 72) := ⟨_, rfl⟩
        have bv : Below wr.heap.size wr v0 := by rw [hv0]; exact (Below.refl _ _).alloc (Nat.le_refl _) _
        have pv : v0.heap[wr.heap.size]? = some (.cells #[.int .i64 lk, .int .i64 la, .int .i64 lb, .int .i64 lc] 72 (0, 0)) := by rw [hv0]; exact heap_alloc_new _ _
        have HV0 := Lib.hid hv0
        have HLL := Lib.hid hL
        rw [hL] at z1
        have PS := Lib.hid hP; have BW := Lib.hid hBl
        have BV0 := Lib.hid bv; have PV0 := Lib.hid pv
        clear hcells hl hP hBl bv hv0 fa fb fc hL
        obtain ⟨q0, q1, q2, q3⟩ := four_at pv
        have qf := frozen_of_row _ _ 1 _ _ pv
        clear pv
        go_upto_region 8 with (fail)
        rw [← HV0.out]
        clear x0 x1 x2 x3 z0 z1 z2 HV0
        have pv := heap_setCell_same v0 wr.heap.size 1 _ _ (.int .i64 (la + (A.w.length : Int))) PV0.out
        have pv' : (v0.setCell ⟨wr.heap.size, 1, none⟩ (.int .i64 (la + (A.w.length : Int)))).heap[wr.heap.size]? = some (.cells #[.int .i64 lk, .int .i64 (la + (A.w.length : Int)), .int .i64 lb, .int .i64 lc] 72 (0, 0)) := by simpa using pv
        have bv := BV0.out.setCell (p := ⟨wr.heap.size, 1, none⟩) (Nat.le_refl _) (.int .i64 (la + (A.w.length : Int)))
        have PV1 := Lib.hid pv'; have BV1 := Lib.hid bv
        clear pv pv' bv
        go_upto_region 9 with (fail)
        clear q0 q1 q2 q3 qf
        generalize v0.setCell ⟨wr.heap.size, 1, none⟩ (.int .i64 (la + (A.w.length : Int))) = v1 at *
        obtain ⟨q0, q1, q2, q3⟩ := four_at PV1.out
        have qf := frozen_of_row _ _ 2 _ _ PV1.out
        have pv := heap_setCell_same v1 wr.heap.size 2 _ _ (.int .i64 (lb + (A.w.length : Int))) PV1.out
        have pv' : (v1.setCell ⟨wr.heap.size, 2, none⟩ (.int .i64 (lb + (A.w.length : Int)))).heap[wr.heap.size]? = some (.cells #[.int .i64 lk, .int .i64 (la + (A.w.length : Int)), .int .i64 (lb + (A.w.length : Int)), .int .i64 lc] 72 (0, 0)) := by simpa using pv
        have bv := BV1.out.setCell (p := ⟨wr.heap.size, 2, none⟩) (Nat.le_refl _) (.int .i64 (lb + (A.w.length : Int)))
        have PV2 := Lib.hid pv'; have BV2 := Lib.hid bv
        clear pv pv' bv
        go_upto_region 10 with (fail)
        clear q0 q1 q2 q3 qf
        generalize v1.setCell ⟨wr.heap.size, 2, none⟩ (.int .i64 (lb + (A.w.length : Int))) = v2 at *
        obtain ⟨q0, q1, q2, q3⟩ := four_at PV2.out
        have qf := frozen_of_row _ _ 3 _ _ PV2.out
        by_cases h34 : lk = 3 ∨ lk = 4
        · have pv := heap_setCell_same v2 wr.heap.size 3 _ _ (.int .i64 (lc + (A.w.length : Int))) PV2.out
          have pv' : (v2.setCell ⟨wr.heap.size, 3, none⟩ (.int .i64 (lc + (A.w.length : Int)))).heap[wr.heap.size]? = some (.cells #[.int .i64 lk, .int .i64 (la + (A.w.length : Int)), .int .i64 (lb + (A.w.length : Int)), .int .i64 (lc + (A.w.length : Int))] 72 (0, 0)) := by simpa using pv
          have bv := BV2.out.setCell (p := ⟨wr.heap.size, 3, none⟩) (Nat.le_refl _) (.int .i64 (lc + (A.w.length : Int)))
          have PV3 := Lib.hid pv'; have BV3 := Lib.hid bv
          clear pv pv' bv
          have hsl : shL A.w.length ⟨lk, la, lb, lc⟩ = ⟨lk, la + (A.w.length : Int), lb + (A.w.length : Int), lc + (A.w.length : Int)⟩ := by unfold shL; rw [if_pos h34]
          rw [hsl] at HST
          clear hsl
          have hg : (lk == 3) = true ∨ ((lk == 3) = false ∧ (lk == 4) = true) := by rcases h34 with e | e <;> subst e <;> simp
          clear h34
          rcases hg with hg | ⟨hg, hg2⟩
          · go_upto_region 12 with (fail)
            clear q0 q1 q2 q3 qf
            generalize v2.setCell ⟨wr.heap.size, 3, none⟩ (.int .i64 (lc + (A.w.length : Int))) = v3 at *
            obtain ⟨q0, q1, q2, q3⟩ := four_at PV3.out
            have hbox := (BV3.out.block bo (Nat.lt_of_lt_of_le s3 PS.out.size)).trans PS.out.box
            obtain ⟨k0, k1, k2⟩ := three_cells hbox
            have hxo := (PS.out.below BV3.out).own.l
            have HO6 := Lib.hid (hxo.alloc (.cells #[.int .i64 lk, .int .i64 (la + (A.w.length : Int)), .int .i64 (lb + (A.w.length : Int)), .int .i64 (lc + (A.w.length : Int))] 72))
            have bxa : Below v3.heap.size v3 (v3.alloc (.cells #[.int .i64 lk, .int .i64 (la + (A.w.length : Int)), .int .i64 (lb + (A.w.length : Int)), .int .i64 (lc + (A.w.length : Int))] 72)) := (Below.refl _ _).alloc (Nat.le_refl _) _
            have hsv := BV3.out.size
            have BXC := Lib.hid (BV3.out.trans (bxa.mono hsv))
            have PZC := Lib.hid ((bxa.block bo (by have := PS.out.size; omega)).trans hbox)
            have HFL := Lib.hid (PS.out.far bo PS.out.sxl PS.out.sxf).l
            have HNB := Lib.hid (World.news_of_block (heap_alloc_new v3 (.cells #[.int .i64 lk, .int .i64 (la + (A.w.length : Int)), .int .i64 (lb + (A.w.length : Int)), .int .i64 (lc + (A.w.length : Int))] 72)))
            have hss := PS.out.size; have hbs := PS.out.bel.size
            clear bxa hxo hbox
            go_wp2_with (at_builtin; refine wpList_append_own_at _ rfl _ _ 28 rfl w3.heap.size 72 i4 (.agg #[.int .i64 0, .int .i64 0, .int .i64 0, .int .i64 0]) 4 32 Tryd.underlying28 HI4.out HZ40.out HZ41.out HZ42.out rfl (by decide) _ _ _ rfl HO6.out ⟨v3.heap.size, 0, none⟩ 1 1 [.int .i64 lk, .int .i64 (la + (A.w.length : Int)), .int .i64 (lb + (A.w.length : Int)), .int .i64 (lc + (A.w.length : Int))] rfl rfl HNB.out (by simp [Value.oneCell']) ?c3 ?c4 ?c5 ?_)
            case c3 => simp only [maxLen]; omega
            case c4 => omega
            case c5 => have := BXC.out.size; omega
            intro v11 u11 own11 gr11 _ at11
            obtain ⟨ls', hls'⟩ : ∃ l, ll ++ [(⟨lk, la + (A.w.length : Int), lb + (A.w.length : Int), lc + (A.w.length : Int)⟩ : Lk)] = l := ⟨_, rfl⟩
            have own11' : u11.ownsRow w3.heap.size 72 4 v11 ls'.length ((flL ls').map (Value.int .i64)) := by rw [← hls', flL_app, List.map_append, List.length_append]; exact own11
            have HLS : Hid (A.l ++ (B.l.take (k + 1)).map (shL A.w.length) = ls') := Lib.hid (by rw [HST.out, ← List.append_assoc, HLE.out]; exact hls')
            obtain ⟨L7, d7, rfl⟩ := own_shape4 own11'
            have hsz11 : (v3.alloc (.cells #[.int .i64 lk, .int .i64 (la + (A.w.length : Int)), .int .i64 (lb + (A.w.length : Int)), .int .i64 (lc + (A.w.length : Int))] 72)).heap.size = v3.heap.size + 1 := World.size_alloc _ _
            have HP7 := Lib.hid (PS.out.pushL BXC.out own11' gr11 (by rw [hsz11]; exact at11))
            have p11 := (gr11.block bo (by rw [hsz11]; omega) (fun e => HFL.out e.symm)).trans PZC.out
            have HB8 := Lib.hid (((BW.out.trans (BXC.out.mono BW.out.size)).grown gr11 (by have := BW.out.size; have := BXC.out.size; omega) (fun q hq => (PS.out.own.l.lt q hq).1)).setCell (p := ⟨bo, 1, none⟩) HBOL.out (.slice L7 ls'.length d7))
            clear k0 k1 k2 hls'
            obtain ⟨k0, k1, k2⟩ := three_cells p11
            have k3 := frozen_of_row _ _ 1 _ _ p11
            clear own11 own11' gr11 at11 p11 hsz11 HNB HO6 PZC BXC
            go_wp2
            go_roundw
            case rel => exact ⟨k + 1, ls', by omega, by go_num, HLS, ⟨_, HP7.out, HB8.out⟩⟩
            case measure => simp [intOf]; omega
          · go_upto_region 12 with (fail)
            clear q0 q1 q2 q3 qf
            generalize v2.setCell ⟨wr.heap.size, 3, none⟩ (.int .i64 (lc + (A.w.length : Int))) = v3 at *
            obtain ⟨q0, q1, q2, q3⟩ := four_at PV3.out
            have hbox := (BV3.out.block bo (Nat.lt_of_lt_of_le s3 PS.out.size)).trans PS.out.box
            obtain ⟨k0, k1, k2⟩ := three_cells hbox
            have hxo := (PS.out.below BV3.out).own.l
            have HO6 := Lib.hid (hxo.alloc (.cells #[.int .i64 lk, .int .i64 (la + (A.w.length : Int)), .int .i64 (lb + (A.w.length : Int)), .int .i64 (lc + (A.w.length : Int))] 72))
            have bxa : Below v3.heap.size v3 (v3.alloc (.cells #[.int .i64 lk, .int .i64 (la + (A.w.length : Int)), .int .i64 (lb + (A.w.length : Int)), .int .i64 (lc + (A.w.length : Int))] 72)) := (Below.refl _ _).alloc (Nat.le_refl _) _
            have hsv := BV3.out.size
            have BXC := Lib.hid (BV3.out.trans (bxa.mono hsv))
            have PZC := Lib.hid ((bxa.block bo (by have := PS.out.size; omega)).trans hbox)
            have HFL := Lib.hid (PS.out.far bo PS.out.sxl PS.out.sxf).l
            have HNB := Lib.hid (World.news_of_block (heap_alloc_new v3 (.cells #[.int .i64 lk, .int .i64 (la + (A.w.length : Int)), .int .i64 (lb + (A.w.length : Int)), .int .i64 (lc + (A.w.length : Int))] 72)))
            have hss := PS.out.size; have hbs := PS.out.bel.size
            clear bxa hxo hbox
            go_wp2_with (at_builtin; refine wpList_append_own_at _ rfl _ _ 28 rfl w3.heap.size 72 i4 (.agg #[.int .i64 0, .int .i64 0, .int .i64 0, .int .i64 0]) 4 32 Tryd.underlying28 HI4.out HZ40.out HZ41.out HZ42.out rfl (by decide) _ _ _ rfl HO6.out ⟨v3.heap.size, 0, none⟩ 1 1 [.int .i64 lk, .int .i64 (la + (A.w.length : Int)), .int .i64 (lb + (A.w.length : Int)), .int .i64 (lc + (A.w.length : Int))] rfl rfl HNB.out (by simp [Value.oneCell']) ?c3 ?c4 ?c5 ?_)
            case c3 => simp only [maxLen]; omega
            case c4 => omega
            case c5 => have := BXC.out.size; omega
            intro v11 u11 own11 gr11 _ at11
            obtain ⟨ls', hls'⟩ : ∃ l, ll ++ [(⟨lk, la + (A.w.length : Int), lb + (A.w.length : Int), lc + (A.w.length : Int)⟩ : Lk)] = l := ⟨_, rfl⟩
            have own11' : u11.ownsRow w3.heap.size 72 4 v11 ls'.length ((flL ls').map (Value.int .i64)) := by rw [← hls', flL_app, List.map_append, List.length_append]; exact own11
            have HLS : Hid (A.l ++ (B.l.take (k + 1)).map (shL A.w.length) = ls') := Lib.hid (by rw [HST.out, ← List.append_assoc, HLE.out]; exact hls')
            obtain ⟨L7, d7, rfl⟩ := own_shape4 own11'
            have hsz11 : (v3.alloc (.cells #[.int .i64 lk, .int .i64 (la + (A.w.length : Int)), .int .i64 (lb + (A.w.length : Int)), .int .i64 (lc + (A.w.length : Int))] 72)).heap.size = v3.heap.size + 1 := World.size_alloc _ _
            have HP7 := Lib.hid (PS.out.pushL BXC.out own11' gr11 (by rw [hsz11]; exact at11))
            have p11 := (gr11.block bo (by rw [hsz11]; omega) (fun e => HFL.out e.symm)).trans PZC.out
            have HB8 := Lib.hid (((BW.out.trans (BXC.out.mono BW.out.size)).grown gr11 (by have := BW.out.size; have := BXC.out.size; omega) (fun q hq => (PS.out.own.l.lt q hq).1)).setCell (p := ⟨bo, 1, none⟩) HBOL.out (.slice L7 ls'.length d7))
            clear k0 k1 k2 hls'
            obtain ⟨k0, k1, k2⟩ := three_cells p11
            have k3 := frozen_of_row _ _ 1 _ _ p11
            clear own11 own11' gr11 at11 p11 hsz11 HNB HO6 PZC BXC
            go_wp2
            go_roundw
            case rel => exact ⟨k + 1, ls', by omega, by go_num, HLS, ⟨_, HP7.out, HB8.out⟩⟩
            case measure => simp [intOf]; omega
        · have hsl : shL A.w.length ⟨lk, la, lb, lc⟩ = ⟨lk, la + (A.w.length : Int), lb + (A.w.length : Int), lc⟩ := by unfold shL; rw [if_neg h34]
          rw [hsl] at HST
          clear hsl
          have hg : (lk == 3) = false := by simp; omega
          have hg2 : (lk == 4) = false := by simp; omega
          clear h34
          go_upto_region 12 with (fail)
          clear q0 q1 q2 q3 qf
          obtain ⟨q0, q1, q2, q3⟩ := four_at PV2.out
          have hbox := (BV2.out.block bo (Nat.lt_of_lt_of_le s3 PS.out.size)).trans PS.out.box
          obtain ⟨k0, k1, k2⟩ := three_cells hbox
          have hxo := (PS.out.below BV2.out).own.l
          have HO6 := Lib.hid (hxo.alloc (.cells #[.int .i64 lk, .int .i64 (la + (A.w.length : Int)), .int .i64 (lb + (A.w.length : Int)), .int .i64 lc] 72))
          have bxa : Below v2.heap.size v2 (v2.alloc (.cells #[.int .i64 lk, .int .i64 (la + (A.w.length : Int)), .int .i64 (lb + (A.w.length : Int)), .int .i64 lc] 72)) := (Below.refl _ _).alloc (Nat.le_refl _) _
          have hsv := BV2.out.size
          have BXC := Lib.hid (BV2.out.trans (bxa.mono hsv))
          have PZC := Lib.hid ((bxa.block bo (by have := PS.out.size; omega)).trans hbox)
          have HFL := Lib.hid (PS.out.far bo PS.out.sxl PS.out.sxf).l
          have HNB := Lib.hid (World.news_of_block (heap_alloc_new v2 (.cells #[.int .i64 lk, .int .i64 (la + (A.w.length : Int)), .int .i64 (lb + (A.w.length : Int)), .int .i64 lc] 72)))
          have hss := PS.out.size; have hbs := PS.out.bel.size
          clear bxa hxo hbox
          go_wp2_with (at_builtin; refine wpList_append_own_at _ rfl _ _ 28 rfl w3.heap.size 72 i4 (.agg #[.int .i64 0, .int .i64 0, .int .i64 0, .int .i64 0]) 4 32 Tryd.underlying28 HI4.out HZ40.out HZ41.out HZ42.out rfl (by decide) _ _ _ rfl HO6.out ⟨v2.heap.size, 0, none⟩ 1 1 [.int .i64 lk, .int .i64 (la + (A.w.length : Int)), .int .i64 (lb + (A.w.length : Int)), .int .i64 lc] rfl rfl HNB.out (by simp [Value.oneCell']) ?c3 ?c4 ?c5 ?_)
          case c3 => simp only [maxLen]; omega
          case c4 => omega
          case c5 => have := BXC.out.size; omega
          intro v11 u11 own11 gr11 _ at11
          obtain ⟨ls', hls'⟩ : ∃ l, ll ++ [(⟨lk, la + (A.w.length : Int), lb + (A.w.length : Int), lc⟩ : Lk)] = l := ⟨_, rfl⟩
          have own11' : u11.ownsRow w3.heap.size 72 4 v11 ls'.length ((flL ls').map (Value.int .i64)) := by rw [← hls', flL_app, List.map_append, List.length_append]; exact own11
          have HLS : Hid (A.l ++ (B.l.take (k + 1)).map (shL A.w.length) = ls') := Lib.hid (by rw [HST.out, ← List.append_assoc, HLE.out]; exact hls')
          obtain ⟨L7, d7, rfl⟩ := own_shape4 own11'
          have hsz11 : (v2.alloc (.cells #[.int .i64 lk, .int .i64 (la + (A.w.length : Int)), .int .i64 (lb + (A.w.length : Int)), .int .i64 lc] 72)).heap.size = v2.heap.size + 1 := World.size_alloc _ _
          have HP7 := Lib.hid (PS.out.pushL BXC.out own11' gr11 (by rw [hsz11]; exact at11))
          have p11 := (gr11.block bo (by rw [hsz11]; omega) (fun e => HFL.out e.symm)).trans PZC.out
          have HB8 := Lib.hid (((BW.out.trans (BXC.out.mono BW.out.size)).grown gr11 (by have := BW.out.size; have := BXC.out.size; omega) (fun q hq => (PS.out.own.l.lt q hq).1)).setCell (p := ⟨bo, 1, none⟩) HBOL.out (.slice L7 ls'.length d7))
          clear k0 k1 k2 hls'
          obtain ⟨k0, k1, k2⟩ := three_cells p11
          have k3 := frozen_of_row _ _ 1 _ _ p11
          clear own11 own11' gr11 at11 p11 hsz11 HNB HO6 PZC BXC
          go_wp2
          go_roundw
          case rel => exact ⟨k + 1, ls', by omega, by go_num, HLS, ⟨_, HP7.out, HB8.out⟩⟩
          case measure => simp [intOf]; omega
      · have hkl : k = B.l.length := by omega
        subst hkl
        have HLN : Hid (A.l ++ B.l.map (shL A.w.length) = ll) := Lib.hid (by have := HLE.out; rwa [List.take_of_length_le (Nat.le_refl _)] at this)
        have ST2 : Hid (LkSu w3 u2 w3 bo h2 A ⟨ww, ll, A.c⟩ wr) := Lib.hid ⟨h8, hP, hBl⟩
        clear hP hBl h8
        go_wp2
        rename World => wr0
        go_loopw [9] (fun i wx => ∃ (k : Nat) (cc : List Int), k ≤ B.c.length ∧ i = .int .i64 k ∧ Hid ((A.c ++ (B.c.take k).map fun x => x + (A.w.length : Int)) = cc) ∧ LkSu w3 u2 w3 bo h2 A ⟨ww, ll, cc⟩ wx) (fun i _ => B.c.length - (intOf i).toNat)
        case atStart => exact ⟨0, A.c, Nat.zero_le _, rfl, Lib.hid (by simp), ST2.out⟩
        case round =>
          obtain ⟨k, cc, hk, rfl, HCC2, h8, hP, hBl⟩ := hrel
          have hcl : cc.length ≤ 200 := by rw [← HCC2.out]; simp only [List.length_append, List.length_map, List.length_take]; omega
          clear ST2 z0 z1 z2
          obtain ⟨z0, z1, z2⟩ := HKB.out _ hBl
          by_cases hlt : k < B.c.length
          · obtain ⟨bc, offc, hC, hbb, hcells⟩ := (HRB.out _ hBl).2.2.2 (by omega)
            have hcell := hcells k hlt
            obtain ⟨f0, f1⟩ := inW48 (HIC.out k hlt) sB1
            have HST := Lib.hid (shc_take (m := A.w.length) hlt)
            obtain ⟨z, hz⟩ : ∃ z, B.c.getD k 0 = z := ⟨_, rfl⟩
            rw [hz] at hcell f0 f1 HST
            have hwz : IntKind.i64.wrap (z + (A.w.length : Int)) = z + (A.w.length : Int) := IntWalk.i64_in _ (by omega)
            have hki : (k : Int) < (B.c.length : Int) := by omega
            have hbw : bc < wr.heap.size := World.block_lt_of_cell? wr _ hcell
            obtain ⟨cs', hcs'⟩ : ∃ l, cc ++ [z + (A.w.length : Int)] = l := ⟨_, rfl⟩
            have HCE := Lib.hid hcs'
            have HCS : Hid ((A.c ++ (B.c.take (k + 1)).map fun x => x + (A.w.length : Int)) = cs') := Lib.hid (by rw [HST.out, ← List.append_assoc, HCC2.out]; exact hcs')
            have PS := Lib.hid hP; have BW := Lib.hid hBl
            have HLO := Lib.hid hP.bel.size
            have HCC := Lib.hid hC
            rw [hC] at z2
            have HK0 := Lib.hid (And.intro (And.intro z0 z1) (And.intro z2 hcell))
            have HSZ := Lib.hid hBl.size
            have HNBO := Lib.hid (show bc ≠ bo from fun e => by have := HRBC.out bc offc hC (by omega); have := HBOL.out; omega)
            have hclc := HCL0.out bc offc k hC hlt
            rw [hz] at hclc
            have HCLC := Lib.hid hclc
            clear hclc
            clear hcells hP hBl hz hC hcs' z0 z1 z2 hcell
            obtain ⟨z2, hcell⟩ := HK0.out.2
            go_upto_region 16 with (fail)
            clear z2 hcell
            have FB_0 := Lib.hid (Below.refl wr.heap.size wr)
            have FX_0 := Lib.hid PS.out.box
            have FO_0 := Lib.hid PS.out.own.c
            have HOC := Lib.hid PS.out.own.c
            have HFC := Lib.hid (PS.out.far bo PS.out.sxl PS.out.sxf).c
            have HSB : Hid (bo < wr.heap.size) := Lib.hid (Nat.lt_of_lt_of_le s3 PS.out.size)
            have HS7 : Hid (∀ wx : World, Below w3.heap.size w3 wx → wx.cell? ⟨w.heap.size + 1, 2, none⟩ = some (.slice (some ⟨bc, offc, none⟩) B.c.length hB.e) ∧ wx.cell? ⟨bc, offc + k, none⟩ = some (.int .i64 z)) := Lib.hid fun wx hx => by
              have z2 := (HKB.out wx hx).2.2
              rw [HCC.out] at z2
              exact ⟨z2, HCLC.out wx hx⟩
            have HSX : Hid (∀ wx : World, Below wr.heap.size wr wx → wx.cell? ⟨w.heap.size + 1, 2, none⟩ = some (.slice (some ⟨bc, offc, none⟩) B.c.length hB.e) ∧ wx.cell? ⟨bc, offc + k, none⟩ = some (.int .i64 z)) := Lib.hid fun wx hx => HS7.out wx (BW.out.trans (hx.mono BW.out.size))
            refine wp_region_held_drew (S := fun wx => wx.cell? ⟨w.heap.size + 1, 2, none⟩ = some (.slice (some ⟨bc, offc, none⟩) B.c.length hB.e) ∧ wx.cell? ⟨bc, offc + k, none⟩ = some (.int .i64 z)) (by kernel_rfl) (HSX.out _ (Below.refl _ _).drew) (fun hHeld => ?_)
            obtain ⟨wp1, hwp1⟩ : ∃ w', w' = wr.drew := ⟨_, rfl⟩
            rw [← hwp1] at hHeld ⊢
            have bp1 : Below wr.heap.size wr wp1 := by rw [hwp1]; exact (Below.refl _ _).drew
            clear hwp1
            have FB_p2 := Lib.hid ((FB_0.out).trans ((bp1).mono (FB_0.out).size))
            have FX_p3 := Lib.hid (((bp1).block _ (Array.getElem?_eq_some_iff.1 (FX_0.out)).1).trans (FX_0.out))
            have FO_p4 := Lib.hid (own_below (FO_0.out) (bp1) (Nat.le_refl _))
            clear FB_0 FX_0 FO_0
            refine wpAnyH_take (i := 0) (v := ?vp5) rfl (by kernel_rfl) (by kernel_rfl) (by kernel_rfl) (fun _ _ _ h => h) (Or.inl ⟨by rfl, ?yp5⟩) (by assumption) ?_
            case yp5 => (intro w hSw; (try dsimp only at hSw); go_simp; all_goals (with_reducible rfl))
            (try simp only [Act.put, List.setIfInBounds_toArray, List.set_cons_zero, List.set_cons_succ, List.getElem_toArray, List.getElem_cons_succ, List.getElem_cons_zero])
            refine wpAnyH_take (i := 2) (v := ?vp6) rfl (by kernel_rfl) (by kernel_rfl) (by kernel_rfl) (fun _ _ _ h => h) (Or.inl ⟨by rfl, ?yp6⟩) (by assumption) ?_
            case yp6 => (intro w hSw; (try dsimp only at hSw); go_simp; all_goals (with_reducible rfl))
            (try simp only [Act.put, List.setIfInBounds_toArray, List.set_cons_zero, List.set_cons_succ, List.getElem_toArray, List.getElem_cons_succ, List.getElem_cons_zero])
            refine wpAnyH_take (i := 4) (v := ?vp7) rfl (by kernel_rfl) (by kernel_rfl) (by kernel_rfl) (fun _ _ _ h => h) (Or.inl ⟨by rfl, ?yp7⟩) (by assumption) ?_
            case yp7 => (intro w hSw; (try dsimp only at hSw); go_simp; all_goals (with_reducible rfl))
            (try simp only [Act.put, List.setIfInBounds_toArray, List.set_cons_zero, List.set_cons_succ, List.getElem_toArray, List.getElem_cons_succ, List.getElem_cons_zero])
            refine wpAnyH_take (i := 7) (v := ?vp8) rfl (by kernel_rfl) (by kernel_rfl) (by kernel_rfl) (fun _ _ _ h => h) (Or.inl ⟨by rfl, ?yp8⟩) (by assumption) ?_
            case yp8 => (intro w hSw; (try dsimp only at hSw); go_simp; all_goals (with_reducible rfl))
            (try simp only [Act.put, List.setIfInBounds_toArray, List.set_cons_zero, List.set_cons_succ, List.getElem_toArray, List.getElem_cons_succ, List.getElem_cons_zero])
            refine wpAnyH_take (i := 3) (v := ?vp9) rfl (by kernel_rfl) (by kernel_rfl) (by kernel_rfl) (fun _ _ _ h => h) (Or.inl ⟨by rfl, ?yp9⟩) (by assumption) ?_
            case yp9 => (intro w hSw; (try dsimp only at hSw); go_simp; all_goals (with_reducible rfl))
            (try simp only [Act.put, List.setIfInBounds_toArray, List.set_cons_zero, List.set_cons_succ, List.getElem_toArray, List.getElem_cons_succ, List.getElem_cons_zero])
            refine wpAnyH_take (i := 5) (v := ?vp10) rfl (by kernel_rfl) (by kernel_rfl) (by kernel_rfl) (fun _ _ _ h => h) (Or.inl ⟨by rfl, ?yp10⟩) (by assumption) ?_
            case yp10 => (intro w hSw; (try dsimp only at hSw); go_simp; all_goals (with_reducible rfl))
            (try simp only [Act.put, List.setIfInBounds_toArray, List.set_cons_zero, List.set_cons_succ, List.getElem_toArray, List.getElem_cons_succ, List.getElem_cons_zero])
            refine wpAnyH_take (i := 6) (v := ?vp11) rfl (by kernel_rfl) (by kernel_rfl) (by kernel_rfl) (fun _ _ _ h => h) (Or.inl ⟨by rfl, ?yp11⟩) (by assumption) ?_
            case yp11 => (intro w hSw; (try dsimp only at hSw); go_simp; all_goals (with_reducible rfl))
            (try simp only [Act.put, List.setIfInBounds_toArray, List.set_cons_zero, List.set_cons_succ, List.getElem_toArray, List.getElem_cons_succ, List.getElem_cons_zero])
            refine wpAnyH_take (i := 8) (v := ?vp12) rfl (by kernel_rfl) (by kernel_rfl) (by kernel_rfl) (fun _ _ _ h => h) (Or.inl ⟨by rfl, ?yp12⟩) (by assumption) ?_
            case yp12 => (intro w hSw; (try dsimp only at hSw); go_simp; all_goals (with_reducible rfl))
            (try simp only [Act.put, List.setIfInBounds_toArray, List.set_cons_zero, List.set_cons_succ, List.getElem_toArray, List.getElem_cons_succ, List.getElem_cons_zero])
            refine wpAnyH_ready (rs := [1, 9]) (by kernel_rfl) (by simp) ?_
            refine AllReadyH.cons rfl (fun K hK => ?_) ?_
            · have cq := cell_of_row _ _ 2 _ _ (0, 0) FX_p3.out
              go_simp
              clear cq
              refine hK.out _ _ (hHeld) (fun hHeld => ?_)
              clear hK K
              (try simp only [Act.put, List.setIfInBounds_toArray, List.set_cons_zero, List.set_cons_succ, List.getElem_toArray, List.getElem_cons_succ, List.getElem_cons_zero])
              refine wpAnyH_ready (rs := [9]) (by kernel_rfl) (by simp) ?_
              refine AllReadyH.cons rfl (fun K hK => ?_) ?_
              · go_simp
                obtain ⟨wp13, hwp13⟩ : ∃ w', w' = wp1.alloc (.cells #[.int .i64 (z + (A.w.length : Int))] 2) := ⟨_, rfl⟩
                rw [← hwp13]
                have bp13 : Below wp1.heap.size wp1 wp13 := by rw [hwp13]; exact (Below.refl _ _).alloc (Nat.le_refl _) _
                have gp13 : wp13.heap[wp1.heap.size]? = some (.cells #[.int .i64 (z + (A.w.length : Int))] 2 (0, 0)) := by rw [hwp13]; exact heap_alloc_new _ _
                clear hwp13
                have FB_p14 := Lib.hid ((FB_p2.out).trans ((bp13).mono (FB_p2.out).size))
                have FX_p15 := Lib.hid (((bp13).block _ (Array.getElem?_eq_some_iff.1 (FX_p3.out)).1).trans (FX_p3.out))
                have FO_p16 := Lib.hid (own_below (FO_p4.out) (bp13) (Nat.le_refl _))
                clear FB_p2 FX_p3 FO_p4
                obtain ⟨gnp17, hgp17⟩ : ∃ b, wp1.heap.size = b := ⟨_, rfl⟩
                have FN_p17 := Lib.hid gp13
                rw [hgp17] at FN_p17 ⊢
                clear hgp17 gp13 bp13
                refine hK.out _ _ (HSX.out _ FB_p14.out) (fun hHeld => ?_)
                clear hK K
                (try simp only [Act.put, List.setIfInBounds_toArray, List.set_cons_zero, List.set_cons_succ, List.getElem_toArray, List.getElem_cons_succ, List.getElem_cons_zero])
                refine wpAnyH_ready (rs := [10]) (by kernel_rfl) (by simp) ?_
                refine AllReadyH.cons rfl (fun K hK => ?_) ?_
                · refine step_at rfl _ _ 24 rfl w3.heap.size 2 i1 (.int .i64 0) 1 8 Tryd.underlying24 HI1.out HZ10.out HZ11.out HZ12.out rfl (by decide) _ _ _ rfl FO_p16.out ⟨gnp17, 0, none⟩ 1 1 [.int .i64 (z + (A.w.length : Int))] rfl rfl (World.news_of_block FN_p17.out) (by simp [Value.oneCell']) (by show cc.length + 1 ≤ maxLen; simp only [maxLen]; omega) (by show (cc.length + 1) * 8 ≤ 140737488355328; omega) (Nat.le_trans HLO.out FB_p14.out.size) ?_
                  intro v7 w7 own7 gr7 at7
                  have own8 : w7.ownsRow w3.heap.size 2 1 v7 cs'.length (cs'.map (Value.int .i64)) := by rw [← HCE.out, List.map_append, List.length_append]; exact own7
                  obtain ⟨C7, c7, rfl⟩ := own_shape own8
                  have HP7 := Lib.hid (PS.out.pushC FB_p14.out own8 gr7 at7)
                  have q7 := (gr7.block bo (Nat.lt_of_lt_of_le HSB.out FB_p14.out.size) (fun e => HFC.out e.symm)).trans FX_p15.out
                  have HQ7 := Lib.hid q7
                  have b7 := (BW.out.trans (FB_p14.out.mono BW.out.size)).grown gr7 (Nat.le_trans BW.out.size FB_p14.out.size) (fun q hq => (HOC.out.lt q hq).1)
                  have HK7 := Lib.hid (HS7.out w7 b7)
                  have HB8 := Lib.hid (b7.setCell (p := ⟨bo, 2, none⟩) HBOL.out (.slice C7 cs'.length c7))
                  clear own7 own8 gr7 at7 q7 b7
                  refine hK.out _ _ (HK7.out) (fun hHeld => ?_)
                  clear hK K
                  (try simp only [Act.put, List.setIfInBounds_toArray, List.set_cons_zero, List.set_cons_succ, List.getElem_toArray, List.getElem_cons_succ, List.getElem_cons_zero])
                  refine wpAnyH_take (i := 11) (v := ?vp18) rfl (by kernel_rfl) (by kernel_rfl) (by kernel_rfl) (fun _ _ _ h => h) (Or.inl ⟨by rfl, ?yp18⟩) (by assumption) ?_
                  case yp18 => (intro w hSw; (try dsimp only at hSw); go_simp; all_goals (with_reducible rfl))
                  (try simp only [Act.put, List.setIfInBounds_toArray, List.set_cons_zero, List.set_cons_succ, List.getElem_toArray, List.getElem_cons_succ, List.getElem_cons_zero])
                  refine wpAnyH_ready (rs := [12]) (by kernel_rfl) (by simp) ?_
                  refine AllReadyH.cons rfl (fun K hK => ?_) ?_
                  · obtain ⟨a0, a1, a2⟩ := three_cells HQ7.out
                    have f2 := frozen_of_row _ _ 2 _ _ HQ7.out
                    go_simp
                    clear a0 a1 a2 f2
                    refine hK.out _ _ (⟨farW_cell HK7.out.1 (by have := HBOL.out; omega), farW_cell HK7.out.2 (fun e => HNBO.out e.symm)⟩) (fun hHeld => ?_)
                    clear hK K
                    (try simp only [Act.put, List.setIfInBounds_toArray, List.set_cons_zero, List.set_cons_succ, List.getElem_toArray, List.getElem_cons_succ, List.getElem_cons_zero])
                    refine wpAnyH_done (by kernel_rfl) ?_ _
                    go_wp2
                    go_roundw
                    case rel => exact ⟨k + 1, cs', by omega, by go_num, HCS, ⟨_, HP7.out, HB8.out⟩⟩
                    case measure => simp [intOf]; omega
                  exact AllReadyH.nil
                exact AllReadyH.nil
              exact AllReadyH.nil
            refine AllReadyH.cons rfl (fun K hK => ?_) ?_
            · go_simp
              obtain ⟨wp19, hwp19⟩ : ∃ w', w' = wp1.alloc (.cells #[.int .i64 (z + (A.w.length : Int))] 2) := ⟨_, rfl⟩
              rw [← hwp19]
              have bp19 : Below wp1.heap.size wp1 wp19 := by rw [hwp19]; exact (Below.refl _ _).alloc (Nat.le_refl _) _
              have gp19 : wp19.heap[wp1.heap.size]? = some (.cells #[.int .i64 (z + (A.w.length : Int))] 2 (0, 0)) := by rw [hwp19]; exact heap_alloc_new _ _
              clear hwp19
              have FB_p20 := Lib.hid ((FB_p2.out).trans ((bp19).mono (FB_p2.out).size))
              have FX_p21 := Lib.hid (((bp19).block _ (Array.getElem?_eq_some_iff.1 (FX_p3.out)).1).trans (FX_p3.out))
              have FO_p22 := Lib.hid (own_below (FO_p4.out) (bp19) (Nat.le_refl _))
              clear FB_p2 FX_p3 FO_p4
              obtain ⟨gnp23, hgp23⟩ : ∃ b, wp1.heap.size = b := ⟨_, rfl⟩
              have FN_p23 := Lib.hid gp19
              rw [hgp23] at FN_p23 ⊢
              clear hgp23 gp19 bp19
              refine hK.out _ _ (HSX.out _ FB_p20.out) (fun hHeld => ?_)
              clear hK K
              (try simp only [Act.put, List.setIfInBounds_toArray, List.set_cons_zero, List.set_cons_succ, List.getElem_toArray, List.getElem_cons_succ, List.getElem_cons_zero])
              refine wpAnyH_ready (rs := [1]) (by kernel_rfl) (by simp) ?_
              refine AllReadyH.cons rfl (fun K hK => ?_) ?_
              · have cq := cell_of_row _ _ 2 _ _ (0, 0) FX_p21.out
                go_simp
                clear cq
                refine hK.out _ _ (hHeld) (fun hHeld => ?_)
                clear hK K
                (try simp only [Act.put, List.setIfInBounds_toArray, List.set_cons_zero, List.set_cons_succ, List.getElem_toArray, List.getElem_cons_succ, List.getElem_cons_zero])
                refine wpAnyH_ready (rs := [10]) (by kernel_rfl) (by simp) ?_
                refine AllReadyH.cons rfl (fun K hK => ?_) ?_
                · refine step_at rfl _ _ 24 rfl w3.heap.size 2 i1 (.int .i64 0) 1 8 Tryd.underlying24 HI1.out HZ10.out HZ11.out HZ12.out rfl (by decide) _ _ _ rfl FO_p22.out ⟨gnp23, 0, none⟩ 1 1 [.int .i64 (z + (A.w.length : Int))] rfl rfl (World.news_of_block FN_p23.out) (by simp [Value.oneCell']) (by show cc.length + 1 ≤ maxLen; simp only [maxLen]; omega) (by show (cc.length + 1) * 8 ≤ 140737488355328; omega) (Nat.le_trans HLO.out FB_p20.out.size) ?_
                  intro v7 w7 own7 gr7 at7
                  have own8 : w7.ownsRow w3.heap.size 2 1 v7 cs'.length (cs'.map (Value.int .i64)) := by rw [← HCE.out, List.map_append, List.length_append]; exact own7
                  obtain ⟨C7, c7, rfl⟩ := own_shape own8
                  have HP7 := Lib.hid (PS.out.pushC FB_p20.out own8 gr7 at7)
                  have q7 := (gr7.block bo (Nat.lt_of_lt_of_le HSB.out FB_p20.out.size) (fun e => HFC.out e.symm)).trans FX_p21.out
                  have HQ7 := Lib.hid q7
                  have b7 := (BW.out.trans (FB_p20.out.mono BW.out.size)).grown gr7 (Nat.le_trans BW.out.size FB_p20.out.size) (fun q hq => (HOC.out.lt q hq).1)
                  have HK7 := Lib.hid (HS7.out w7 b7)
                  have HB8 := Lib.hid (b7.setCell (p := ⟨bo, 2, none⟩) HBOL.out (.slice C7 cs'.length c7))
                  clear own7 own8 gr7 at7 q7 b7
                  refine hK.out _ _ (HK7.out) (fun hHeld => ?_)
                  clear hK K
                  (try simp only [Act.put, List.setIfInBounds_toArray, List.set_cons_zero, List.set_cons_succ, List.getElem_toArray, List.getElem_cons_succ, List.getElem_cons_zero])
                  refine wpAnyH_take (i := 11) (v := ?vp24) rfl (by kernel_rfl) (by kernel_rfl) (by kernel_rfl) (fun _ _ _ h => h) (Or.inl ⟨by rfl, ?yp24⟩) (by assumption) ?_
                  case yp24 => (intro w hSw; (try dsimp only at hSw); go_simp; all_goals (with_reducible rfl))
                  (try simp only [Act.put, List.setIfInBounds_toArray, List.set_cons_zero, List.set_cons_succ, List.getElem_toArray, List.getElem_cons_succ, List.getElem_cons_zero])
                  refine wpAnyH_ready (rs := [12]) (by kernel_rfl) (by simp) ?_
                  refine AllReadyH.cons rfl (fun K hK => ?_) ?_
                  · obtain ⟨a0, a1, a2⟩ := three_cells HQ7.out
                    have f2 := frozen_of_row _ _ 2 _ _ HQ7.out
                    go_simp
                    clear a0 a1 a2 f2
                    refine hK.out _ _ (⟨farW_cell HK7.out.1 (by have := HBOL.out; omega), farW_cell HK7.out.2 (fun e => HNBO.out e.symm)⟩) (fun hHeld => ?_)
                    clear hK K
                    (try simp only [Act.put, List.setIfInBounds_toArray, List.set_cons_zero, List.set_cons_succ, List.getElem_toArray, List.getElem_cons_succ, List.getElem_cons_zero])
                    refine wpAnyH_done (by kernel_rfl) ?_ _
                    go_wp2
                    go_roundw
                    case rel => exact ⟨k + 1, cs', by omega, by go_num, HCS, ⟨_, HP7.out, HB8.out⟩⟩
                    case measure => simp [intOf]; omega
                  exact AllReadyH.nil
                exact AllReadyH.nil
              exact AllReadyH.nil
            exact AllReadyH.nil
          · have hkl : k = B.c.length := by omega
            subst hkl
            have HCX := HCC2.out
            rw [List.take_of_length_le (Nat.le_refl _)] at HCX
            have hX : unS A B = ⟨ww, ll, cc⟩ := by unfold unS; rw [HWW.out, HLN.out, HCX]
            rw [← hX] at hP
            have PS := Lib.hid hP
            have BW := Lib.hid hBl
            clear HCX hX
            generalize unS A B = X at *
            have q1 := HK2.out _ hBl
            obtain ⟨a0, a1, a2⟩ := three_cells q1
            have f0 := frozen_of_row _ _ 0 _ _ q1; have f1 := frozen_of_row _ _ 1 _ _ q1; have f2 := frozen_of_row _ _ 2 _ _ q1
            have Q1 := Lib.hid q1
            obtain ⟨k0, k1, k2⟩ := three_cells PS.out.box
            clear q1 hP hBl
            go_wp2
            (try simp only [Exit.inBlock, Exit.then])
            refine bodyPost_ret (results_cell_row rfl _ _ (w.heap.size + 2) _ _ (0, 0) _ rfl (set3_at Q1.out _ _ _) Tryd.underlying30 rfl (by kernel_rfl)) rfl ?_
            exact un_done HB0.out BW.out PS.out.own hs0
set_option maxRecDepth 100000 in
set_option maxHeartbeats 8000000 in
theorem sUnionNet_any (hA hB : NH) (A B : Nt) (w : World) (rA : RdN w w.heap.size hA A) (rB : RdN w w.heap.size hB B) (lA : A.w.length ≤ 1048576) (lA2 : A.l.length ≤ 1048576) (lA3 : A.c.length ≤ 1048576) (lB : B.w.length ≤ 1048576) (lB2 : B.l.length ≤ 1048576) (lB3 : B.c.length ≤ 1048576) :
    Calls Tryd.prog 10 #[.agg #[.slice hA.A A.w.length hA.c, .slice hA.L A.l.length hA.d, .slice hA.C A.c.length hA.e], .agg #[.slice hB.A B.w.length hB.c, .slice hB.L B.l.length hB.d, .slice hB.C B.c.length hB.e]] w (GivesNB w (unV A B) (unB A B)) := by
  obtain ⟨w3, hw3⟩ : ∃ w3, w3 = ((w.alloc (.cells #[.slice hA.A A.w.length hA.c, .slice hA.L A.l.length hA.d, .slice hA.C A.c.length hA.e] 30)).alloc (.cells #[.slice hB.A B.w.length hB.c, .slice hB.L B.l.length hB.d, .slice hB.C B.c.length hB.e] 30)).alloc (.cells #[.slice none 0 0, .slice none 0 0, .slice none 0 0] 30) := ⟨_, rfl⟩
  obtain ⟨hb, g0, g1, g2, hsz⟩ := box_trio w (.cells #[.slice hA.A A.w.length hA.c, .slice hA.L A.l.length hA.d, .slice hA.C A.c.length hA.e] 30) (.cells #[.slice hB.A B.w.length hB.c, .slice hB.L B.l.length hB.d, .slice hB.C B.c.length hB.e] 30) (.cells #[.slice none 0 0, .slice none 0 0, .slice none 0 0] 30)
  rw [← hw3] at hb g0 g1 g2 hsz
  have hs0 : w.heap.size + 3 ≤ w3.heap.size := by omega
  have HKA := Lib.hid (fun (wx : World) (hx : Below w3.heap.size w3 wx) => three_cells ((hx.block w.heap.size (by omega)).trans g0))
  have HKB := Lib.hid (fun (wx : World) (hx : Below w3.heap.size w3 wx) => three_cells ((hx.block (w.heap.size + 1) (by omega)).trans g1))
  have HK2 := Lib.hid (fun (wx : World) (hx : Below w3.heap.size w3 wx) => (hx.block (w.heap.size + 2) (by omega)).trans g2)
  have HB0 := Lib.hid hb
  obtain ⟨y0, y1, y2⟩ := HKA.out _ (Below.refl _ w3)
  obtain ⟨z0, z1, z2⟩ := HKB.out _ (Below.refl _ w3)
  have HVA := Lib.hid (sValidNet_any hA A w3 ((rA.below hb).more hb.size) lA lA2 lA3)
  have HVB := Lib.hid (fun (wx : World) (hx : Below w3.heap.size w3 wx) => sValidNet_any hB B wx (((rB.below hb).more hb.size |>.below hx).more hx.size) lB lB2 lB3)
  have HUN := Lib.hid (fun (h1 : valN A = true) (h2 : valN B = true) (wx : World) (hx : Below w3.heap.size w3 wx) => sUnion_any hA hB A B wx (((rA.below hb).more hb.size |>.below hx).more hx.size) (((rB.below hb).more hb.size |>.below hx).more hx.size) h1 h2)
  clear hb g0 g1 g2 hsz rA rB
  have no : ∀ (u : World), Below w3.heap.size w3 u → unB A B = false → GivesNB w (unV A B) (unB A B) (.returned (.tuple #[.agg #[.slice none 0 0, .slice none 0 0, .slice none 0 0], .bool false])) (((u.setCell ⟨w.heap.size + 2, 0, none⟩ (.slice none 0 0)).setCell ⟨w.heap.size + 2, 1, none⟩ (.slice none 0 0)).setCell ⟨w.heap.size + 2, 2, none⟩ (.slice none 0 0)) := fun u hu e => by
    rw [unV_no e, e]
    exact givesNB_of (un_done HB0.out hu (OwnN.nil u w3.heap.size u.heap.size) hs0)
  have NO := Lib.hid no
  clear no
  cases hvA : valN A with
  | false =>
    rw [hvA] at HVA
    have hno : unB A B = false := by unfold unB; rw [hvA]; rfl
    have HNO := Lib.hid hno
    clear hno hvA
    go_enter Tryd.func10, Tryd.ntmps10
    go_wp2_with (fail)
    rw [← hw3]
    clear hw3
    refine HVA.out.mono ?_
    rintro e u1 ⟨rfl, bel⟩
    have B1 := Lib.hid bel
    clear bel y0 y1 y2 z0 z1 z2
    obtain ⟨y0, y1, y2⟩ := HKA.out _ B1.out
    obtain ⟨z0, z1, z2⟩ := HKB.out _ B1.out
    clear y0 y1 y2 z0 z1 z2
    have q1 := HK2.out _ B1.out
    obtain ⟨a0, a1, a2⟩ := three_cells q1
    have f0 := frozen_of_row _ _ 0 _ _ q1; have f1 := frozen_of_row _ _ 1 _ _ q1; have f2 := frozen_of_row _ _ 2 _ _ q1
    have Q1 := Lib.hid q1
    have HN := Lib.hid (NO.out u1 B1.out HNO.out)
    clear q1
    go_wp2
    (try simp only [Exit.inBlock, Exit.then])
    refine bodyPost_ret (results_cell_row_tmp rfl _ _ (w.heap.size + 2) _ _ (0, 0) _ rfl (set3_at Q1.out _ _ _) Tryd.underlying30 rfl (by kernel_rfl)) rfl ?_
    exact HN.out
  | true =>
    rw [hvA] at HVA
    cases hvB : valN B with
    | false =>
      simp only [hvB] at HVB
      have hno : unB A B = false := by unfold unB; rw [hvA, hvB]; rfl
      have HNO := Lib.hid hno
      clear hno hvA hvB
      go_enter Tryd.func10, Tryd.ntmps10
      go_wp2_with (fail)
      rw [← hw3]
      clear hw3
      refine HVA.out.mono ?_
      rintro e u1 ⟨rfl, bel⟩
      have B1 := Lib.hid bel
      clear bel y0 y1 y2 z0 z1 z2
      obtain ⟨y0, y1, y2⟩ := HKA.out _ B1.out
      obtain ⟨z0, z1, z2⟩ := HKB.out _ B1.out
      go_wp2_with (fail)
      refine (HVB.out u1 B1.out).mono ?_
      rintro e u2 ⟨rfl, bel⟩
      have B2 := Lib.hid (B1.out.trans (bel.mono B1.out.size))
      clear bel y0 y1 y2 z0 z1 z2
      obtain ⟨y0, y1, y2⟩ := HKA.out _ B2.out
      obtain ⟨z0, z1, z2⟩ := HKB.out _ B2.out
      clear y0 y1 y2 z0 z1 z2
      have q1 := HK2.out _ B2.out
      obtain ⟨a0, a1, a2⟩ := three_cells q1
      have f0 := frozen_of_row _ _ 0 _ _ q1; have f1 := frozen_of_row _ _ 1 _ _ q1; have f2 := frozen_of_row _ _ 2 _ _ q1
      have Q1 := Lib.hid q1
      have HN := Lib.hid (NO.out u2 B2.out HNO.out)
      clear q1
      go_wp2
      (try simp only [Exit.inBlock, Exit.then])
      refine bodyPost_ret (results_cell_row_tmp rfl _ _ (w.heap.size + 2) _ _ (0, 0) _ rfl (set3_at Q1.out _ _ _) Tryd.underlying30 rfl (by kernel_rfl)) rfl ?_
      exact HN.out
    | true =>
      simp only [hvB] at HVB
      obtain ⟨sA1, sA2⟩ := valN_size hvA
      obtain ⟨sB1, sB2⟩ := valN_size hvB
      by_cases h1 : A.w.length + B.w.length ≤ 48
      · have d1 : decide ((48 : Int) < (A.w.length : Int) + (B.w.length : Int)) = false := decide_eq_false (by omega)
        by_cases h2 : A.l.length + B.l.length ≤ 48
        · have d2 : decide ((48 : Int) < (A.l.length : Int) + (B.l.length : Int)) = false := decide_eq_false (by omega)
          have hyes : unB A B = true := by unfold unB; rw [hvA, hvB, decide_eq_true ⟨h1, h2⟩]; rfl
          have HUN2 := Lib.hid (HUN.out hvA hvB)
          rw [unV_yes hyes, hyes]
          clear hyes hvA hvB h1 h2 NO HUN
          generalize unS A B = X at *
          go_enter Tryd.func10, Tryd.ntmps10
          go_wp2_with (fail)
          rw [← hw3]
          clear hw3
          refine HVA.out.mono ?_
          rintro e u1 ⟨rfl, bel⟩
          have B1 := Lib.hid bel
          clear bel y0 y1 y2 z0 z1 z2
          obtain ⟨y0, y1, y2⟩ := HKA.out _ B1.out
          obtain ⟨z0, z1, z2⟩ := HKB.out _ B1.out
          go_wp2_with (fail)
          refine (HVB.out u1 B1.out).mono ?_
          rintro e u2 ⟨rfl, bel⟩
          have B2 := Lib.hid (B1.out.trans (bel.mono B1.out.size))
          clear bel y0 y1 y2 z0 z1 z2
          obtain ⟨y0, y1, y2⟩ := HKA.out _ B2.out
          obtain ⟨z0, z1, z2⟩ := HKB.out _ B2.out
          go_wp2_with (fail)
          refine (HUN2.out u2 B2.out).mono ?_
          rintro e u3 ⟨h3, rfl, own3, bel3⟩
          have B3 := Lib.hid (B2.out.trans (bel3.mono B2.out.size))
          have O3 := Lib.hid (own3.more B2.out.size (Nat.le_refl _))
          clear own3 bel3 y0 y1 y2 z0 z1 z2
          have q1 := HK2.out _ B3.out
          obtain ⟨a0, a1, a2⟩ := three_cells q1
          have f0 := frozen_of_row _ _ 0 _ _ q1; have f1 := frozen_of_row _ _ 1 _ _ q1; have f2 := frozen_of_row _ _ 2 _ _ q1
          have Q1 := Lib.hid q1
          clear q1
          go_wp2
          (try simp only [Exit.inBlock, Exit.then])
          refine bodyPost_ret (results_cell_row_tmp rfl _ _ (w.heap.size + 2) _ _ (0, 0) _ rfl (set3_at Q1.out _ _ _) Tryd.underlying30 rfl (by kernel_rfl)) rfl ?_
          exact givesNB_of (un_done HB0.out B3.out O3.out hs0)
        · have d2 : decide ((48 : Int) < (A.l.length : Int) + (B.l.length : Int)) = true := decide_eq_true (by omega)
          have hno : unB A B = false := by unfold unB; rw [decide_eq_false (p := A.w.length + B.w.length ≤ 48 ∧ A.l.length + B.l.length ≤ 48) (fun h => h2 h.2)]; simp
          have HNO := Lib.hid hno
          clear hno hvA hvB h1 h2
          go_enter Tryd.func10, Tryd.ntmps10
          go_wp2_with (fail)
          rw [← hw3]
          clear hw3
          refine HVA.out.mono ?_
          rintro e u1 ⟨rfl, bel⟩
          have B1 := Lib.hid bel
          clear bel y0 y1 y2 z0 z1 z2
          obtain ⟨y0, y1, y2⟩ := HKA.out _ B1.out
          obtain ⟨z0, z1, z2⟩ := HKB.out _ B1.out
          go_wp2_with (fail)
          refine (HVB.out u1 B1.out).mono ?_
          rintro e u2 ⟨rfl, bel⟩
          have B2 := Lib.hid (B1.out.trans (bel.mono B1.out.size))
          clear bel y0 y1 y2 z0 z1 z2
          obtain ⟨y0, y1, y2⟩ := HKA.out _ B2.out
          obtain ⟨z0, z1, z2⟩ := HKB.out _ B2.out
          have q1 := HK2.out _ B2.out
          obtain ⟨a0, a1, a2⟩ := three_cells q1
          have f0 := frozen_of_row _ _ 0 _ _ q1; have f1 := frozen_of_row _ _ 1 _ _ q1; have f2 := frozen_of_row _ _ 2 _ _ q1
          have Q1 := Lib.hid q1
          have HN := Lib.hid (NO.out u2 B2.out HNO.out)
          clear q1
          go_wp2
          (try simp only [Exit.inBlock, Exit.then])
          refine bodyPost_ret (results_cell_row_tmp rfl _ _ (w.heap.size + 2) _ _ (0, 0) _ rfl (set3_at Q1.out _ _ _) Tryd.underlying30 rfl (by kernel_rfl)) rfl ?_
          exact HN.out
      · have d1 : decide ((48 : Int) < (A.w.length : Int) + (B.w.length : Int)) = true := decide_eq_true (by omega)
        have hno : unB A B = false := by unfold unB; rw [decide_eq_false (p := A.w.length + B.w.length ≤ 48 ∧ A.l.length + B.l.length ≤ 48) (fun h => h1 h.1)]; simp
        have HNO := Lib.hid hno
        clear hno hvA hvB h1
        go_enter Tryd.func10, Tryd.ntmps10
        go_wp2_with (fail)
        rw [← hw3]
        clear hw3
        refine HVA.out.mono ?_
        rintro e u1 ⟨rfl, bel⟩
        have B1 := Lib.hid bel
        clear bel y0 y1 y2 z0 z1 z2
        obtain ⟨y0, y1, y2⟩ := HKA.out _ B1.out
        obtain ⟨z0, z1, z2⟩ := HKB.out _ B1.out
        go_wp2_with (fail)
        refine (HVB.out u1 B1.out).mono ?_
        rintro e u2 ⟨rfl, bel⟩
        have B2 := Lib.hid (B1.out.trans (bel.mono B1.out.size))
        clear bel y0 y1 y2 z0 z1 z2
        obtain ⟨y0, y1, y2⟩ := HKA.out _ B2.out
        obtain ⟨z0, z1, z2⟩ := HKB.out _ B2.out
        have q1 := HK2.out _ B2.out
        obtain ⟨a0, a1, a2⟩ := three_cells q1
        have f0 := frozen_of_row _ _ 0 _ _ q1; have f1 := frozen_of_row _ _ 1 _ _ q1; have f2 := frozen_of_row _ _ 2 _ _ q1
        have Q1 := Lib.hid q1
        have HN := Lib.hid (NO.out u2 B2.out HNO.out)
        clear q1
        go_wp2
        (try simp only [Exit.inBlock, Exit.then])
        refine bodyPost_ret (results_cell_row_tmp rfl _ _ (w.heap.size + 2) _ _ (0, 0) _ rfl (set3_at Q1.out _ _ _) Tryd.underlying30 rfl (by kernel_rfl)) rfl ?_
        exact HN.out
end Go.Proofs.YtdcommmefehlgaaDoor
