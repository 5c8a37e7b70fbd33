/- The program's switchableOf: what the graphs of all switchings have in common. Made by mksgs.py. -/
import Derived.Test.YtfdpkhiiboghiaaGreatDoorJQSgD
import Derived.Test.YtfdpkhiiboghiaaGreatDoorJQEmR
import Derived.Deep.RegionHeldLaw
import Derived.Deep.DeepCutAuto
import Derived.BigQuiet
namespace Go.Proofs.YtfdpkhiiboghiaaGreatDoor
set_option linter.unusedSimpArgs false
set_option linter.unusedVariables false
set_option linter.unusedSimpArgs false
set_option linter.unusedVariables false
open Go.ChangeAt Go.ChangeShapes Go.RowKit Go.WideShapes

theorem own_apartG {w : World} {base n size g k : Nat} {e t : TypeId} {v : Value} {xs : List Value} {c0 : Array Value} {fr : Nat × Nat} (h : w.ownsRow base e size v n xs) (hk : v.ownBlock = some k) (hg : w.heap[g]? = some (.cells c0 t fr)) (he : e ≠ t) : k ≠ g := by
  rintro rfl
  rcases h.2 with ⟨rfl, _⟩ | ⟨b, cap, cur, rfl, _, hh, _⟩
  · cases hk
  · have e2 : b = k := by simpa [Value.ownBlock] using hk
    subst e2
    rw [hh] at hg
    injection hg with hg
    injection hg with _ ht _
    exact he ht
theorem own_set3 {w : World} {base n size g : Nat} {e t : TypeId} {v : Value} {xs : List Value} {c0 : Array Value} {fr : Nat × Nat} (h : w.ownsRow base e size v n xs) (hg : w.heap[g]? = some (.cells c0 t fr)) (he : e ≠ t) (v0 v1 v2 : Value) :
    (((w.setCell ⟨g, 0, none⟩ v0).setCell ⟨g, 1, none⟩ v1).setCell ⟨g, 2, none⟩ v2).ownsRow base e size v n xs :=
  own_same h fun k hk => by
    have hne := own_apartG h hk hg he
    rw [Below.heap_setCell _ _ _ _ hne, Below.heap_setCell _ _ _ _ hne, Below.heap_setCell _ _ _ _ hne]
theorem three_at {w : World} {b : Nat} {a0 a1 a2 : Value} {t : TypeId} (h : w.heap[b]? = some (.cells #[a0, a1, a2] t (0, 0))) :
    w.cell? ⟨b, 0, none⟩ = some a0 ∧ w.cell? ⟨b, 1, none⟩ = some a1 ∧ w.cell? ⟨b, 2, none⟩ = some a2 := ⟨cell_of_row _ _ 0 _ _ (0, 0) h, cell_of_row _ _ 1 _ _ (0, 0) h, cell_of_row _ _ 2 _ _ (0, 0) h⟩
theorem grown_set {w : World} {g j : Nat} {v : Value} : w.grownBy (w.setCell ⟨g, j, none⟩ v) (some g) := ⟨by first | rfl | simp, by first | rfl | simp, by first | rfl | simp, by simp, fun k _ hne => Below.heap_setCell _ _ _ _ (fun e => hne (by rw [e]))⟩
theorem at_own {v : Value} {g n c H : Nat} (hat : v.ownBlock = some g ∨ g = H) : ∀ b, (Value.slice (some ⟨g, 0, none⟩) n c).ownBlock = some b → v.ownBlock = some b ∨ H ≤ b := fun b e => by
  have e2 : g = b := by simpa [Value.ownBlock] using e
  subst e2
  exact hat.imp id (fun z => Nat.le_of_eq z.symm)
/-- What switchableOf leaves, all of it its own. -/
def GivesSwO (w : World) (N : Nt) (e : Ending) (w' : World) : Prop :=
  ∃ A c P d hs, e = .returned (.agg #[.int .i64 (N.l.length : Nat), .slice A (arcsU N N.w.length).length c, .slice P (prkN N).length d]) ∧ w'.ownsRow w.heap.size 85 3 (.slice A (arcsU N N.w.length).length c) (arcsU N N.w.length).length ((flA (arcsU N N.w.length)).map (Value.int .i64)) ∧
    OwnQ w' w.heap.size w'.heap.size (.slice P (prkN N).length d) hs (pairsU N (prkN N).length) ∧ Below w.heap.size w w'
set_option maxRecDepth 100000 in
set_option maxHeartbeats 1000000 in
theorem switchableOf_own (h : NH) (N : Nt) (w : World) (hv : valN N = true) (r : RdN w w.heap.size h N) (sm : SmallN N) (ht : Arit w) (hu : Dual w) :
    Calls Tryz.prog 78 #[.agg #[.slice h.A N.w.length h.c, .slice h.L N.l.length h.d, .slice h.C N.c.length h.e]] w (GivesSwO w N) := by
  obtain ⟨h48, h48l⟩ := valN_size hv
  obtain ⟨i4, hi4, hz40, hz41, hz42⟩ := info_parts_s
  have HI4 := Lib.hid hi4; have HZ40 := Lib.hid hz40; have HZ41 := Lib.hid hz41; have HZ42 := Lib.hid hz42
  obtain ⟨w0, hw0⟩ : ∃ w0, w0 = (w.alloc (.cells #[.slice h.A N.w.length h.c, .slice h.L N.l.length h.d, .slice h.C N.c.length h.e] 30)).alloc (.cells #[.int .i64 0, .slice none 0 0, .slice none 0 0] 88) := ⟨_, rfl⟩
  obtain ⟨hb, g0, g1, hsz⟩ := two_any' w (.cells #[.slice h.A N.w.length h.c, .slice h.L N.l.length h.d, .slice h.C N.c.length h.e] 30) (.cells #[.int .i64 0, .slice none 0 0, .slice none 0 0] 88)
  rw [← hw0] at hb g0 g1 hsz
  have HK := Lib.hid (fun (wx : World) (hx : Below w0.heap.size w0 wx) => three_cells ((hx.block w.heap.size (by omega)).trans g0))
  have HK2 := Lib.hid (fun (wx : World) (hx : Below w0.heap.size w0 wx) => (hx.block (w.heap.size + 1) (by omega)).trans g1)
  have HR := Lib.hid (fun (w' : World) (hw : Below w0.heap.size w0 w') => show RdN w' w'.heap.size h N from ((r.below (hb.trans (hw.mono hb.size))).more (Nat.le_trans hb.size hw.size)))
  have HRW := Lib.hid (fun (w' : World) (hw : Below w0.heap.size w0 w') => show RdN w' w0.heap.size h N from ((r.below (hb.trans (hw.mono hb.size))).more hb.size))
  have HT := Lib.hid (fun (wx : World) (hx : Below w0.heap.size w0 wx) => show Arit wx from (ht.below hb ht.lt).below hx (Nat.lt_of_lt_of_le ht.lt hb.size))
  have HU := Lib.hid (fun (wx : World) (hx : Below w0.heap.size w0 wx) => show Dual wx from (hu.below hb hu.lt).below hx (Nat.lt_of_lt_of_le hu.lt hb.size))
  have HAR := Lib.hid (fun (wx : World) (hx : Below w0.heap.size w0 wx) => arcsOf_any h N wx hv (HR.out wx hx))
  have HP := Lib.hid (fun (wx : World) (hx : Below w0.heap.size w0 wx) => parLinks_impl h N wx (HR.out wx hx) sm (HT.out wx hx) (HU.out wx hx))
  rw [kin_prk hv] at HP
  have HPAT := Lib.hid (fun i (hi : i < (prkN N).length) => prkN_at hi)
  have hpl := prkN_len N
  have HB0 := Lib.hid hb
  have hs0 : w.heap.size + 2 ≤ w0.heap.size := by omega
  clear hb g0 g1 hsz r ht hu sm hi4 hz40 hz41 hz42
  obtain ⟨na, hna⟩ : ∃ n, (arcsU N N.w.length).length = n := ⟨_, rfl⟩
  obtain ⟨AR, hAR⟩ : ∃ A, arcsU N N.w.length = A := ⟨_, rfl⟩
  have HARE := Lib.hid hAR
  rw [hAR] at HAR hna
  subst hna
  clear hAR
  have HSX : Hid (∀ wx : World, Below w0.heap.size w0 wx → wx.cell? ⟨w.heap.size, 0, none⟩ = some (.slice h.A N.w.length h.c) ∧ wx.cell? ⟨w.heap.size, 1, none⟩ = some (.slice h.L N.l.length h.d) ∧ wx.cell? ⟨w.heap.size, 2, none⟩ = some (.slice h.C N.c.length h.e)) := HK
  go_enter Tryz.func78, Tryz.ntmps78
  go_upto_region 1 with (fail)
  rw [← hw0]
  clear hw0
  go_cut [3] (fun v3 wx => ∃ bs A c, v3 = .pointer (some ⟨bs, 0, none⟩) ∧ w0.heap.size ≤ bs ∧ wx.heap[bs]? = some (.cells #[.int .i64 (N.l.length : Nat), .slice A AR.length c, .slice none 0 0] 88 (0, 0)) ∧ wx.ownsRow w0.heap.size 85 3 (.slice A AR.length c) AR.length ((flA AR).map (Value.int .i64)) ∧ Below w0.heap.size w0 wx)
  case first =>
    have FB_0 := Lib.hid (Below.refl w0.heap.size w0)
    refine wp_region_held_drew (S := fun wx => wx.cell? ⟨w.heap.size, 0, none⟩ = some (.slice h.A N.w.length h.c) ∧ wx.cell? ⟨w.heap.size, 1, none⟩ = some (.slice h.L N.l.length h.d) ∧ wx.cell? ⟨w.heap.size, 2, none⟩ = some (.slice h.C N.c.length h.e)) (by kernel_rfl) (HSX.out _ (Below.refl _ _).drew) (fun hHeld => ?_)
    obtain ⟨wp1, hwp1⟩ : ∃ w', w' = w0.drew := ⟨_, rfl⟩
    rw [← hwp1] at hHeld ⊢
    have bp1 : Below w0.heap.size w0 wp1 := by rw [hwp1]; exact (Below.refl _ _).drew
    clear hwp1
    have FB_p2 := Lib.hid ((FB_0.out).trans ((bp1).mono (FB_0.out).size))
    clear FB_0
    refine wpAnyH_take (i := 0) (v := ?vp3) rfl (by kernel_rfl) (by kernel_rfl) (by kernel_rfl) (fun _ _ _ h => h) (Or.inl ⟨by rfl, ?yp3⟩) (by assumption) ?_
    case yp3 => (intro w hSw; (try dsimp only at hSw); go_simp; all_goals (with_reducible rfl))
    (try simp only [Act.put, List.setIfInBounds_toArray, List.set_cons_zero, List.set_cons_succ, List.getElem_toArray, List.getElem_cons_succ, List.getElem_cons_zero])
    refine wpAnyH_take (i := 3) (v := ?vp4) rfl (by kernel_rfl) (by kernel_rfl) (by kernel_rfl) (fun _ _ _ h => h) (Or.inl ⟨by rfl, ?yp4⟩) (by assumption) ?_
    case yp4 => (intro w hSw; (try dsimp only at hSw); go_simp; all_goals (with_reducible rfl))
    (try simp only [Act.put, List.setIfInBounds_toArray, List.set_cons_zero, List.set_cons_succ, List.getElem_toArray, List.getElem_cons_succ, List.getElem_cons_zero])
    refine wpAnyH_take (i := 1) (v := ?vp5) rfl (by kernel_rfl) (by kernel_rfl) (by kernel_rfl) (fun _ _ _ h => h) (Or.inl ⟨by rfl, ?yp5⟩) (by assumption) ?_
    case yp5 => (intro w hSw; (try dsimp only at hSw); go_simp; all_goals (with_reducible rfl))
    (try simp only [Act.put, List.setIfInBounds_toArray, List.set_cons_zero, List.set_cons_succ, List.getElem_toArray, List.getElem_cons_succ, List.getElem_cons_zero])
    refine wpAnyH_take (i := 2) (v := ?vp6) rfl (by kernel_rfl) (by kernel_rfl) (by kernel_rfl) (fun _ _ _ h => h) (Or.inl ⟨by rfl, ?yp6⟩) (by assumption) ?_
    case yp6 => (intro w hSw; (try dsimp only at hSw); go_simp; all_goals (with_reducible rfl))
    (try simp only [Act.put, List.setIfInBounds_toArray, List.set_cons_zero, List.set_cons_succ, List.getElem_toArray, List.getElem_cons_succ, List.getElem_cons_zero])
    refine wpAnyH_ready (rs := [4, 6]) (by kernel_rfl) (by simp) ?_
    refine AllReadyH.cons rfl (fun K hK => ?_) ?_
    · go_simp
      have FQp7 := FB_p2
      refine (HAR.out wp1 FB_p2.out).mono ?_
      rintro e wp7 ⟨A, c, rfl, ownp7, belp7⟩
      dsimp only
      have FB_p8 := Lib.hid ((FB_p2.out).trans ((belp7).mono (FB_p2.out).size))
      clear FB_p2
      have FA_p9 := Lib.hid (ownp7.mono FQp7.out.size)
      clear ownp7 belp7 FQp7
      refine hK.out _ _ (HSX.out _ FB_p8.out) (fun hHeld => ?_)
      clear hK K
      (try simp only [Act.put, List.setIfInBounds_toArray, List.set_cons_zero, List.set_cons_succ, List.getElem_toArray, List.getElem_cons_succ, List.getElem_cons_zero])
      refine wpAnyH_take (i := 5) (v := ?vp10) rfl (by kernel_rfl) (by kernel_rfl) (by kernel_rfl) (fun _ _ _ h => h) (Or.inl ⟨by rfl, ?yp10⟩) (by assumption) ?_
      case yp10 => (intro w hSw; (try dsimp only at hSw); go_simp; all_goals (with_reducible rfl))
      (try simp only [Act.put, List.setIfInBounds_toArray, List.set_cons_zero, List.set_cons_succ, List.getElem_toArray, List.getElem_cons_succ, List.getElem_cons_zero])
      refine wpAnyH_ready (rs := [6]) (by kernel_rfl) (by simp) ?_
      refine AllReadyH.cons rfl (fun K hK => ?_) ?_
      · go_simp
        have FBQ := FB_p8
        obtain ⟨wp11, hwp11⟩ : ∃ w', w' = wp7.alloc (.cells #[.int .i64 0, .slice none 0 0, .slice none 0 0] 88) := ⟨_, rfl⟩
        rw [← hwp11]
        have bp11 : Below wp7.heap.size wp7 wp11 := by rw [hwp11]; exact (Below.refl _ _).alloc (Nat.le_refl _) _
        have gp11 : wp11.heap[wp7.heap.size]? = some (.cells #[.int .i64 0, .slice none 0 0, .slice none 0 0] 88 (0, 0)) := by rw [hwp11]; exact heap_alloc_new _ _
        clear hwp11
        have FB_p12 := Lib.hid ((FB_p8.out).trans ((bp11).mono (FB_p8.out).size))
        have FA_p13 := Lib.hid (own_below (FA_p9.out) (bp11) (Nat.le_refl _))
        clear FB_p8 FA_p9
        have hlebsp14 : w0.heap.size ≤ wp7.heap.size := FBQ.out.size
        obtain ⟨bsp14, hgp14⟩ : ∃ b, wp7.heap.size = b := ⟨_, rfl⟩
        have FG_p14 := Lib.hid gp11
        rw [hgp14] at hlebsp14 FG_p14 ⊢
        have HLE := Lib.hid hlebsp14
        clear hlebsp14 FBQ
        clear hgp14 gp11 bp11
        refine hK.out _ _ (HSX.out _ FB_p12.out) (fun hHeld => ?_)
        clear hK K
        (try simp only [Act.put, List.setIfInBounds_toArray, List.set_cons_zero, List.set_cons_succ, List.getElem_toArray, List.getElem_cons_succ, List.getElem_cons_zero])
        refine wpAnyH_ready (rs := [7]) (by kernel_rfl) (by simp) ?_
        refine AllReadyH.cons rfl (fun K hK => ?_) ?_
        · obtain ⟨a0, a1, a2⟩ := three_at FG_p14.out
          have f0 := frozen_of_row _ _ 0 _ _ FG_p14.out; have f1 := frozen_of_row _ _ 1 _ _ FG_p14.out; have f2 := frozen_of_row _ _ 2 _ _ FG_p14.out
          have HX9 := Lib.hid (set3_at FG_p14.out (.int .i64 (N.l.length : Nat)) (.slice A AR.length c) (.slice none 0 0))
          have OA9 := Lib.hid (own_set3 FA_p13.out FG_p14.out (by decide) (.int .i64 (N.l.length : Nat)) (.slice A AR.length c) (.slice none 0 0))
          have HB9 := Lib.hid (((FB_p12.out.setCell (p := ⟨bsp14, 0, none⟩) HLE.out (.int .i64 (N.l.length : Nat))).setCell (p := ⟨bsp14, 1, none⟩) HLE.out (.slice A AR.length c)).setCell (p := ⟨bsp14, 2, none⟩) HLE.out (.slice none 0 0))
          go_simp
          clear a0 a1 a2 f0 f1 f2
          refine hK.out _ _ (HSX.out _ HB9.out) (fun hHeld => ?_)
          clear hK K
          (try simp only [Act.put, List.setIfInBounds_toArray, List.set_cons_zero, List.set_cons_succ, List.getElem_toArray, List.getElem_cons_succ, List.getElem_cons_zero])
          refine wpAnyH_done (by kernel_rfl) ?_ _
          go_wp2_with (fail)
          go_meet
          exact ⟨_, A, c, rfl, HLE.out, HX9.out, OA9.out, HB9.out⟩
        exact AllReadyH.nil
      exact AllReadyH.nil
    refine AllReadyH.cons rfl (fun K hK => ?_) ?_
    · go_simp
      have FBQ := FB_p2
      obtain ⟨wp15, hwp15⟩ : ∃ w', w' = wp1.alloc (.cells #[.int .i64 0, .slice none 0 0, .slice none 0 0] 88) := ⟨_, rfl⟩
      rw [← hwp15]
      have bp15 : Below wp1.heap.size wp1 wp15 := by rw [hwp15]; exact (Below.refl _ _).alloc (Nat.le_refl _) _
      have gp15 : wp15.heap[wp1.heap.size]? = some (.cells #[.int .i64 0, .slice none 0 0, .slice none 0 0] 88 (0, 0)) := by rw [hwp15]; exact heap_alloc_new _ _
      clear hwp15
      have FB_p16 := Lib.hid ((FB_p2.out).trans ((bp15).mono (FB_p2.out).size))
      clear FB_p2
      have hlebsp17 : w0.heap.size ≤ wp1.heap.size := FBQ.out.size
      obtain ⟨bsp17, hgp17⟩ : ∃ b, wp1.heap.size = b := ⟨_, rfl⟩
      have FG_p17 := Lib.hid gp15
      rw [hgp17] at hlebsp17 FG_p17 ⊢
      have HLE := Lib.hid hlebsp17
      clear hlebsp17 FBQ
      clear hgp17 gp15 bp15
      refine hK.out _ _ (HSX.out _ FB_p16.out) (fun hHeld => ?_)
      clear hK K
      (try simp only [Act.put, List.setIfInBounds_toArray, List.set_cons_zero, List.set_cons_succ, List.getElem_toArray, List.getElem_cons_succ, List.getElem_cons_zero])
      refine wpAnyH_ready (rs := [4]) (by kernel_rfl) (by simp) ?_
      refine AllReadyH.cons rfl (fun K hK => ?_) ?_
      · go_simp
        have FQp18 := FB_p16
        refine (HAR.out wp15 FB_p16.out).mono ?_
        rintro e wp18 ⟨A, c, rfl, ownp18, belp18⟩
        dsimp only
        have FB_p19 := Lib.hid ((FB_p16.out).trans ((belp18).mono (FB_p16.out).size))
        have FG_p20 := Lib.hid (((belp18).block _ (Array.getElem?_eq_some_iff.1 (FG_p17.out)).1).trans (FG_p17.out))
        clear FB_p16 FG_p17
        have FA_p21 := Lib.hid (ownp18.mono FQp18.out.size)
        clear ownp18 belp18 FQp18
        refine hK.out _ _ (HSX.out _ FB_p19.out) (fun hHeld => ?_)
        clear hK K
        (try simp only [Act.put, List.setIfInBounds_toArray, List.set_cons_zero, List.set_cons_succ, List.getElem_toArray, List.getElem_cons_succ, List.getElem_cons_zero])
        refine wpAnyH_take (i := 5) (v := ?vp22) rfl (by kernel_rfl) (by kernel_rfl) (by kernel_rfl) (fun _ _ _ h => h) (Or.inl ⟨by rfl, ?yp22⟩) (by assumption) ?_
        case yp22 => (intro w hSw; (try dsimp only at hSw); go_simp; all_goals (with_reducible rfl))
        (try simp only [Act.put, List.setIfInBounds_toArray, List.set_cons_zero, List.set_cons_succ, List.getElem_toArray, List.getElem_cons_succ, List.getElem_cons_zero])
        refine wpAnyH_ready (rs := [7]) (by kernel_rfl) (by simp) ?_
        refine AllReadyH.cons rfl (fun K hK => ?_) ?_
        · obtain ⟨a0, a1, a2⟩ := three_at FG_p20.out
          have f0 := frozen_of_row _ _ 0 _ _ FG_p20.out; have f1 := frozen_of_row _ _ 1 _ _ FG_p20.out; have f2 := frozen_of_row _ _ 2 _ _ FG_p20.out
          have HX9 := Lib.hid (set3_at FG_p20.out (.int .i64 (N.l.length : Nat)) (.slice A AR.length c) (.slice none 0 0))
          have OA9 := Lib.hid (own_set3 FA_p21.out FG_p20.out (by decide) (.int .i64 (N.l.length : Nat)) (.slice A AR.length c) (.slice none 0 0))
          have HB9 := Lib.hid (((FB_p19.out.setCell (p := ⟨bsp17, 0, none⟩) HLE.out (.int .i64 (N.l.length : Nat))).setCell (p := ⟨bsp17, 1, none⟩) HLE.out (.slice A AR.length c)).setCell (p := ⟨bsp17, 2, none⟩) HLE.out (.slice none 0 0))
          go_simp
          clear a0 a1 a2 f0 f1 f2
          refine hK.out _ _ (HSX.out _ HB9.out) (fun hHeld => ?_)
          clear hK K
          (try simp only [Act.put, List.setIfInBounds_toArray, List.set_cons_zero, List.set_cons_succ, List.getElem_toArray, List.getElem_cons_succ, List.getElem_cons_zero])
          refine wpAnyH_done (by kernel_rfl) ?_ _
          go_wp2_with (fail)
          go_meet
          exact ⟨_, A, c, rfl, HLE.out, HX9.out, OA9.out, HB9.out⟩
        exact AllReadyH.nil
      exact AllReadyH.nil
    exact AllReadyH.nil
  case rest =>
    obtain ⟨bs, A, c, rfl, hbs, hbox, hown, hBc⟩ := hcut
    have BX := Lib.hid hbox; have OA := Lib.hid hown; have BC := Lib.hid hBc
    have hbl := (Array.getElem?_eq_some_iff.1 hbox).1
    clear hbox hown hBc HSX
    obtain ⟨y0, y1, y2⟩ := HK.out _ BC.out
    go_wp2_with (fail)
    refine (HP.out _ BC.out).mono ?_
    rintro e w2 ⟨Ap, cp, rfl, ownp, bel2⟩
    have B2 := Lib.hid (BC.out.trans (bel2.mono BC.out.size))
    have RP := Lib.hid (RdI.of_own ownp)
    have HBP := Lib.hid (fun b (e : Value.ownBlock (.slice Ap (prkN N).length cp) = some b) => (show wc.heap.size ≤ b from (ownp.lt b e).1))
    have hs2 := bel2.size
    have BX2 := Lib.hid ((bel2.block bs hbl).trans BX.out)
    have OA2 := Lib.hid (own_below OA.out bel2 (Nat.le_refl _))
    clear ownp bel2 y0 y1 y2 BX OA
    go_wp2
    go_loopw [15] (fun i wr => ∃ k : Nat, k ≤ (prkN N).length ∧ i = .int .i64 k ∧ ∃ hs P d, wr.heap[bs]? = some (.cells #[.int .i64 (N.l.length : Nat), .slice A AR.length c, .slice P k d] 88 (0, 0)) ∧ OwnQ wr w2.heap.size wr.heap.size (.slice P k d) hs (pairsU N k) ∧ w2.grownBy wr (some bs)) (fun i _ => (prkN N).length - (intOf i).toNat)
    case atStart => exact ⟨0, Nat.zero_le _, rfl, fun _ => (none, 0), none, 0, BX2.out, OwnQ.nil _ _ _ _, grown_reflx _ _⟩
    case round =>
      obtain ⟨k, hk, rfl, hs, P, d, hbox, hq, hg⟩ := hrel
      have hcellk := fun (b off : Nat) (hb : b < w2.heap.size) (hne : b ≠ bs) => World.cell?_of_block (a := ⟨b, off, none⟩) (hg.block b hb (fun e => by injection e with e; exact hne e))
      by_cases hlt : k < (prkN N).length
      · obtain ⟨bp, op, hPe, hbp, hcp⟩ := RP.out.2 (by omega)
        obtain ⟨j, hj, hkind, ej⟩ := HPAT.out k hlt
        obtain ⟨bL, oL, hLe, hbL, hcL⟩ := (HRW.out _ B2.out).2.1.at (show 0 < N.l.length by omega)
        obtain ⟨m0, m1, m2, m3⟩ := hcL j hj
        obtain ⟨t0, t1, t2⟩ := HK.out _ B2.out
        have hgs := hg.size
        have hbs2 : bs < w2.heap.size := by omega
        have c1 := (hcellk w.heap.size 1 (by omega) (by omega)).trans t1
        have kp := (hcellk bp (op + k) hbp (by have := HBP.out bp (by rw [hPe]; rfl); omega)).trans (hcp k hlt)
        rw [ej] at kp
        have l0 := (hcellk bL (oL + j * 4) (by omega) (by omega)).trans m0
        have l1 := (hcellk bL (oL + j * 4 + 1) (by omega) (by omega)).trans m1
        have l2 := (hcellk bL (oL + j * 4 + 2) (by omega) (by omega)).trans m2
        have l3 := (hcellk bL (oL + j * 4 + 3) (by omega) (by omega)).trans m3
        have HPS : Hid (pairsU N (k + 1) = pairsU N k ++ [inL (N.l.getD j Lk.nil)]) := Lib.hid (by rw [pairsU_succ, ej, Int.toNat_natCast])
        have hpl2 := pairsU_len N k
        have HPLN : Hid ((pairsU N k).length = k) := Lib.hid hpl2
        have hil := inL_len (N.l.getD j Lk.nil)
        obtain ⟨⟨lk, la, lb, lc⟩, hl⟩ : ∃ l, N.l.getD j Lk.nil = l := ⟨_, rfl⟩
        rw [hl] at l0 l1 l2 l3 HPS hil
        dsimp only at l0 l1 l2 l3
        have HIC := Lib.hid (fun wx => show Calls Tryz.prog 122 #[.agg #[.int .i64 lk, .int .i64 la, .int .i64 lb, .int .i64 lc]] wx (Gives wx (inL ⟨lk, la, lb, lc⟩)) from inputsOf_any ⟨lk, la, lb, lc⟩ wx)
        generalize inL ⟨lk, la, lb, lc⟩ = X at *
        have HBOX := Lib.hid hbox
        have HQ := Lib.hid hq; have HG := Lib.hid hg
        have hbsr : bs < wr.heap.size := by omega
        have hjl : (j : Int) < (N.l.length : Int) := by omega
        have hkp : (k : Int) < ((prkN N).length : Int) := by omega
        have HSY : Hid (∀ wx : World, Below wr.heap.size wr wx → wx.cell? ⟨w.heap.size, 1, none⟩ = some (.slice h.L N.l.length h.d) ∧ wx.cell? ⟨bL, oL + j * 4, none⟩ = some (.int .i64 lk) ∧ wx.cell? ⟨bL, oL + j * 4 + 1, none⟩ = some (.int .i64 la) ∧ wx.cell? ⟨bL, oL + j * 4 + 2, none⟩ = some (.int .i64 lb) ∧ wx.cell? ⟨bL, oL + j * 4 + 3, none⟩ = some (.int .i64 lc)) := Lib.hid fun wx hx => ⟨(hx.cell (p := ⟨w.heap.size, 1, none⟩) (by show w.heap.size < _; omega)).trans c1, (hx.cell (p := ⟨bL, oL + j * 4, none⟩) (by show bL < _; omega)).trans l0, (hx.cell (p := ⟨bL, oL + j * 4 + 1, none⟩) (by show bL < _; omega)).trans l1, (hx.cell (p := ⟨bL, oL + j * 4 + 2, none⟩) (by show bL < _; omega)).trans l2, (hx.cell (p := ⟨bL, oL + j * 4 + 3, none⟩) (by show bL < _; omega)).trans l3⟩
        subst hPe
        clear hcellk hbox hq hg hcp hcL m0 m1 m2 m3 t0 t1 t2 ej hl hkind
        obtain ⟨hAd, hcd, hhs, hL, hd, hC, he⟩ := h
        dsimp only at hLe c1
        subst hLe
        go_upto_region 5 with (fail)
        clear c1 kp l0 l1 l2 l3
        have FB_0 := Lib.hid (Below.refl wr.heap.size wr)
        have FX_0 := Lib.hid HBOX.out
        refine wp_region_held_drew (S := fun wx => wx.cell? ⟨w.heap.size, 1, none⟩ = some (.slice (some ⟨bL, oL, none⟩) N.l.length hd) ∧ wx.cell? ⟨bL, oL + j * 4, none⟩ = some (.int .i64 lk) ∧ wx.cell? ⟨bL, oL + j * 4 + 1, none⟩ = some (.int .i64 la) ∧ wx.cell? ⟨bL, oL + j * 4 + 2, none⟩ = some (.int .i64 lb) ∧ wx.cell? ⟨bL, oL + j * 4 + 3, none⟩ = some (.int .i64 lc)) (by kernel_rfl) (HSY.out _ (Below.refl _ _).drew) (fun hHeld => ?_)
        obtain ⟨wq1, hwq1⟩ : ∃ w', w' = wr.drew := ⟨_, rfl⟩
        rw [← hwq1] at hHeld ⊢
        have bq1 : Below wr.heap.size wr wq1 := by rw [hwq1]; exact (Below.refl _ _).drew
        clear hwq1
        have FB_q2 := Lib.hid ((FB_0.out).trans ((bq1).mono (FB_0.out).size))
        have FX_q3 := Lib.hid (((bq1).block _ (Array.getElem?_eq_some_iff.1 (FX_0.out)).1).trans (FX_0.out))
        clear FB_0 FX_0
        refine wpAnyH_take (i := 0) (v := ?vq4) rfl (by kernel_rfl) (by kernel_rfl) (by kernel_rfl) (fun _ _ _ h => h) (Or.inl ⟨by rfl, ?yq4⟩) (by assumption) ?_
        case yq4 => (intro w hSw; (try dsimp only at hSw); go_simp; all_goals (with_reducible rfl))
        (try simp only [Act.put, List.setIfInBounds_toArray, List.set_cons_zero, List.set_cons_succ, List.getElem_toArray, List.getElem_cons_succ, List.getElem_cons_zero])
        refine wpAnyH_take (i := 2) (v := ?vq5) rfl (by kernel_rfl) (by kernel_rfl) (by kernel_rfl) (fun _ _ _ h => h) (Or.inl ⟨by rfl, ?yq5⟩) (by assumption) ?_
        case yq5 => (intro w hSw; (try dsimp only at hSw); go_simp; all_goals (with_reducible rfl))
        (try simp only [Act.put, List.setIfInBounds_toArray, List.set_cons_zero, List.set_cons_succ, List.getElem_toArray, List.getElem_cons_succ, List.getElem_cons_zero])
        refine wpAnyH_take (i := 4) (v := ?vq6) rfl (by kernel_rfl) (by kernel_rfl) (by kernel_rfl) (fun _ _ _ h => h) (Or.inl ⟨by rfl, ?yq6⟩) (by assumption) ?_
        case yq6 => (intro w hSw; (try dsimp only at hSw); go_simp; all_goals (with_reducible rfl))
        (try simp only [Act.put, List.setIfInBounds_toArray, List.set_cons_zero, List.set_cons_succ, List.getElem_toArray, List.getElem_cons_succ, List.getElem_cons_zero])
        refine wpAnyH_take (i := 3) (v := ?vq7) rfl (by kernel_rfl) (by kernel_rfl) (by kernel_rfl) (fun _ _ _ h => h) (Or.inl ⟨by rfl, ?yq7⟩) (by assumption) ?_
        case yq7 => (intro w hSw; (try dsimp only at hSw); go_simp; all_goals (with_reducible rfl))
        (try simp only [Act.put, List.setIfInBounds_toArray, List.set_cons_zero, List.set_cons_succ, List.getElem_toArray, List.getElem_cons_succ, List.getElem_cons_zero])
        refine wpAnyH_take (i := 5) (v := ?vq8) rfl (by kernel_rfl) (by kernel_rfl) (by kernel_rfl) (fun _ _ _ h => h) (Or.inl ⟨by rfl, ?yq8⟩) (by assumption) ?_
        case yq8 => (intro w hSw; (try dsimp only at hSw); go_simp; all_goals (with_reducible rfl))
        (try simp only [Act.put, List.setIfInBounds_toArray, List.set_cons_zero, List.set_cons_succ, List.getElem_toArray, List.getElem_cons_succ, List.getElem_cons_zero])
        refine wpAnyH_take (i := 6) (v := ?vq9) rfl (by kernel_rfl) (by kernel_rfl) (by kernel_rfl) (fun _ _ _ h => h) (Or.inl ⟨by rfl, ?yq9⟩) (by assumption) ?_
        case yq9 => (intro w hSw; (try dsimp only at hSw); go_simp; all_goals (with_reducible rfl))
        (try simp only [Act.put, List.setIfInBounds_toArray, List.set_cons_zero, List.set_cons_succ, List.getElem_toArray, List.getElem_cons_succ, List.getElem_cons_zero])
        refine wpAnyH_ready (rs := [1, 7]) (by kernel_rfl) (by simp) ?_
        refine AllReadyH.cons rfl (fun K hK => ?_) ?_
        · obtain ⟨q0, q1, q2⟩ := three_at FX_q3.out
          go_simp
          clear q0 q1 q2
          refine hK.out _ _ (hHeld) (fun hHeld => ?_)
          clear hK K
          (try simp only [Act.put, List.setIfInBounds_toArray, List.set_cons_zero, List.set_cons_succ, List.getElem_toArray, List.getElem_cons_succ, List.getElem_cons_zero])
          refine wpAnyH_ready (rs := [7]) (by kernel_rfl) (by simp) ?_
          refine AllReadyH.cons rfl (fun K hK => ?_) ?_
          · go_simp
            have FQq10 := FB_q2
            refine (HIC.out wq1).mono ?_
            rintro e wq10 ⟨A9, c9, rfl, ownq10, belq10⟩
            dsimp only
            have FB_q11 := Lib.hid ((FB_q2.out).trans ((belq10).mono (FB_q2.out).size))
            have FX_q12 := Lib.hid (((belq10).block _ (Array.getElem?_eq_some_iff.1 (FX_q3.out)).1).trans (FX_q3.out))
            clear FB_q2 FX_q3
            have OWN := Lib.hid (ownq10.mono FQq10.out.size)
            clear ownq10 belq10 FQq10
            refine hK.out _ _ (HSY.out _ FB_q11.out) (fun hHeld => ?_)
            clear hK K
            (try simp only [Act.put, List.setIfInBounds_toArray, List.set_cons_zero, List.set_cons_succ, List.getElem_toArray, List.getElem_cons_succ, List.getElem_cons_zero])
            refine wpAnyH_ready (rs := [8]) (by kernel_rfl) (by simp) ?_
            refine AllReadyH.cons rfl (fun K hK => ?_) ?_
            · go_simp
              have FBU := FB_q11
              obtain ⟨wq13, hwq13⟩ : ∃ w', w' = wq10.alloc (.cells #[.slice A9 X.length c9] 24) := ⟨_, rfl⟩
              rw [← hwq13]
              have bq13 : Below wq10.heap.size wq10 wq13 := by rw [hwq13]; exact (Below.refl _ _).alloc (Nat.le_refl _) _
              have HW9 := Lib.hid hwq13
              have OWN2 := Lib.hid (own_below OWN.out bq13 (Nat.le_refl _))
              clear hwq13
              have FB_q14 := Lib.hid ((FB_q11.out).trans ((bq13).mono (FB_q11.out).size))
              have FX_q15 := Lib.hid (((bq13).block _ (Array.getElem?_eq_some_iff.1 (FX_q12.out)).1).trans (FX_q12.out))
              clear FB_q11 FX_q12
              clear bq13
              refine hK.out _ _ (HSY.out _ FB_q14.out) (fun hHeld => ?_)
              clear hK K
              (try simp only [Act.put, List.setIfInBounds_toArray, List.set_cons_zero, List.set_cons_succ, List.getElem_toArray, List.getElem_cons_succ, List.getElem_cons_zero])
              refine wpAnyH_ready (rs := [9]) (by kernel_rfl) (by simp) ?_
              refine AllReadyH.cons rfl (fun K hK => ?_) ?_
              · have OW := Lib.hid (HQ.out.below FB_q14.out)
                have hz9 := FB_q14.out.size
                obtain ⟨H8, hH8⟩ : ∃ q, wq13.heap.size = q := ⟨_, rfl⟩
                have HN9 := Lib.hid (cell_one_new wq10 (.slice A9 X.length c9) 24)
                rw [← HW9.out] at HN9
                have OWO := OW.out.outer
                rw [HPLN.out] at OWO
                refine step_append_lies _ rfl _ _ 22 rfl w2.heap.size 24 i4 (.slice none 0 0) 1 24 Tryz.underlying22 HI4.out HZ40.out HZ41.out HZ42.out rfl (by decide) _ _ _ rfl OWO ⟨wq10.heap.size, 0, none⟩ 1 1 [.slice A9 X.length c9] rfl rfl HN9.out (by intro u hu; simp at hu; subst hu; rfl) (by decide) (by simp only [maxLen]; (try dsimp only); omega) (by (try dsimp only); omega) (by omega) H8 hH8 ?_
                intro g9 cap9 w9 hown9 hgrow9 hat9 hlt9
                have q9 := OwnQ.push (hi' := w9.heap.size) OW.out (OWN2.out.mono (by omega)) (fun b e => (OWN2.out.lt b e).1) (by rw [HPLN.out]; exact hown9) hgrow9 (at_own (hat9.imp id (fun z => z.trans hH8.symm))) hz9 (Nat.le_refl _)
                rw [← HPS.out] at q9
                have hbx9 := (hgrow9.block bs (by omega) (fun e => by have := (OW.out.outer.lt bs e.symm).1; omega)).trans ((FB_q14.out.block bs hbsr).trans HBOX.out)
                have hg9 : w2.grownBy w9 (some bs) := ⟨hgrow9.os.trans (FB_q14.out.os.trans HG.out.os), hgrow9.tape.trans (FB_q14.out.tape.trans HG.out.tape), hgrow9.output.trans (FB_q14.out.output.trans HG.out.output), Nat.le_trans HG.out.size (Nat.le_trans hz9 hgrow9.size), fun z hz hne => (hgrow9.block z (by omega) (fun e => by have := (OW.out.outer.lt z e.symm).1; omega)).trans ((FB_q14.out.block z (by omega)).trans (HG.out.block z hz hne))⟩
                have hs9 := HSY.out _ FB_q14.out
                have cc := fun (b off : Nat) (hb : b < w2.heap.size) => World.cell?_of_block (a := ⟨b, off, none⟩) (hgrow9.block b (by omega) (fun e => by have := (OW.out.outer.lt b e.symm).1; omega))
                have HC9 := Lib.hid (And.intro ((cc w.heap.size 1 (by omega)).trans hs9.1) (And.intro ((cc bL (oL + j * 4) (by omega)).trans hs9.2.1) (And.intro ((cc bL (oL + j * 4 + 1) (by omega)).trans hs9.2.2.1) (And.intro ((cc bL (oL + j * 4 + 2) (by omega)).trans hs9.2.2.2.1) ((cc bL (oL + j * 4 + 3) (by omega)).trans hs9.2.2.2.2)))))
                have Q9 := Lib.hid q9; have HX9 := Lib.hid hbx9; have G9 := Lib.hid hg9
                clear q9 hbx9 hg9 hown9 hgrow9 hat9 hlt9 hH8 OW OWO hs9 cc
                refine hK.out _ _ (HC9.out) (fun hHeld => ?_)
                clear hK K
                (try simp only [Act.put, List.setIfInBounds_toArray, List.set_cons_zero, List.set_cons_succ, List.getElem_toArray, List.getElem_cons_succ, List.getElem_cons_zero])
                refine wpAnyH_take (i := 10) (v := ?vq16) rfl (by kernel_rfl) (by kernel_rfl) (by kernel_rfl) (fun _ _ _ h => h) (Or.inl ⟨by rfl, ?yq16⟩) (by assumption) ?_
                case yq16 => (intro w hSw; (try dsimp only at hSw); go_simp; all_goals (with_reducible rfl))
                (try simp only [Act.put, List.setIfInBounds_toArray, List.set_cons_zero, List.set_cons_succ, List.getElem_toArray, List.getElem_cons_succ, List.getElem_cons_zero])
                refine wpAnyH_ready (rs := [11]) (by kernel_rfl) (by simp) ?_
                refine AllReadyH.cons rfl (fun K hK => ?_) ?_
                · obtain ⟨a0, a1, a2⟩ := three_at HX9.out
                  have f0 := frozen_of_row _ _ 0 _ _ HX9.out; have f1 := frozen_of_row _ _ 1 _ _ HX9.out; have f2 := frozen_of_row _ _ 2 _ _ HX9.out
                  go_simp
                  clear a0 a1 a2 f0 f1 f2
                  refine hK.out _ _ (⟨(World.cell?_setCell_other _ _ _ _ (fun e => by injection e with e1 e2 e3; omega)).trans HC9.out.1, (World.cell?_setCell_other _ _ _ _ (fun e => by injection e with e1 e2 e3; omega)).trans HC9.out.2.1, (World.cell?_setCell_other _ _ _ _ (fun e => by injection e with e1 e2 e3; omega)).trans HC9.out.2.2.1, (World.cell?_setCell_other _ _ _ _ (fun e => by injection e with e1 e2 e3; omega)).trans HC9.out.2.2.2.1, (World.cell?_setCell_other _ _ _ _ (fun e => by injection e with e1 e2 e3; omega)).trans HC9.out.2.2.2.2⟩) (fun hHeld => ?_)
                  clear hK K
                  (try simp only [Act.put, List.setIfInBounds_toArray, List.set_cons_zero, List.set_cons_succ, List.getElem_toArray, List.getElem_cons_succ, List.getElem_cons_zero])
                  refine wpAnyH_done (by kernel_rfl) ?_ _
                  have HX10 := Lib.hid (heap_setCell_same _ bs 2 _ _ (.slice (some ⟨g9, 0, none⟩) (k + 1) cap9) HX9.out)
                  have Q10 := Lib.hid (Q9.out.setBelow (p := ⟨bs, 2, none⟩) hbs2 (.slice (some ⟨g9, 0, none⟩) (k + 1) cap9))
                  have G10 := Lib.hid (grown_transx G9.out (grown_set (w := w9) (g := bs) (j := 2) (v := .slice (some ⟨g9, 0, none⟩) (k + 1) cap9)))
                  go_wp2
                  go_roundw
                  case rel => exact ⟨k + 1, by omega, by go_num, _, _, _, HX10.out, by simpa using Q10.out, G10.out⟩
                  case measure => simp [intOf]; omega
                exact AllReadyH.nil
              exact AllReadyH.nil
            exact AllReadyH.nil
          exact AllReadyH.nil
        refine AllReadyH.cons rfl (fun K hK => ?_) ?_
        · go_simp
          have FQq17 := FB_q2
          refine (HIC.out wq1).mono ?_
          rintro e wq17 ⟨A9, c9, rfl, ownq17, belq17⟩
          dsimp only
          have FB_q18 := Lib.hid ((FB_q2.out).trans ((belq17).mono (FB_q2.out).size))
          have FX_q19 := Lib.hid (((belq17).block _ (Array.getElem?_eq_some_iff.1 (FX_q3.out)).1).trans (FX_q3.out))
          clear FB_q2 FX_q3
          have OWN := Lib.hid (ownq17.mono FQq17.out.size)
          clear ownq17 belq17 FQq17
          refine hK.out _ _ (HSY.out _ FB_q18.out) (fun hHeld => ?_)
          clear hK K
          (try simp only [Act.put, List.setIfInBounds_toArray, List.set_cons_zero, List.set_cons_succ, List.getElem_toArray, List.getElem_cons_succ, List.getElem_cons_zero])
          refine wpAnyH_ready (rs := [1, 8]) (by kernel_rfl) (by simp) ?_
          refine AllReadyH.cons rfl (fun K hK => ?_) ?_
          · obtain ⟨q0, q1, q2⟩ := three_at FX_q19.out
            go_simp
            clear q0 q1 q2
            refine hK.out _ _ (hHeld) (fun hHeld => ?_)
            clear hK K
            (try simp only [Act.put, List.setIfInBounds_toArray, List.set_cons_zero, List.set_cons_succ, List.getElem_toArray, List.getElem_cons_succ, List.getElem_cons_zero])
            refine wpAnyH_ready (rs := [8]) (by kernel_rfl) (by simp) ?_
            refine AllReadyH.cons rfl (fun K hK => ?_) ?_
            · go_simp
              have FBU := FB_q18
              obtain ⟨wq20, hwq20⟩ : ∃ w', w' = wq17.alloc (.cells #[.slice A9 X.length c9] 24) := ⟨_, rfl⟩
              rw [← hwq20]
              have bq20 : Below wq17.heap.size wq17 wq20 := by rw [hwq20]; exact (Below.refl _ _).alloc (Nat.le_refl _) _
              have HW9 := Lib.hid hwq20
              have OWN2 := Lib.hid (own_below OWN.out bq20 (Nat.le_refl _))
              clear hwq20
              have FB_q21 := Lib.hid ((FB_q18.out).trans ((bq20).mono (FB_q18.out).size))
              have FX_q22 := Lib.hid (((bq20).block _ (Array.getElem?_eq_some_iff.1 (FX_q19.out)).1).trans (FX_q19.out))
              clear FB_q18 FX_q19
              clear bq20
              refine hK.out _ _ (HSY.out _ FB_q21.out) (fun hHeld => ?_)
              clear hK K
              (try simp only [Act.put, List.setIfInBounds_toArray, List.set_cons_zero, List.set_cons_succ, List.getElem_toArray, List.getElem_cons_succ, List.getElem_cons_zero])
              refine wpAnyH_ready (rs := [9]) (by kernel_rfl) (by simp) ?_
              refine AllReadyH.cons rfl (fun K hK => ?_) ?_
              · have OW := Lib.hid (HQ.out.below FB_q21.out)
                have hz9 := FB_q21.out.size
                obtain ⟨H8, hH8⟩ : ∃ q, wq20.heap.size = q := ⟨_, rfl⟩
                have HN9 := Lib.hid (cell_one_new wq17 (.slice A9 X.length c9) 24)
                rw [← HW9.out] at HN9
                have OWO := OW.out.outer
                rw [HPLN.out] at OWO
                refine step_append_lies _ rfl _ _ 22 rfl w2.heap.size 24 i4 (.slice none 0 0) 1 24 Tryz.underlying22 HI4.out HZ40.out HZ41.out HZ42.out rfl (by decide) _ _ _ rfl OWO ⟨wq17.heap.size, 0, none⟩ 1 1 [.slice A9 X.length c9] rfl rfl HN9.out (by intro u hu; simp at hu; subst hu; rfl) (by decide) (by simp only [maxLen]; (try dsimp only); omega) (by (try dsimp only); omega) (by omega) H8 hH8 ?_
                intro g9 cap9 w9 hown9 hgrow9 hat9 hlt9
                have q9 := OwnQ.push (hi' := w9.heap.size) OW.out (OWN2.out.mono (by omega)) (fun b e => (OWN2.out.lt b e).1) (by rw [HPLN.out]; exact hown9) hgrow9 (at_own (hat9.imp id (fun z => z.trans hH8.symm))) hz9 (Nat.le_refl _)
                rw [← HPS.out] at q9
                have hbx9 := (hgrow9.block bs (by omega) (fun e => by have := (OW.out.outer.lt bs e.symm).1; omega)).trans ((FB_q21.out.block bs hbsr).trans HBOX.out)
                have hg9 : w2.grownBy w9 (some bs) := ⟨hgrow9.os.trans (FB_q21.out.os.trans HG.out.os), hgrow9.tape.trans (FB_q21.out.tape.trans HG.out.tape), hgrow9.output.trans (FB_q21.out.output.trans HG.out.output), Nat.le_trans HG.out.size (Nat.le_trans hz9 hgrow9.size), fun z hz hne => (hgrow9.block z (by omega) (fun e => by have := (OW.out.outer.lt z e.symm).1; omega)).trans ((FB_q21.out.block z (by omega)).trans (HG.out.block z hz hne))⟩
                have hs9 := HSY.out _ FB_q21.out
                have cc := fun (b off : Nat) (hb : b < w2.heap.size) => World.cell?_of_block (a := ⟨b, off, none⟩) (hgrow9.block b (by omega) (fun e => by have := (OW.out.outer.lt b e.symm).1; omega))
                have HC9 := Lib.hid (And.intro ((cc w.heap.size 1 (by omega)).trans hs9.1) (And.intro ((cc bL (oL + j * 4) (by omega)).trans hs9.2.1) (And.intro ((cc bL (oL + j * 4 + 1) (by omega)).trans hs9.2.2.1) (And.intro ((cc bL (oL + j * 4 + 2) (by omega)).trans hs9.2.2.2.1) ((cc bL (oL + j * 4 + 3) (by omega)).trans hs9.2.2.2.2)))))
                have Q9 := Lib.hid q9; have HX9 := Lib.hid hbx9; have G9 := Lib.hid hg9
                clear q9 hbx9 hg9 hown9 hgrow9 hat9 hlt9 hH8 OW OWO hs9 cc
                refine hK.out _ _ (HC9.out) (fun hHeld => ?_)
                clear hK K
                (try simp only [Act.put, List.setIfInBounds_toArray, List.set_cons_zero, List.set_cons_succ, List.getElem_toArray, List.getElem_cons_succ, List.getElem_cons_zero])
                refine wpAnyH_take (i := 10) (v := ?vq23) rfl (by kernel_rfl) (by kernel_rfl) (by kernel_rfl) (fun _ _ _ h => h) (Or.inl ⟨by rfl, ?yq23⟩) (by assumption) ?_
                case yq23 => (intro w hSw; (try dsimp only at hSw); go_simp; all_goals (with_reducible rfl))
                (try simp only [Act.put, List.setIfInBounds_toArray, List.set_cons_zero, List.set_cons_succ, List.getElem_toArray, List.getElem_cons_succ, List.getElem_cons_zero])
                refine wpAnyH_ready (rs := [11]) (by kernel_rfl) (by simp) ?_
                refine AllReadyH.cons rfl (fun K hK => ?_) ?_
                · obtain ⟨a0, a1, a2⟩ := three_at HX9.out
                  have f0 := frozen_of_row _ _ 0 _ _ HX9.out; have f1 := frozen_of_row _ _ 1 _ _ HX9.out; have f2 := frozen_of_row _ _ 2 _ _ HX9.out
                  go_simp
                  clear a0 a1 a2 f0 f1 f2
                  refine hK.out _ _ (⟨(World.cell?_setCell_other _ _ _ _ (fun e => by injection e with e1 e2 e3; omega)).trans HC9.out.1, (World.cell?_setCell_other _ _ _ _ (fun e => by injection e with e1 e2 e3; omega)).trans HC9.out.2.1, (World.cell?_setCell_other _ _ _ _ (fun e => by injection e with e1 e2 e3; omega)).trans HC9.out.2.2.1, (World.cell?_setCell_other _ _ _ _ (fun e => by injection e with e1 e2 e3; omega)).trans HC9.out.2.2.2.1, (World.cell?_setCell_other _ _ _ _ (fun e => by injection e with e1 e2 e3; omega)).trans HC9.out.2.2.2.2⟩) (fun hHeld => ?_)
                  clear hK K
                  (try simp only [Act.put, List.setIfInBounds_toArray, List.set_cons_zero, List.set_cons_succ, List.getElem_toArray, List.getElem_cons_succ, List.getElem_cons_zero])
                  refine wpAnyH_done (by kernel_rfl) ?_ _
                  have HX10 := Lib.hid (heap_setCell_same _ bs 2 _ _ (.slice (some ⟨g9, 0, none⟩) (k + 1) cap9) HX9.out)
                  have Q10 := Lib.hid (Q9.out.setBelow (p := ⟨bs, 2, none⟩) hbs2 (.slice (some ⟨g9, 0, none⟩) (k + 1) cap9))
                  have G10 := Lib.hid (grown_transx G9.out (grown_set (w := w9) (g := bs) (j := 2) (v := .slice (some ⟨g9, 0, none⟩) (k + 1) cap9)))
                  go_wp2
                  go_roundw
                  case rel => exact ⟨k + 1, by omega, by go_num, _, _, _, HX10.out, by simpa using Q10.out, G10.out⟩
                  case measure => simp [intOf]; omega
                exact AllReadyH.nil
              exact AllReadyH.nil
            exact AllReadyH.nil
          refine AllReadyH.cons rfl (fun K hK => ?_) ?_
          · go_simp
            have FBU := FB_q18
            obtain ⟨wq24, hwq24⟩ : ∃ w', w' = wq17.alloc (.cells #[.slice A9 X.length c9] 24) := ⟨_, rfl⟩
            rw [← hwq24]
            have bq24 : Below wq17.heap.size wq17 wq24 := by rw [hwq24]; exact (Below.refl _ _).alloc (Nat.le_refl _) _
            have HW9 := Lib.hid hwq24
            have OWN2 := Lib.hid (own_below OWN.out bq24 (Nat.le_refl _))
            clear hwq24
            have FB_q25 := Lib.hid ((FB_q18.out).trans ((bq24).mono (FB_q18.out).size))
            have FX_q26 := Lib.hid (((bq24).block _ (Array.getElem?_eq_some_iff.1 (FX_q19.out)).1).trans (FX_q19.out))
            clear FB_q18 FX_q19
            clear bq24
            refine hK.out _ _ (HSY.out _ FB_q25.out) (fun hHeld => ?_)
            clear hK K
            (try simp only [Act.put, List.setIfInBounds_toArray, List.set_cons_zero, List.set_cons_succ, List.getElem_toArray, List.getElem_cons_succ, List.getElem_cons_zero])
            refine wpAnyH_ready (rs := [1]) (by kernel_rfl) (by simp) ?_
            refine AllReadyH.cons rfl (fun K hK => ?_) ?_
            · obtain ⟨q0, q1, q2⟩ := three_at FX_q26.out
              go_simp
              clear q0 q1 q2
              refine hK.out _ _ (hHeld) (fun hHeld => ?_)
              clear hK K
              (try simp only [Act.put, List.setIfInBounds_toArray, List.set_cons_zero, List.set_cons_succ, List.getElem_toArray, List.getElem_cons_succ, List.getElem_cons_zero])
              refine wpAnyH_ready (rs := [9]) (by kernel_rfl) (by simp) ?_
              refine AllReadyH.cons rfl (fun K hK => ?_) ?_
              · have OW := Lib.hid (HQ.out.below FB_q25.out)
                have hz9 := FB_q25.out.size
                obtain ⟨H8, hH8⟩ : ∃ q, wq24.heap.size = q := ⟨_, rfl⟩
                have HN9 := Lib.hid (cell_one_new wq17 (.slice A9 X.length c9) 24)
                rw [← HW9.out] at HN9
                have OWO := OW.out.outer
                rw [HPLN.out] at OWO
                refine step_append_lies _ rfl _ _ 22 rfl w2.heap.size 24 i4 (.slice none 0 0) 1 24 Tryz.underlying22 HI4.out HZ40.out HZ41.out HZ42.out rfl (by decide) _ _ _ rfl OWO ⟨wq17.heap.size, 0, none⟩ 1 1 [.slice A9 X.length c9] rfl rfl HN9.out (by intro u hu; simp at hu; subst hu; rfl) (by decide) (by simp only [maxLen]; (try dsimp only); omega) (by (try dsimp only); omega) (by omega) H8 hH8 ?_
                intro g9 cap9 w9 hown9 hgrow9 hat9 hlt9
                have q9 := OwnQ.push (hi' := w9.heap.size) OW.out (OWN2.out.mono (by omega)) (fun b e => (OWN2.out.lt b e).1) (by rw [HPLN.out]; exact hown9) hgrow9 (at_own (hat9.imp id (fun z => z.trans hH8.symm))) hz9 (Nat.le_refl _)
                rw [← HPS.out] at q9
                have hbx9 := (hgrow9.block bs (by omega) (fun e => by have := (OW.out.outer.lt bs e.symm).1; omega)).trans ((FB_q25.out.block bs hbsr).trans HBOX.out)
                have hg9 : w2.grownBy w9 (some bs) := ⟨hgrow9.os.trans (FB_q25.out.os.trans HG.out.os), hgrow9.tape.trans (FB_q25.out.tape.trans HG.out.tape), hgrow9.output.trans (FB_q25.out.output.trans HG.out.output), Nat.le_trans HG.out.size (Nat.le_trans hz9 hgrow9.size), fun z hz hne => (hgrow9.block z (by omega) (fun e => by have := (OW.out.outer.lt z e.symm).1; omega)).trans ((FB_q25.out.block z (by omega)).trans (HG.out.block z hz hne))⟩
                have hs9 := HSY.out _ FB_q25.out
                have cc := fun (b off : Nat) (hb : b < w2.heap.size) => World.cell?_of_block (a := ⟨b, off, none⟩) (hgrow9.block b (by omega) (fun e => by have := (OW.out.outer.lt b e.symm).1; omega))
                have HC9 := Lib.hid (And.intro ((cc w.heap.size 1 (by omega)).trans hs9.1) (And.intro ((cc bL (oL + j * 4) (by omega)).trans hs9.2.1) (And.intro ((cc bL (oL + j * 4 + 1) (by omega)).trans hs9.2.2.1) (And.intro ((cc bL (oL + j * 4 + 2) (by omega)).trans hs9.2.2.2.1) ((cc bL (oL + j * 4 + 3) (by omega)).trans hs9.2.2.2.2)))))
                have Q9 := Lib.hid q9; have HX9 := Lib.hid hbx9; have G9 := Lib.hid hg9
                clear q9 hbx9 hg9 hown9 hgrow9 hat9 hlt9 hH8 OW OWO hs9 cc
                refine hK.out _ _ (HC9.out) (fun hHeld => ?_)
                clear hK K
                (try simp only [Act.put, List.setIfInBounds_toArray, List.set_cons_zero, List.set_cons_succ, List.getElem_toArray, List.getElem_cons_succ, List.getElem_cons_zero])
                refine wpAnyH_take (i := 10) (v := ?vq27) rfl (by kernel_rfl) (by kernel_rfl) (by kernel_rfl) (fun _ _ _ h => h) (Or.inl ⟨by rfl, ?yq27⟩) (by assumption) ?_
                case yq27 => (intro w hSw; (try dsimp only at hSw); go_simp; all_goals (with_reducible rfl))
                (try simp only [Act.put, List.setIfInBounds_toArray, List.set_cons_zero, List.set_cons_succ, List.getElem_toArray, List.getElem_cons_succ, List.getElem_cons_zero])
                refine wpAnyH_ready (rs := [11]) (by kernel_rfl) (by simp) ?_
                refine AllReadyH.cons rfl (fun K hK => ?_) ?_
                · obtain ⟨a0, a1, a2⟩ := three_at HX9.out
                  have f0 := frozen_of_row _ _ 0 _ _ HX9.out; have f1 := frozen_of_row _ _ 1 _ _ HX9.out; have f2 := frozen_of_row _ _ 2 _ _ HX9.out
                  go_simp
                  clear a0 a1 a2 f0 f1 f2
                  refine hK.out _ _ (⟨(World.cell?_setCell_other _ _ _ _ (fun e => by injection e with e1 e2 e3; omega)).trans HC9.out.1, (World.cell?_setCell_other _ _ _ _ (fun e => by injection e with e1 e2 e3; omega)).trans HC9.out.2.1, (World.cell?_setCell_other _ _ _ _ (fun e => by injection e with e1 e2 e3; omega)).trans HC9.out.2.2.1, (World.cell?_setCell_other _ _ _ _ (fun e => by injection e with e1 e2 e3; omega)).trans HC9.out.2.2.2.1, (World.cell?_setCell_other _ _ _ _ (fun e => by injection e with e1 e2 e3; omega)).trans HC9.out.2.2.2.2⟩) (fun hHeld => ?_)
                  clear hK K
                  (try simp only [Act.put, List.setIfInBounds_toArray, List.set_cons_zero, List.set_cons_succ, List.getElem_toArray, List.getElem_cons_succ, List.getElem_cons_zero])
                  refine wpAnyH_done (by kernel_rfl) ?_ _
                  have HX10 := Lib.hid (heap_setCell_same _ bs 2 _ _ (.slice (some ⟨g9, 0, none⟩) (k + 1) cap9) HX9.out)
                  have Q10 := Lib.hid (Q9.out.setBelow (p := ⟨bs, 2, none⟩) hbs2 (.slice (some ⟨g9, 0, none⟩) (k + 1) cap9))
                  have G10 := Lib.hid (grown_transx G9.out (grown_set (w := w9) (g := bs) (j := 2) (v := .slice (some ⟨g9, 0, none⟩) (k + 1) cap9)))
                  go_wp2
                  go_roundw
                  case rel => exact ⟨k + 1, by omega, by go_num, _, _, _, HX10.out, by simpa using Q10.out, G10.out⟩
                  case measure => simp [intOf]; omega
                exact AllReadyH.nil
              exact AllReadyH.nil
            exact AllReadyH.nil
          exact AllReadyH.nil
        exact AllReadyH.nil
      · have hkl : k = (prkN N).length := by omega
        subst hkl
        have hs02 := B2.out.size
        have hres := (hg.block (w.heap.size + 1) (by omega) (fun e => by injection e with e; omega)).trans (HK2.out _ B2.out)
        have oar := own_same OA2.out fun z hz => hg.block z (OA2.out.lt z hz).2 (fun e => by injection e with e; exact own_apartG OA2.out hz BX2.out (by decide) e)
        obtain ⟨x0, x1, x2⟩ := three_at hbox
        obtain ⟨a0, a1, a2⟩ := three_at hres
        have f0 := frozen_of_row _ _ 0 _ _ hres; have f1 := frozen_of_row _ _ 1 _ _ hres; have f2 := frozen_of_row _ _ 2 _ _ hres
        have HRES := Lib.hid hres
        have hW : Below w.heap.size w wr := HB0.out.trans ((B2.out.grown hg hs02 (fun q hq => by injection hq with hq; omega)).mono HB0.out.size)
        have HQ := Lib.hid hq; have HOR := Lib.hid oar; have HWW := Lib.hid hW
        have HPL := Lib.hid (pairsU_len N (prkN N).length)
        clear hbox hq hg hcellk hres oar hW
        go_wp2
        (try simp only [Exit.inBlock, Exit.then])
        refine bodyPost_ret (results_cell_row rfl _ _ (w.heap.size + 1) _ _ (0, 0) _ rfl (set3_at HRES.out _ _ _) Tryz.underlying88 rfl (by kernel_rfl)) rfl ?_
        refine ⟨A, c, P, d, hs, by rw [HARE.out], ?_, ?_, ?_⟩
        · rw [HARE.out]
          exact (own_set3 HOR.out HRES.out (by decide) _ _ _).mono (by omega)
        · exact (((HQ.out.setBelow (p := ⟨w.heap.size + 1, 0, none⟩) (by show w.heap.size + 1 < _; omega) _).setBelow (p := ⟨w.heap.size + 1, 1, none⟩) (by show w.heap.size + 1 < _; omega) _).setBelow (p := ⟨w.heap.size + 1, 2, none⟩) (by show w.heap.size + 1 < _; omega) _).more (by omega) (by simp)
        · exact ((HWW.out.setCell (p := ⟨w.heap.size + 1, 0, none⟩) (by show w.heap.size ≤ w.heap.size + 1; omega) _).setCell (p := ⟨w.heap.size + 1, 1, none⟩) (by show w.heap.size ≤ w.heap.size + 1; omega) _).setCell (p := ⟨w.heap.size + 1, 2, none⟩) (by show w.heap.size ≤ w.heap.size + 1; omega) _
end Go.Proofs.YtfdpkhiiboghiaaGreatDoor
