/- The program's binding.with. -/
import Derived.Test.YtoniekjchabjlaaDoorBndG
import Derived.Deep.MidRow
namespace Go.Proofs.YtoniekjchabjlaaDoor
open Go.ChangeAt Go.ChangeShapes Go.RowKit Go.WideShapes

/-- What 'with' leaves: the binding with the formula D in the place of the atom j, unless another formula has this place already. -/
def GivesW (w : World) (lo : Nat) (out : List (List Int)) (j : Nat) (D : List Int) (e : Ending) (w' : World) : Prop :=
  ∃ hs' out' b, e = .returned (.tuple #[.agg (rowV hs' out').toArray, .bool b]) ∧ PartsO w' lo w'.heap.size hs' out' ∧ Below w.heap.size w w' ∧ out'.length = 8 ∧
    (b = true → ¬ (0 < (out.getD j []).length ∧ out.getD j [] ≠ D) ∧ out' = out.set j D) ∧ (b = false → 0 < (out.getD j []).length ∧ out.getD j [] ≠ D)
theorem set_self' (q : List (List Int)) (j : Nat) : q.set j (q.getD j []) = q := by
  by_cases h : j < q.length
  · have e : q.getD j [] = q[j] := by simp [List.getD, h]
    rw [e]; exact List.set_getElem_self h
  · exact List.set_eq_of_length_le (by omega)
theorem two_boxesB (w : World) (cs ds : Array Value) : Below w.heap.size w ((w.alloc (.cells cs 62)).alloc (.cells ds 62)) ∧ ((w.alloc (.cells cs 62)).alloc (.cells ds 62)).heap.size = w.heap.size + 2 := by
  refine ⟨((Below.refl _ _).alloc (Nat.le_refl _) _).alloc (by simp) _, by simp⟩

set_option linter.unusedSimpArgs false in
set_option maxRecDepth 100000 in
set_option maxHeartbeats 8000000 in
theorem with_any (hs : Nat → Option Addr × Nat) (out : List (List Int)) (x : Int) (j : Nat) (A : Option Addr) (n c : Nat) (C : List Int) (D : List Int) (w : World) (lo : Nat) (h : PartsO w lo w.heap.size hs out) (h8 : out.length = 8) (hx : leafB x = true) (hj : j = x.natAbs - 1) (hr : RdI w w.heap.size A n C) (hnc : n ≤ c) (hv : validB C = true) (hD : D = if x < 0 then dualL C else C) (hsm : ∀ q ∈ out, q.length ≤ 24) (hlo : lo ≤ w.heap.size) (ht : Arit w) (hu : Dual w) :
    Calls Tryd.prog 58 #[.agg (rowV hs out).toArray, .int .i64 x, .slice A n c] w (GivesW w lo out j D) := by
  have hl := hr.len
  subst hl
  have hrg := leaf_range hx
  have hvl := valid_len hv
  have hidx : IntKind.i64.wrap (((x.natAbs : Nat) : Int) - 1) = (j : Int) := by
    rw [IntWalk.i64_in _ (by omega)]; omega
  have hj8 : j < 8 := by omega
  have hj8' : (j : Int) < 8 := by omega
  have hD1 : 1 ≤ D.length ∧ D.length ≤ 24 := by
    rw [hD]
    split
    · rw [dualL_yes hv, List.length_map]; omega
    · omega
  obtain ⟨u, hu0⟩ : ∃ u, u = (w.alloc (.cells (rowV hs out).toArray 62)).alloc (.cells #[Value.slice none 0 0, Value.slice none 0 0, Value.slice none 0 0, Value.slice none 0 0, Value.slice none 0 0, Value.slice none 0 0, Value.slice none 0 0, Value.slice none 0 0] 62) := ⟨_, rfl⟩
  obtain ⟨hb, hsz⟩ := two_boxesB w (rowV hs out).toArray #[Value.slice none 0 0, Value.slice none 0 0, Value.slice none 0 0, Value.slice none 0 0, Value.slice none 0 0, Value.slice none 0 0, Value.slice none 0 0, Value.slice none 0 0]
  obtain ⟨hg3, hg6⟩ := two_heap w (.cells (rowV hs out).toArray 62) (.cells #[Value.slice none 0 0, Value.slice none 0 0, Value.slice none 0 0, Value.slice none 0 0, Value.slice none 0 0, Value.slice none 0 0, Value.slice none 0 0, Value.slice none 0 0] 62)
  rw [← hu0] at hb hsz hg3 hg6
  have HU0 := Lib.hid hu0; have HBU := Lib.hid hb; have HSU := Lib.hid hsz; have HG3 := Lib.hid hg3; have HG6 := Lib.hid hg6; have HP := Lib.hid h; have HRV := Lib.hid ((hr.below hb).more hb.size)
  have H8 := Lib.hid h8; have HSM := Lib.hid hsm; have HV := Lib.hid hv; have HX := Lib.hid hx
  have HDU := Lib.hid (dualOf_impl A C.length c C u ((hr.below hb).more hb.size) (ht.below hb ht.lt) (hu.below hb hu.lt) hnc)
  have HLO := Lib.hid hlo
  have hpart : Hid ((rowV hs out)[j]? = some (.slice (hs j).1 (out.getD j []).length (hs j).2)) := Lib.hid (rowV_at (by omega))
  have HIN := Lib.hid (h.inner j (by omega))
  have HL8 : Hid ((rowV hs out).length = 8) := Lib.hid (by rw [rowV_len, h8])
  have HONE : Hid ((rowV hs out).toArray.all (·.oneCell') = true) := Lib.hid (by rw [Array.all_eq_true_iff_forall_mem]; intro v hv; exact rowV_one hs out v (by simpa using hv))
  have HE24 : (out.getD j []).length ≤ 24 := hsm _ (getD_mem (by omega))
  clear hu0 hb hsz hg3 hg6 h hr ht hu hv hvl hx hj hrg h8 hsm hlo
  by_cases hxn : x < 0
  · have hdx : decide (x < 0) = true := decide_eq_true hxn
    rw [if_pos hxn] at hD
    rw [← hD] at HDU
    clear hD
    go_enter Tryd.func58, Tryd.ntmps58
    go_upto_region 1 with (fail)
    rw [← HU0.out]
    go_wp2_with (fail)
    refine HDU.out.mono ?_
    rintro e w3 ⟨A3, c3, rfl, o3, bel3⟩
    · have HR3 := Lib.hid (RdI.of_own o3); have HC3 := Lib.hid (own_cap o3).1; have HB3 := Lib.hid bel3
      clear o3 bel3 HDU
      have HBU3 := Lib.hid (HBU.out.trans (HB3.out.mono HBU.out.size))
      have hs3 : w.heap.size + 2 ≤ w3.heap.size := by have := HSU.out; have := HB3.out.size; omega
      have HG33 : Hid (w3.heap[w.heap.size]? = _) := Lib.hid ((HB3.out.block w.heap.size (by have := HSU.out; omega)).trans HG3.out)
      have HG63 : Hid (w3.heap[w.heap.size + 1]? = _) := Lib.hid ((HB3.out.block (w.heap.size + 1) (by have := HSU.out; omega)).trans HG6.out)
      have hc3 : w3.cell? ⟨w.heap.size, j, none⟩ = some (.slice (hs j).1 (out.getD j []).length (hs j).2) := (cell_of_row _ _ j _ _ _ HG33.out).trans (by rw [List.getElem?_toArray]; exact hpart.out)
      have HRE := Lib.hid (((RdI.of_own HIN.out).below HBU3.out).more HBU3.out.size)
      have HP3 := Lib.hid (HP.out.below HBU3.out)
      obtain ⟨E, hE⟩ : ∃ E, out.getD j [] = E := ⟨_, rfl⟩
      rw [hE] at hc3 HRE HE24
      have HEE := Lib.hid hE
      clear hE
      by_cases h0 : 0 < E.length
      · have hd0 : decide (0 < (E.length : Int)) = true := decide_eq_true (by omega)
        have HQ := Lib.hid (fun (wx : World) (bx : Below w3.heap.size w3 wx) => equal_d (hs j).1 A3 E.length D.length (hs j).2 c3 E D wx _ _ ((HRE.out.below bx).more bx.size) ((HR3.out.below bx).more bx.size) (by omega) (by omega))
        go_upto_region 5 with (go_at_call 72; refine (atomOf_any x _ HX.out).mono ?_; rintro e w' ⟨rfl, rfl⟩)
        have HSX : Hid (∀ wx, Below w3.heap.size w3 wx → wx.rangeAt w.heap.size 0 (rowV hs out)) := Lib.hid fun wx bx k v hk => by
          rw [Nat.zero_add]
          exact (cell_of_row _ _ k _ _ _ ((bx.block _ (by omega)).trans HG33.out)).trans (by rw [List.getElem?_toArray]; exact hk)
        have K0 := Lib.hid (HSX.out w3 (Below.refl _ _))
        clear hc3
        refine wp_region_held_drew (S := fun wx => wx.rangeAt w.heap.size 0 (rowV hs out)) (by kernel_rfl) K0.out (fun hHeld => ?_)
        refine wpAnyH_take (i := 0) (v := .agg (rowV hs out).toArray) rfl (by kernel_rfl) (by kernel_rfl) (by kernel_rfl) (fun _ _ _ h => h) (yieldsIf_load_mid (by rfl) _ _ rfl _ _ rfl _ _ (fun wx h => h) Tryd.underlying62 rfl (by rw [HL8.out]; exact size_bnd)) (by assumption) ?_
        (try simp only [Act.put, List.setIfInBounds_toArray, List.set_cons_zero, List.set_cons_succ])
        refine wpAnyH_take (i := 1) (v := ?v1) rfl (by kernel_rfl) (by kernel_rfl) (by kernel_rfl) (fun _ _ _ h => h) (Or.inl ⟨by rfl, ?y1⟩) (by assumption) ?_
        case y1 => (intro w hSw; (try dsimp only at hSw); go_simp; all_goals (with_reducible rfl))
        (try simp only [Act.put, List.setIfInBounds_toArray, List.set_cons_zero, List.set_cons_succ])
        refine wpAnyH_take (i := 2) (v := ?v2) rfl (by kernel_rfl) (by kernel_rfl) (by kernel_rfl) (fun _ _ _ h => h) (Or.inl ⟨by rfl, ?y2⟩) (by assumption) ?_
        case y2 => (intro w hSw; (try dsimp only at hSw); go_simp; all_goals (with_reducible rfl))
        (try simp only [Act.put, List.setIfInBounds_toArray, List.set_cons_zero, List.set_cons_succ])
        refine wpAnyH_ready (rs := [3]) (by kernel_rfl) (by simp) ?_
        refine AllReadyH.cons rfl (fun K hK => ?_) ?_
        · go_simp
          refine (HQ.out _ ((Below.refl _ _).drew)).mono ?_
          rintro e w4 ⟨rfl, m, hw4⟩
          have b4 : Below w3.heap.size w3 w4 := by rw [hw4]; exact below_drewN ((Below.refl _ _).drew) m
          have HB4 := Lib.hid b4
          clear hw4 b4
          dsimp only
          refine hK.out _ _ (HSX.out _ HB4.out) (fun hHeld => ?_)
          clear hK K
          (try simp only [Act.put, List.setIfInBounds_toArray, List.set_cons_zero, List.set_cons_succ])
          have HG64 : Hid (w4.heap[w.heap.size + 1]? = _) := Lib.hid ((HB4.out.block (w.heap.size + 1) (by omega)).trans HG63.out)
          refine wpAnyH_ready (rs := [4]) (by kernel_rfl) (by simp) ?_
          refine AllReadyH.cons rfl (fun K hK => ?_) ?_
          · rw [if_pos (by rfl)]
            refine wp_store_row _ _ _ rfl (w.heap.size + 1) (rowV hs out).toArray rfl rfl _ _ HG64.out (by rw [List.size_toArray, HL8.out]; exact size_bnd) (by simp [HL8.out]) HONE.out ?_
            obtain ⟨w6, hw6⟩ : ∃ w6, w6 = w4.setRow (w.heap.size + 1) (rowV hs out).toArray := ⟨_, rfl⟩
            have hg6 := setRow_heap w4 (w.heap.size + 1) _ (rowV hs out).toArray _ _ HG64.out
            have b6 := below_setRow (HBU3.out.trans (HB4.out.mono HBU3.out.size)) (g := w.heap.size + 1) (by omega) (rowV hs out).toArray
            have hS6 : (w4.setRow (w.heap.size + 1) (rowV hs out).toArray).rangeAt w.heap.size 0 (rowV hs out) := fun k v hk => by
              rw [Nat.zero_add]
              refine (cell_of_row _ _ k _ _ _ ((setRow_other w4 (w.heap.size + 1) w.heap.size _ (by omega)).trans ((HB4.out.block _ (by omega)).trans HG33.out))).trans ?_
              rw [List.getElem?_toArray]; exact hk
            rw [← hw6] at hg6 b6 hS6 ⊢
            have HG66 := Lib.hid hg6; have HB6 := Lib.hid b6; have HS6 := Lib.hid hS6
            clear hw6 hg6 b6 hS6
            refine hK.out _ _ HS6.out (fun hHeld => ?_)
            clear hK K
            (try simp only [Act.put, List.setIfInBounds_toArray, List.set_cons_zero, List.set_cons_succ])
            refine wpAnyH_ready (rs := [5]) (by kernel_rfl) (by simp) ?_
            refine AllReadyH.cons rfl (fun K hK => ?_) ?_
            · go_simp
              refine hK.out _ _ HS6.out (fun hHeld => ?_)
              clear hK K
              (try simp only [Act.put, List.setIfInBounds_toArray, List.set_cons_zero, List.set_cons_succ])
              refine wpAnyH_done (by kernel_rfl) ?_ _
              go_wp2
              (try simp only [Exit.inBlock, Exit.then])
              refine bodyPost_ret (results_cell_row_tmp rfl _ _ (w.heap.size + 1) _ _ (0, 0) _ rfl HG66.out Tryd.underlying62 rfl (by rw [List.size_toArray, HL8.out]; exact size_bnd)) rfl ?_
              exact ⟨hs, out, decide (E = D), rfl, (HP.out.below HB6.out).more (Nat.le_refl _) HB6.out.size, HB6.out, H8.out, fun hb => by
                have e : E = D := of_decide_eq_true hb
                rw [HEE.out]
                exact ⟨fun hh => hh.2 e, by rw [← e, ← HEE.out]; exact (set_self' _ _).symm⟩, fun hb => by
                have e : ¬ E = D := of_decide_eq_false hb
                rw [HEE.out]
                exact ⟨h0, e⟩⟩
            · exact AllReadyH.nil
          · exact AllReadyH.nil
        · exact AllReadyH.nil
      · have hd0 : decide (0 < (E.length : Int)) = false := decide_eq_false (by omega)
        have HCL := Lib.hid (clone_any (.slice A3 D.length c3) D w3 (Part.of_rd HR3.out (by omega)) (by omega))
        go_wp2_with (first | (go_at_call 72; refine (atomOf_any x _ HX.out).mono ?_; rintro e w' ⟨rfl, rfl⟩) | (go_at_call 49; fail))
        refine HCL.out.mono ?_
        rintro e w5 ⟨A5, c5, rfl, o5, bel5⟩
        have hc5 := (bel5.cell (p := ⟨w.heap.size, j, none⟩) (by show w.heap.size < _; omega)).trans hc3
        have hh5 := (bel5.block w.heap.size (by omega)).trans HG33.out
        have hf5 := frozen_of_row w5 w.heap.size j _ _ hh5
        have hh6 := heap_setCell_same w5 w.heap.size j _ _ (.slice A5 D.length c5) hh5
        have hrs := rowV_set (hs := hs) (qs := out) (k := j) (q := D) (x := (A5, c5)) (by rw [H8.out]; exact hj8)
        have HRS : Hid ((rowV hs out).toArray.setIfInBounds j (.slice A5 D.length c5) = (rowV (upd hs j (A5, c5)) (out.set j D)).toArray) := Lib.hid (by rw [← hrs]; simp)
        have HL9 : Hid ((rowV (upd hs j (A5, c5)) (out.set j D)).length = 8) := Lib.hid (by rw [rowV_len, List.length_set, H8.out])
        have HB5 := Lib.hid (HBU3.out.trans (bel5.mono HBU3.out.size))
        have HP5 := Lib.hid (HP3.out.below bel5)
        have HO5 := Lib.hid o5; have HS35 := Lib.hid bel5.size
        rw [HRS.out] at hh6
        have HH6 := Lib.hid hh6
        have HH56 : Hid ((w5.setCell ⟨w.heap.size, j, none⟩ (.slice A5 D.length c5)).heap[w.heap.size + 1]? = _) := Lib.hid ((Below.heap_setCell _ _ _ _ (by show w.heap.size + 1 ≠ w.heap.size; omega)).trans ((bel5.block (w.heap.size + 1) (by omega)).trans HG63.out))
        have HB6 := Lib.hid (HB5.out.setCell (p := ⟨w.heap.size, j, none⟩) (Nat.le_refl _) (.slice A5 D.length c5))
        clear hh5 hh6 hrs o5 bel5
        go_upto_region 7 with (fail)
        clear hc5 hf5
        obtain ⟨w6, hw6⟩ : ∃ w6, w6 = w5.setCell ⟨w.heap.size, j, none⟩ (.slice A5 D.length c5) := ⟨_, rfl⟩
        have b56 : Below w.heap.size w5 w6 := by rw [hw6]; exact (Below.refl w.heap.size w5).setCell (p := ⟨w.heap.size, j, none⟩) (Nat.le_refl _) _
        have o6 : w6.ownsRow w3.heap.size 2 1 (.slice A5 D.length c5) D.length (D.map (Value.int .i64)) := by
          rw [hw6]
          exact own_same HO5.out (fun k e => Below.heap_setCell _ _ _ _ (by have := (HO5.out.lt k e).1; show k ≠ w.heap.size; omega))
        rw [← hw6] at HH6 HH56 HB6 ⊢
        have hs6 : w5.heap.size ≤ w6.heap.size := by rw [hw6]; simp
        clear hw6
        obtain ⟨w7, hw7⟩ : ∃ w7, w7 = w6.setRow (w.heap.size + 1) (rowV (upd hs j (A5, c5)) (out.set j D)).toArray := ⟨_, rfl⟩
        have hg7 := setRow_heap w6 (w.heap.size + 1) _ (rowV (upd hs j (A5, c5)) (out.set j D)).toArray _ _ HH56.out
        have b67 : Below (w.heap.size + 1) w6 w7 := by rw [hw7]; exact below_setRow (Below.refl _ _) (Nat.le_refl _) _
        have b7 := HB6.out.trans (b67.mono (Nat.le_succ _))
        have o7 : w7.ownsRow w3.heap.size 2 1 (.slice A5 D.length c5) D.length (D.map (Value.int .i64)) := own_same o6 (fun k e => by
          rw [hw7]
          exact setRow_other _ _ _ _ (by have := (o6.lt k e).1; omega))
        have hp7 := ((HP5.out.keep b56 (Nat.le_refl _)).keep (b67.mono (Nat.le_succ _)) (Nat.le_refl _)).set (q := D) (k := j) (a := A5) (c' := c5) (hi' := w7.heap.size) (by rw [H8.out]; exact hj8) (own_base o7 (by have := HLO.out; omega)) (fun b hb => ⟨by have := (o7.lt b hb).1; omega, (o7.lt b hb).2⟩) (by have := b67.size; have := HS35.out; omega)
        rw [← hw7] at hg7
        have HW7 := Lib.hid hw7; have HG7 := Lib.hid hg7; have HB7 := Lib.hid b7; have HP7 := Lib.hid hp7; have HS67 := Lib.hid b67.size
        have HONE7 : Hid ((rowV (upd hs j (A5, c5)) (out.set j D)).toArray.all (·.oneCell') = true) := Lib.hid (by rw [Array.all_eq_true_iff_forall_mem]; intro v hv; exact rowV_one _ _ v (by simpa using hv))
        clear hw7 hg7 b67 b7 hp7 o6 o7 b56
        go_wp2_with (first
          | (refine wpList_load_row rfl _ _ rfl w.heap.size rfl _ _ _ _ HH6.out Tryd.underlying62 rfl (by rw [List.size_toArray, HL9.out]; exact size_bnd) ?_)
          | (refine wpList_store_row rfl _ _ _ rfl (w.heap.size + 1) (rowV (upd hs j (A5, c5)) (out.set j D)).toArray rfl rfl _ _ HH56.out (by rw [List.size_toArray, HL9.out]; exact size_bnd) (by simp [HL9.out]) HONE7.out ?_; rw [← HW7.out]))
        (try simp only [Exit.inBlock, Exit.then])
        refine bodyPost_ret (results_cell_row_tmp rfl _ _ (w.heap.size + 1) _ _ (0, 0) _ rfl HG7.out Tryd.underlying62 rfl (by rw [List.size_toArray, HL9.out]; exact size_bnd)) rfl ?_
        exact ⟨upd hs j (A5, c5), out.set j D, true, rfl, HP7.out, HB7.out, by rw [List.length_set]; exact H8.out, fun _ => ⟨fun hh => h0 (by rw [← HEE.out]; exact hh.1), rfl⟩, fun hb => by cases hb⟩
  · have hdx : decide (x < 0) = false := decide_eq_false hxn
    rw [if_neg hxn] at hD
    subst hD
    go_enter Tryd.func58, Tryd.ntmps58
    go_upto_region 1 with (fail)
    rw [← HU0.out]
    · obtain ⟨w3, hw3⟩ : ∃ w3, u = w3 := ⟨_, rfl⟩
      have HB3 := Lib.hid (Below.refl u.heap.size u)
      rw [hw3] at HBU HSU HG3 HG6 HRV HB3 ⊢
      have HR3 := HRV
      have HC3 := Lib.hid hnc
      clear HDU
      have HBU3 := Lib.hid (HBU.out.trans (HB3.out.mono HBU.out.size))
      have hs3 : w.heap.size + 2 ≤ w3.heap.size := by have := HSU.out; have := HB3.out.size; omega
      have HG33 : Hid (w3.heap[w.heap.size]? = _) := Lib.hid ((HB3.out.block w.heap.size (by have := HSU.out; omega)).trans HG3.out)
      have HG63 : Hid (w3.heap[w.heap.size + 1]? = _) := Lib.hid ((HB3.out.block (w.heap.size + 1) (by have := HSU.out; omega)).trans HG6.out)
      have hc3 : w3.cell? ⟨w.heap.size, j, none⟩ = some (.slice (hs j).1 (out.getD j []).length (hs j).2) := (cell_of_row _ _ j _ _ _ HG33.out).trans (by rw [List.getElem?_toArray]; exact hpart.out)
      have HRE := Lib.hid (((RdI.of_own HIN.out).below HBU3.out).more HBU3.out.size)
      have HP3 := Lib.hid (HP.out.below HBU3.out)
      obtain ⟨E, hE⟩ : ∃ E, out.getD j [] = E := ⟨_, rfl⟩
      rw [hE] at hc3 HRE HE24
      have HEE := Lib.hid hE
      clear hE
      by_cases h0 : 0 < E.length
      · have hd0 : decide (0 < (E.length : Int)) = true := decide_eq_true (by omega)
        have HQ := Lib.hid (fun (wx : World) (bx : Below w3.heap.size w3 wx) => equal_d (hs j).1 A E.length D.length (hs j).2 c E D wx _ _ ((HRE.out.below bx).more bx.size) ((HR3.out.below bx).more bx.size) (by omega) (by omega))
        go_upto_region 5 with (go_at_call 72; refine (atomOf_any x _ HX.out).mono ?_; rintro e w' ⟨rfl, rfl⟩)
        have HSX : Hid (∀ wx, Below w3.heap.size w3 wx → wx.rangeAt w.heap.size 0 (rowV hs out)) := Lib.hid fun wx bx k v hk => by
          rw [Nat.zero_add]
          exact (cell_of_row _ _ k _ _ _ ((bx.block _ (by omega)).trans HG33.out)).trans (by rw [List.getElem?_toArray]; exact hk)
        have K0 := Lib.hid (HSX.out w3 (Below.refl _ _))
        clear hc3
        refine wp_region_held_drew (S := fun wx => wx.rangeAt w.heap.size 0 (rowV hs out)) (by kernel_rfl) K0.out (fun hHeld => ?_)
        refine wpAnyH_take (i := 0) (v := .agg (rowV hs out).toArray) rfl (by kernel_rfl) (by kernel_rfl) (by kernel_rfl) (fun _ _ _ h => h) (yieldsIf_load_mid (by rfl) _ _ rfl _ _ rfl _ _ (fun wx h => h) Tryd.underlying62 rfl (by rw [HL8.out]; exact size_bnd)) (by assumption) ?_
        (try simp only [Act.put, List.setIfInBounds_toArray, List.set_cons_zero, List.set_cons_succ])
        refine wpAnyH_take (i := 1) (v := ?v3) rfl (by kernel_rfl) (by kernel_rfl) (by kernel_rfl) (fun _ _ _ h => h) (Or.inl ⟨by rfl, ?y3⟩) (by assumption) ?_
        case y3 => (intro w hSw; (try dsimp only at hSw); go_simp; all_goals (with_reducible rfl))
        (try simp only [Act.put, List.setIfInBounds_toArray, List.set_cons_zero, List.set_cons_succ])
        refine wpAnyH_take (i := 2) (v := ?v4) rfl (by kernel_rfl) (by kernel_rfl) (by kernel_rfl) (fun _ _ _ h => h) (Or.inl ⟨by rfl, ?y4⟩) (by assumption) ?_
        case y4 => (intro w hSw; (try dsimp only at hSw); go_simp; all_goals (with_reducible rfl))
        (try simp only [Act.put, List.setIfInBounds_toArray, List.set_cons_zero, List.set_cons_succ])
        refine wpAnyH_ready (rs := [3]) (by kernel_rfl) (by simp) ?_
        refine AllReadyH.cons rfl (fun K hK => ?_) ?_
        · go_simp
          refine (HQ.out _ ((Below.refl _ _).drew)).mono ?_
          rintro e w4 ⟨rfl, m, hw4⟩
          have b4 : Below w3.heap.size w3 w4 := by rw [hw4]; exact below_drewN ((Below.refl _ _).drew) m
          have HB4 := Lib.hid b4
          clear hw4 b4
          dsimp only
          refine hK.out _ _ (HSX.out _ HB4.out) (fun hHeld => ?_)
          clear hK K
          (try simp only [Act.put, List.setIfInBounds_toArray, List.set_cons_zero, List.set_cons_succ])
          have HG64 : Hid (w4.heap[w.heap.size + 1]? = _) := Lib.hid ((HB4.out.block (w.heap.size + 1) (by omega)).trans HG63.out)
          refine wpAnyH_ready (rs := [4]) (by kernel_rfl) (by simp) ?_
          refine AllReadyH.cons rfl (fun K hK => ?_) ?_
          · rw [if_pos (by rfl)]
            refine wp_store_row _ _ _ rfl (w.heap.size + 1) (rowV hs out).toArray rfl rfl _ _ HG64.out (by rw [List.size_toArray, HL8.out]; exact size_bnd) (by simp [HL8.out]) HONE.out ?_
            obtain ⟨w6, hw6⟩ : ∃ w6, w6 = w4.setRow (w.heap.size + 1) (rowV hs out).toArray := ⟨_, rfl⟩
            have hg6 := setRow_heap w4 (w.heap.size + 1) _ (rowV hs out).toArray _ _ HG64.out
            have b6 := below_setRow (HBU3.out.trans (HB4.out.mono HBU3.out.size)) (g := w.heap.size + 1) (by omega) (rowV hs out).toArray
            have hS6 : (w4.setRow (w.heap.size + 1) (rowV hs out).toArray).rangeAt w.heap.size 0 (rowV hs out) := fun k v hk => by
              rw [Nat.zero_add]
              refine (cell_of_row _ _ k _ _ _ ((setRow_other w4 (w.heap.size + 1) w.heap.size _ (by omega)).trans ((HB4.out.block _ (by omega)).trans HG33.out))).trans ?_
              rw [List.getElem?_toArray]; exact hk
            rw [← hw6] at hg6 b6 hS6 ⊢
            have HG66 := Lib.hid hg6; have HB6 := Lib.hid b6; have HS6 := Lib.hid hS6
            clear hw6 hg6 b6 hS6
            refine hK.out _ _ HS6.out (fun hHeld => ?_)
            clear hK K
            (try simp only [Act.put, List.setIfInBounds_toArray, List.set_cons_zero, List.set_cons_succ])
            refine wpAnyH_ready (rs := [5]) (by kernel_rfl) (by simp) ?_
            refine AllReadyH.cons rfl (fun K hK => ?_) ?_
            · go_simp
              refine hK.out _ _ HS6.out (fun hHeld => ?_)
              clear hK K
              (try simp only [Act.put, List.setIfInBounds_toArray, List.set_cons_zero, List.set_cons_succ])
              refine wpAnyH_done (by kernel_rfl) ?_ _
              go_wp2
              (try simp only [Exit.inBlock, Exit.then])
              refine bodyPost_ret (results_cell_row_tmp rfl _ _ (w.heap.size + 1) _ _ (0, 0) _ rfl HG66.out Tryd.underlying62 rfl (by rw [List.size_toArray, HL8.out]; exact size_bnd)) rfl ?_
              exact ⟨hs, out, decide (E = D), rfl, (HP.out.below HB6.out).more (Nat.le_refl _) HB6.out.size, HB6.out, H8.out, fun hb => by
                have e : E = D := of_decide_eq_true hb
                rw [HEE.out]
                exact ⟨fun hh => hh.2 e, by rw [← e, ← HEE.out]; exact (set_self' _ _).symm⟩, fun hb => by
                have e : ¬ E = D := of_decide_eq_false hb
                rw [HEE.out]
                exact ⟨h0, e⟩⟩
            · exact AllReadyH.nil
          · exact AllReadyH.nil
        · exact AllReadyH.nil
      · have hd0 : decide (0 < (E.length : Int)) = false := decide_eq_false (by omega)
        have HCL := Lib.hid (clone_any (.slice A D.length c) D w3 (Part.of_rd HR3.out (by omega)) (by omega))
        go_wp2_with (first | (go_at_call 72; refine (atomOf_any x _ HX.out).mono ?_; rintro e w' ⟨rfl, rfl⟩) | (go_at_call 49; fail))
        refine HCL.out.mono ?_
        rintro e w5 ⟨A5, c5, rfl, o5, bel5⟩
        have hc5 := (bel5.cell (p := ⟨w.heap.size, j, none⟩) (by show w.heap.size < _; omega)).trans hc3
        have hh5 := (bel5.block w.heap.size (by omega)).trans HG33.out
        have hf5 := frozen_of_row w5 w.heap.size j _ _ hh5
        have hh6 := heap_setCell_same w5 w.heap.size j _ _ (.slice A5 D.length c5) hh5
        have hrs := rowV_set (hs := hs) (qs := out) (k := j) (q := D) (x := (A5, c5)) (by rw [H8.out]; exact hj8)
        have HRS : Hid ((rowV hs out).toArray.setIfInBounds j (.slice A5 D.length c5) = (rowV (upd hs j (A5, c5)) (out.set j D)).toArray) := Lib.hid (by rw [← hrs]; simp)
        have HL9 : Hid ((rowV (upd hs j (A5, c5)) (out.set j D)).length = 8) := Lib.hid (by rw [rowV_len, List.length_set, H8.out])
        have HB5 := Lib.hid (HBU3.out.trans (bel5.mono HBU3.out.size))
        have HP5 := Lib.hid (HP3.out.below bel5)
        have HO5 := Lib.hid o5; have HS35 := Lib.hid bel5.size
        rw [HRS.out] at hh6
        have HH6 := Lib.hid hh6
        have HH56 : Hid ((w5.setCell ⟨w.heap.size, j, none⟩ (.slice A5 D.length c5)).heap[w.heap.size + 1]? = _) := Lib.hid ((Below.heap_setCell _ _ _ _ (by show w.heap.size + 1 ≠ w.heap.size; omega)).trans ((bel5.block (w.heap.size + 1) (by omega)).trans HG63.out))
        have HB6 := Lib.hid (HB5.out.setCell (p := ⟨w.heap.size, j, none⟩) (Nat.le_refl _) (.slice A5 D.length c5))
        clear hh5 hh6 hrs o5 bel5
        go_upto_region 7 with (fail)
        clear hc5 hf5
        obtain ⟨w6, hw6⟩ : ∃ w6, w6 = w5.setCell ⟨w.heap.size, j, none⟩ (.slice A5 D.length c5) := ⟨_, rfl⟩
        have b56 : Below w.heap.size w5 w6 := by rw [hw6]; exact (Below.refl w.heap.size w5).setCell (p := ⟨w.heap.size, j, none⟩) (Nat.le_refl _) _
        have o6 : w6.ownsRow w3.heap.size 2 1 (.slice A5 D.length c5) D.length (D.map (Value.int .i64)) := by
          rw [hw6]
          exact own_same HO5.out (fun k e => Below.heap_setCell _ _ _ _ (by have := (HO5.out.lt k e).1; show k ≠ w.heap.size; omega))
        rw [← hw6] at HH6 HH56 HB6 ⊢
        have hs6 : w5.heap.size ≤ w6.heap.size := by rw [hw6]; simp
        clear hw6
        obtain ⟨w7, hw7⟩ : ∃ w7, w7 = w6.setRow (w.heap.size + 1) (rowV (upd hs j (A5, c5)) (out.set j D)).toArray := ⟨_, rfl⟩
        have hg7 := setRow_heap w6 (w.heap.size + 1) _ (rowV (upd hs j (A5, c5)) (out.set j D)).toArray _ _ HH56.out
        have b67 : Below (w.heap.size + 1) w6 w7 := by rw [hw7]; exact below_setRow (Below.refl _ _) (Nat.le_refl _) _
        have b7 := HB6.out.trans (b67.mono (Nat.le_succ _))
        have o7 : w7.ownsRow w3.heap.size 2 1 (.slice A5 D.length c5) D.length (D.map (Value.int .i64)) := own_same o6 (fun k e => by
          rw [hw7]
          exact setRow_other _ _ _ _ (by have := (o6.lt k e).1; omega))
        have hp7 := ((HP5.out.keep b56 (Nat.le_refl _)).keep (b67.mono (Nat.le_succ _)) (Nat.le_refl _)).set (q := D) (k := j) (a := A5) (c' := c5) (hi' := w7.heap.size) (by rw [H8.out]; exact hj8) (own_base o7 (by have := HLO.out; omega)) (fun b hb => ⟨by have := (o7.lt b hb).1; omega, (o7.lt b hb).2⟩) (by have := b67.size; have := HS35.out; omega)
        rw [← hw7] at hg7
        have HW7 := Lib.hid hw7; have HG7 := Lib.hid hg7; have HB7 := Lib.hid b7; have HP7 := Lib.hid hp7; have HS67 := Lib.hid b67.size
        have HONE7 : Hid ((rowV (upd hs j (A5, c5)) (out.set j D)).toArray.all (·.oneCell') = true) := Lib.hid (by rw [Array.all_eq_true_iff_forall_mem]; intro v hv; exact rowV_one _ _ v (by simpa using hv))
        clear hw7 hg7 b67 b7 hp7 o6 o7 b56
        go_wp2_with (first
          | (refine wpList_load_row rfl _ _ rfl w.heap.size rfl _ _ _ _ HH6.out Tryd.underlying62 rfl (by rw [List.size_toArray, HL9.out]; exact size_bnd) ?_)
          | (refine wpList_store_row rfl _ _ _ rfl (w.heap.size + 1) (rowV (upd hs j (A5, c5)) (out.set j D)).toArray rfl rfl _ _ HH56.out (by rw [List.size_toArray, HL9.out]; exact size_bnd) (by simp [HL9.out]) HONE7.out ?_; rw [← HW7.out]))
        (try simp only [Exit.inBlock, Exit.then])
        refine bodyPost_ret (results_cell_row_tmp rfl _ _ (w.heap.size + 1) _ _ (0, 0) _ rfl HG7.out Tryd.underlying62 rfl (by rw [List.size_toArray, HL9.out]; exact size_bnd)) rfl ?_
        exact ⟨upd hs j (A5, c5), out.set j D, true, rfl, HP7.out, HB7.out, by rw [List.length_set]; exact H8.out, fun _ => ⟨fun hh => h0 (by rw [← HEE.out]; exact hh.1), rfl⟩, fun hb => by cases hb⟩
end Go.Proofs.YtoniekjchabjlaaDoor
