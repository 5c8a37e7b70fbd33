/- The program's netOfLinks. Made by mksqh.py. -/
import Derived.Test.YtfdpkhiiboghiaaGreatDoorKQNetN
import Derived.Maps.AppendAt
import Derived.Deep.RegionHeldLaw
import Derived.Deep.DeepCutAuto
import Derived.BigQuiet
namespace Go.Proofs.YtfdpkhiiboghiaaGreatDoor
set_option linter.unusedSimpArgs false
set_option linter.unusedVariables false
set_option linter.unusedSimpArgs false
set_option linter.unusedVariables false
open Go.ChangeAt Go.ChangeShapes Go.RowKit Go.WideShapes

theorem FarN.nilQ (b : Nat) : FarN NH.nil Nt.nil b := ⟨(by intro e; cases e), (fun i hi => by exact absurd hi (by simp [Nt.nil])), (by intro e; cases e), (by intro e; cases e)⟩
theorem PlSt.newQ (w : World) : PlSt w (w.alloc (.cells #[.slice none 0 0, .slice none 0 0, .slice none 0 0] 30)) (w.alloc (.cells #[.slice none 0 0, .slice none 0 0, .slice none 0 0] 30)) w.heap.size NH.nil Nt.nil NH.nil Nt.nil where
  own := OwnN.nil _ _ _
  far b _ _ := FarN.nilQ b
  keep b _ _ _ := rfl
  box := heap_alloc_new _ _
  bel := (Below.refl _ _).alloc (Nat.le_refl _) _
  size := Nat.le_refl _
  sxl := by simp
  sxf := FarN.nilQ _
  sxb := Nat.le_refl _
theorem oneQ (w : World) (v : Value) (t : TypeId) : ∀ j u, [v][j]? = some u → (w.alloc (.cells #[v] t)).cell? ((⟨w.heap.size, 0, none⟩ : Addr).add j) = some u := by
  intro j u hu
  match j, hu with
  | 0, hu => obtain rfl := Option.some.inj hu; simp [Addr.add]
  | k + 1, hu => simp at hu
theorem fourQ (w : World) (a b c d : Value) (t : TypeId) : ∀ j u, [a, b, c, d][j]? = some u → (w.alloc (.cells #[a, b, c, d] t)).cell? ((⟨w.heap.size, 0, none⟩ : Addr).add j) = some u := by
  intro j u hu
  have ea : (⟨w.heap.size, 0, none⟩ : Addr).add j = ⟨w.heap.size, j, none⟩ := by simp [Addr.add]; omega
  rw [ea, cell_of_row _ _ j _ _ (0, 0) (heap_alloc_new w _)]
  simpa using hu
/-- What netOfLinks holds. -/
def NlSt (w1 : World) (sx : Nat) (M : Nt) (wx : World) : Prop := ∃ (w2 : World) (h : NH), PlSt w1 w2 wx sx NH.nil Nt.nil h M
/-- The parts of the net so far. -/
def nlW (N : Nt) (KW : List Int) (k : Nat) : List (List Int) := (KW.take k).map fun x => N.w.getD x.toNat []
def nlL (N : Nt) (K : Nat → Bool) (ks : List Int) (k : Nat) : List Lk := (ks.take k).map fun j => rnL N K (N.l.getD j.toNat Lk.nil)
def nlC (N : Nt) (K : Nat → Bool) (cs : List Int) (k : Nat) : List Int := (cs.take k).map (nmW N K)
theorem nlW_succ {N : Nt} {KW : List Int} {k : Nat} (h : k < KW.length) : nlW N KW (k + 1) = nlW N KW k ++ [N.w.getD (KW.getD k 0).toNat []] := by unfold nlW; rw [takeL_succ (d := (0 : Int)) h, List.map_append]; rfl
theorem nlL_succ {N : Nt} {K : Nat → Bool} {ks : List Int} {k : Nat} (h : k < ks.length) : nlL N K ks (k + 1) = nlL N K ks k ++ [rnL N K (N.l.getD (ks.getD k 0).toNat Lk.nil)] := by unfold nlL; rw [takeL_succ (d := (0 : Int)) h, List.map_append]; rfl
theorem nlC_succ {N : Nt} {K : Nat → Bool} {cs : List Int} {k : Nat} (h : k < cs.length) : nlC N K cs (k + 1) = nlC N K cs k ++ [nmW N K (cs.getD k 0)] := by unfold nlC; rw [takeL_succ (d := (0 : Int)) h, List.map_append]; rfl
theorem nlW_len (N : Nt) (KW : List Int) (k : Nat) : (nlW N KW k).length ≤ KW.length := by unfold nlW; rw [List.length_map, List.length_take]; omega
theorem nlL_len (N : Nt) (K : Nat → Bool) (ks : List Int) (k : Nat) : (nlL N K ks k).length ≤ ks.length := by unfold nlL; rw [List.length_map, List.length_take]; omega
theorem nlC_len (N : Nt) (K : Nat → Bool) (cs : List Int) (k : Nat) : (nlC N K cs k).length ≤ cs.length := by unfold nlC; rw [List.length_map, List.length_take]; omega
theorem nl_end (N : Nt) (K : Nat → Bool) (cs : List Int) : (⟨nlW N (kpW N K N.w.length) (kpW N K N.w.length).length, nlL N K (selU K N.l.length) (selU K N.l.length).length, nlC N K cs cs.length⟩ : Nt) = cutN N K cs := by
  unfold nlW nlL nlC cutN cutW cutL
  rw [List.take_length, List.take_length, List.take_length]
theorem nlDone {w w0 u : World} {N : Nt} {h : NH} (hb : Below w.heap.size w w0) (b4 : Below w0.heap.size w0 u) (o : OwnN u w0.heap.size u.heap.size h N) (hs : w.heap.size + 2 ≤ w0.heap.size) :
    CopiedN w N (.returned (.agg #[.slice h.A N.w.length h.c, .slice h.L N.l.length h.d, .slice h.C N.c.length h.e])) (((u.setCell ⟨w.heap.size + 1, 0, none⟩ (.slice h.A N.w.length h.c)).setCell ⟨w.heap.size + 1, 1, none⟩ (.slice h.L N.l.length h.d)).setCell ⟨w.heap.size + 1, 2, none⟩ (.slice h.C N.c.length h.e)) :=
  ⟨h, rfl, (own_setN (own_setN (own_setN o (by omega) _) (by omega) _) (by omega) _).more (by omega) (by simp), set3_below (hb.trans (b4.mono hb.size)) (show w.heap.size ≤ w.heap.size + 1 by omega) _ _ _⟩
theorem copied_eq {w w' : World} {N N' : Nt} {e : Ending} (h : N = N') (c : CopiedN w N e w') : CopiedN w N' e w' := h ▸ c
theorem flL_appq : ∀ xs ys : List Lk, flL (xs ++ ys) = flL xs ++ flL ys
  | [], _ => rfl
  | x :: xs, ys => by simp [flL, flL_appq xs ys]
set_option maxRecDepth 100000 in
set_option maxHeartbeats 4000000 in
theorem netOfLinks_any (h : NH) (N : Nt) (PK : Nat → Bool) (A C : Option Addr) (c d : Nat) (cs : List Int) (w : World) (hv : valN N = true) (rN : RdN w w.heap.size h N) (rK : RdI w w.heap.size A (selU PK N.l.length).length (selU PK N.l.length)) (rC : RdI w w.heap.size C cs.length cs) (hK : ClK N PK) (hcs : ∀ x ∈ cs, inW N.w.length x = true ∧ PK (frN N x) = true) (hcl : cs.length ≤ 1000) (hne : 0 < (kpW N PK N.w.length).length) :
    Calls Tryz.prog 106 #[.agg #[.slice h.A N.w.length h.c, .slice h.L N.l.length h.d, .slice h.C N.c.length h.e], .slice A (selU PK N.l.length).length c, .slice C cs.length d] w (CopiedN w (cutN N PK cs)) := by
  obtain ⟨h48, h48l⟩ := valN_size hv
  obtain ⟨i0, hi0, hz0, hz1, hz2⟩ := info_parts info_i64
  have HI := Lib.hid hi0; have HZ0 := Lib.hid hz0; have HZ1 := Lib.hid hz1; have HZ2 := Lib.hid hz2
  obtain ⟨i4, hi4, hz40, hz41, hz42⟩ := info_parts_s
  have HI4 := Lib.hid hi4; have HZ40 := Lib.hid hz40; have HZ41 := Lib.hid hz41; have HZ42 := Lib.hid hz42
  obtain ⟨i5, hi5, hz50, hz51, hz52⟩ := info_parts_link
  have HI5 := Lib.hid hi5; have HZ50 := Lib.hid hz50; have HZ51 := Lib.hid hz51; have HZ52 := Lib.hid hz52
  obtain ⟨w0, hw0⟩ : ∃ w0, w0 = (w.alloc (.cells #[.slice h.A N.w.length h.c, .slice h.L N.l.length h.d, .slice h.C N.c.length h.e] 30)).alloc (.cells #[.slice none 0 0, .slice none 0 0, .slice none 0 0] 30) := ⟨_, rfl⟩
  obtain ⟨hb, g0, g1, hsz⟩ := two_any' w (.cells #[.slice h.A N.w.length h.c, .slice h.L N.l.length h.d, .slice h.C N.c.length h.e] 30) (.cells #[.slice none 0 0, .slice none 0 0, .slice none 0 0] 30)
  rw [← hw0] at hb g0 g1 hsz
  have hs0 : w.heap.size + 2 ≤ w0.heap.size := by omega
  have HKB := Lib.hid (fun (wx : World) (hx : Below w0.heap.size w0 wx) => three_cells ((hx.block w.heap.size (by omega)).trans g0))
  have HK2 := Lib.hid (fun (wx : World) (hx : Below w0.heap.size w0 wx) => (hx.block (w.heap.size + 1) (by omega)).trans g1)
  have HRW := Lib.hid (fun (wx : World) (hx : Below w0.heap.size w0 wx) => show RdQ wx w.heap.size h.A N.w.length N.w from rN.1.below (hb.trans (hx.mono hb.size)))
  have HRL := Lib.hid (fun (wx : World) (hx : Below w0.heap.size w0 wx) => show RdL wx w.heap.size h.L N.l.length N.l from rN.2.1.below (hb.trans (hx.mono hb.size)))
  have HRK := Lib.hid (fun (wx : World) (hx : Below w0.heap.size w0 wx) => show RdI wx w.heap.size A (selU PK N.l.length).length (selU PK N.l.length) from rK.below (hb.trans (hx.mono hb.size)))
  have HRC := Lib.hid (fun (wx : World) (hx : Below w0.heap.size w0 wx) => show RdI wx w.heap.size C cs.length cs from rC.below (hb.trans (hx.mono hb.size)))
  have HOL := Lib.hid (outputsOfLinks_any h N PK A c w0 hv ((rN.below hb).more hb.size) ((rK.below hb).more hb.size) hne)
  have HB0 := Lib.hid hb
  have HVW : Hid (∀ q ∈ N.w, validB q = true) := Lib.hid fun q hq => formN_valid (List.all_eq_true.1 (valN_forms hv) q hq)
  have HKW : Hid (∀ k, k < (kpW N PK N.w.length).length → inW N.w.length ((kpW N PK N.w.length).getD k 0) = true) := Lib.hid fun k hk => (kpW_mem.1 (getL_mem (d := (0 : Int)) hk)).1
  have HKS : Hid (∀ k, k < (selU PK N.l.length).length → inW N.l.length ((selU PK N.l.length).getD k 0) = true ∧ lnk (N.l.getD ((selU PK N.l.length).getD k 0).toNat Lk.nil).k (posI (kpW N PK N.w.length) (N.l.getD ((selU PK N.l.length).getD k 0).toNat Lk.nil).a) (posI (kpW N PK N.w.length) (N.l.getD ((selU PK N.l.length).getD k 0).toNat Lk.nil).b) (posI (kpW N PK N.w.length) (N.l.getD ((selU PK N.l.length).getD k 0).toNat Lk.nil).c) = rnL N PK (N.l.getD ((selU PK N.l.length).getD k 0).toNat Lk.nil)) := Lib.hid fun k hk => by
    obtain ⟨j, j1, j2, j3⟩ := selU_mem.1 (getL_mem (d := (0 : Int)) hk)
    rw [j3, Int.toNat_natCast]
    exact ⟨decide_eq_true (by omega), ren_is hv hK j1 j2⟩
  have HCS : Hid (∀ k, k < cs.length → posI (kpW N PK N.w.length) (cs.getD k 0) = nmW N PK (cs.getD k 0)) := Lib.hid fun k hk => by
    obtain ⟨e1, e2⟩ := hcs _ (getL_mem (d := (0 : Int)) hk)
    exact posI_kp e1 e2
  have HEND := Lib.hid (nl_end N PK cs)
  have hkl := selU_len PK N.l.length
  have hkw := kpW_len N PK N.w.length
  clear hb g0 g1 hsz rN rK rC hK hcs hne hv hi0 hz0 hz1 hz2 hi4 hz40 hz41 hz42 hi5 hz50 hz51 hz52
  generalize cutN N PK cs = NE at *
  generalize selU PK N.l.length = ks at *
  generalize kpW N PK N.w.length = KW at *
  go_enter Tryz.func106, Tryz.ntmps106
  go_upto_region 1 with (fail)
  rw [← hw0]
  clear hw0
  obtain ⟨y0, y1, y2⟩ := HKB.out _ (Below.refl _ w0)
  go_wp2_with (fail)
  refine HOL.out.mono ?_
  rintro e u1 ⟨A7, c7, rfl, own7, bel7⟩
  have B1 := Lib.hid bel7
  have RKW := Lib.hid (RdI.of_own own7)
  have P0 := Lib.hid (PlSt.newQ u1)
  obtain ⟨u2, hu2⟩ : ∃ u2, u2 = u1.alloc (.cells #[.slice none 0 0, .slice none 0 0, .slice none 0 0] 30) := ⟨_, rfl⟩
  rw [← hu2] at P0
  obtain ⟨sx, hsx⟩ : ∃ s, u1.heap.size = s := ⟨_, rfl⟩
  have HSX0 := Lib.hid hsx
  rw [hsx] at P0
  have HU2 := Lib.hid hu2
  have hs1 := B1.out.size
  clear hu2 hsx own7 bel7 y0 y1 y2 HOL
  go_upto_region 3 with (fail)
  rw [← HU2.out, HSX0.out]
  go_wp2
  go_loopw [22] (fun i wx => ∃ k : Nat, k ≤ KW.length ∧ i = .int .i64 k ∧ NlSt u1 sx ⟨nlW N KW k, [], []⟩ wx) (fun i _ => KW.length - (intOf i).toNat)
  case atStart => exact ⟨0, Nat.zero_le _, rfl, _, _, P0.out⟩
  case round =>
    obtain ⟨k, hk, rfl, w2, hh, PP⟩ := hrel
    by_cases hlt : k < KW.length
    · have HS := Lib.hid PP
      have HBI : Hid (Below w0.heap.size w0 wr) := Lib.hid (B1.out.trans (PP.bel.mono B1.out.size))
      obtain ⟨bK, oK, hKe, hKb, hKc⟩ := (RKW.out.below PP.bel).2 (by omega)
      have xk := hKc k hlt
      have hin := HKW.out k hlt
      obtain ⟨_, hx1, hx2⟩ := inW_yes hin
      obtain ⟨bW, oW, hWe, hWb, hWc⟩ := (HRW.out w0 (Below.refl _ _)).2 (by omega)
      have HSW := Lib.hid (nlW_succ (N := N) hlt)
      have hwl := nlW_len N KW k
      generalize (KW.getD k 0).toNat = x at *
      obtain ⟨A', c', hcell0, hcc, hrd⟩ := hWc x hx1
      have h24 := (valid_len (HVW.out _ (getL_mem (d := []) hx1))).2.1
      obtain ⟨q, hq⟩ : ∃ q, N.w.getD x [] = q := ⟨_, rfl⟩
      rw [hq] at hcell0 hrd HSW h24 hcc
      have HCP := Lib.hid (fun (wx : World) (hx : Below w0.heap.size w0 wx) => clone_x A' q.length c' q wx ((hrd.below (hx.mono (show w.heap.size ≤ w0.heap.size by omega))).more (Nat.le_trans (show w.heap.size ≤ w0.heap.size by omega) hx.size)) (by omega))
      have hsxl := Nat.lt_of_lt_of_le PP.sxl PP.size
      have HBS := PP.bel.size
      have HSY : Hid (∀ wx : World, Below u1.heap.size u1 wx → wx.cell? ⟨w.heap.size, 0, none⟩ = some (.slice (some ⟨bW, oW, none⟩) N.w.length h.c) ∧ wx.cell? ⟨bW, oW + x, none⟩ = some (.slice A' q.length c')) := Lib.hid fun wx hx => by
        have hy := B1.out.trans (hx.mono B1.out.size)
        exact ⟨by rw [← hWe]; exact (HKB.out wx hy).1, (hy.cell (p := ⟨bW, oW + x, none⟩) (by show bW < w0.heap.size; omega)).trans hcell0⟩
      obtain ⟨W, hW⟩ : ∃ W, nlW N KW k = W := ⟨_, rfl⟩
      rw [hW] at HS HSW hwl
      have HSX : Hid (∀ wx : World, Below wr.heap.size wr wx → wx.cell? ⟨sx, 0, none⟩ = some (.slice hh.A W.length hh.c) ∧ wx.cell? ⟨w.heap.size, 0, none⟩ = some (.slice (some ⟨bW, oW, none⟩) N.w.length h.c) ∧ wx.cell? ⟨bW, oW + x, none⟩ = some (.slice A' q.length c')) := Lib.hid fun wx hx => ⟨(three_cells ((hx.block sx hsxl).trans HS.out.box)).1, HSY.out wx (HS.out.bel.trans (hx.mono HS.out.bel.size))⟩
      rw [hx2] at xk
      have hxi : (x : Int) < (N.w.length : Int) := by omega
      have hxl : (x : Int) < ((N.w.length : Nat) : Int) := by omega
      clear PP hKc hin hx2 hWc hcell0 hrd hq hW hcc
      rw [hKe]
      clear hKe
      go_upto_region 6 with (fail)
      clear xk
      have FB_0 := Lib.hid (Below.refl wr.heap.size wr)
      refine wp_region_C_drew (c := 11) (S := fun wx => wx.cell? ⟨sx, 0, none⟩ = some (.slice hh.A W.length hh.c) ∧ wx.cell? ⟨w.heap.size, 0, none⟩ = some (.slice (some ⟨bW, oW, none⟩) N.w.length h.c) ∧ wx.cell? ⟨bW, oW + x, none⟩ = some (.slice A' q.length c')) (by kernel_rfl) (HSX.out _ (Below.refl _ _).drew) (fun hHeld => ?_)
      obtain ⟨wp1, hwp1⟩ : ∃ w', w' = wr.drew := ⟨_, rfl⟩
      rw [← hwp1] at hHeld ⊢
      have bp1 : Below wr.heap.size wr wp1 := by rw [hwp1]; exact (Below.refl _ _).drew
      clear hwp1
      have FB_p2 := Lib.hid ((FB_0.out).trans ((bp1).mono (FB_0.out).size))
      clear FB_0
      refine wpAnyC_take [0, 1, 9, 10, 11] (i := 0) (v := ?vp3) rfl (by kernel_rfl) (by kernel_rfl) (by kernel_rfl) (by kernel_rfl) (fun _ _ _ h => h) (Or.inl ⟨by rfl, ?yp3⟩) (by assumption) ?_
      case yp3 => (intro w hSw; (try dsimp only at hSw); go_simp; all_goals (with_reducible rfl))
      (try simp only [Act.put, List.setIfInBounds_toArray, List.set_cons_zero, List.set_cons_succ, List.getElem_toArray, List.getElem_cons_succ, List.getElem_cons_zero])
      refine wpAnyC_take [1, 9, 10, 11] (i := 1) (v := ?vp4) rfl (by kernel_rfl) (by kernel_rfl) (by kernel_rfl) (by kernel_rfl) (fun _ _ _ h => h) (Or.inl ⟨by rfl, ?yp4⟩) (by assumption) ?_
      case yp4 => (intro w hSw; (try dsimp only at hSw); go_simp; all_goals (with_reducible rfl))
      (try simp only [Act.put, List.setIfInBounds_toArray, List.set_cons_zero, List.set_cons_succ, List.getElem_toArray, List.getElem_cons_succ, List.getElem_cons_zero])
      refine wpAnyC_take [2, 3, 5, 6, 7, 8, 9, 10, 11] (i := 2) (v := ?vp5) rfl (by kernel_rfl) (by kernel_rfl) (by kernel_rfl) (by kernel_rfl) (fun _ _ _ h => h) (Or.inl ⟨by rfl, ?yp5⟩) (by assumption) ?_
      case yp5 => (intro w hSw; (try dsimp only at hSw); go_simp; all_goals (with_reducible rfl))
      (try simp only [Act.put, List.setIfInBounds_toArray, List.set_cons_zero, List.set_cons_succ, List.getElem_toArray, List.getElem_cons_succ, List.getElem_cons_zero])
      refine wpAnyC_take [3, 5, 6, 7, 8, 9, 10, 11] (i := 3) (v := ?vp6) rfl (by kernel_rfl) (by kernel_rfl) (by kernel_rfl) (by kernel_rfl) (fun _ _ _ h => h) (Or.inl ⟨by rfl, ?yp6⟩) (by assumption) ?_
      case yp6 => (intro w hSw; (try dsimp only at hSw); go_simp; all_goals (with_reducible rfl))
      (try simp only [Act.put, List.setIfInBounds_toArray, List.set_cons_zero, List.set_cons_succ, List.getElem_toArray, List.getElem_cons_succ, List.getElem_cons_zero])
      refine wpAnyC_take [4, 5, 6, 7, 8, 9, 10, 11] (i := 4) (v := ?vp7) rfl (by kernel_rfl) (by kernel_rfl) (by kernel_rfl) (by kernel_rfl) (fun _ _ _ h => h) (Or.inl ⟨by rfl, ?yp7⟩) (by assumption) ?_
      case yp7 => (intro w hSw; (try dsimp only at hSw); go_simp; all_goals (with_reducible rfl))
      (try simp only [Act.put, List.setIfInBounds_toArray, List.set_cons_zero, List.set_cons_succ, List.getElem_toArray, List.getElem_cons_succ, List.getElem_cons_zero])
      refine wpAnyC_take [5, 6, 7, 8, 9, 10, 11] (i := 5) (v := ?vp8) rfl (by kernel_rfl) (by kernel_rfl) (by kernel_rfl) (by kernel_rfl) (fun _ _ _ h => h) (Or.inl ⟨by rfl, ?yp8⟩) (by assumption) ?_
      case yp8 => (intro w hSw; (try dsimp only at hSw); go_simp; all_goals (with_reducible rfl))
      (try simp only [Act.put, List.setIfInBounds_toArray, List.set_cons_zero, List.set_cons_succ, List.getElem_toArray, List.getElem_cons_succ, List.getElem_cons_zero])
      refine wpAnyC_take [6, 7, 8, 9, 10, 11] (i := 6) (v := ?vp9) rfl (by kernel_rfl) (by kernel_rfl) (by kernel_rfl) (by kernel_rfl) (fun _ _ _ h => h) (Or.inl ⟨by rfl, ?yp9⟩) (by assumption) ?_
      case yp9 => (intro w hSw; (try dsimp only at hSw); go_simp; all_goals (with_reducible rfl))
      (try simp only [Act.put, List.setIfInBounds_toArray, List.set_cons_zero, List.set_cons_succ, List.getElem_toArray, List.getElem_cons_succ, List.getElem_cons_zero])
      refine wpAnyC_one (i := 7) (by kernel_rfl) (by rfl) rfl (fun K hK => ?_)
      go_simp
      have FQp10 := FB_p2
      refine (HCP.out wp1 (HBI.out.trans (FB_p2.out.mono HBI.out.size))).mono ?_
      rintro e wp10 ⟨A9, c9, rfl, ownp10, belp10⟩
      dsimp only
      have FB_p11 := Lib.hid ((FB_p2.out).trans ((belp10).mono (FB_p2.out).size))
      clear FB_p2
      have OWN := Lib.hid (ownp10.mono FQp10.out.size)
      clear ownp10 belp10 FQp10
      refine hK.out _ _ (HSX.out _ FB_p11.out) (fun hHeld => ?_)
      clear hK K
      (try simp only [Act.put, List.setIfInBounds_toArray, List.set_cons_zero, List.set_cons_succ, List.getElem_toArray, List.getElem_cons_succ, List.getElem_cons_zero])
      refine wpAnyC_one (i := 8) (by kernel_rfl) (by rfl) rfl (fun K hK => ?_)
      go_simp
      have FBU := FB_p11
      obtain ⟨wp12, hwp12⟩ : ∃ w', w' = wp10.alloc (.cells #[.slice A9 q.length c9] 24) := ⟨_, rfl⟩
      rw [← hwp12]
      have bp12 : Below wp10.heap.size wp10 wp12 := by rw [hwp12]; exact (Below.refl _ _).alloc (Nat.le_refl _) _
      have HW9 := Lib.hid hwp12
      clear hwp12
      have FB_p13 := Lib.hid ((FB_p11.out).trans ((bp12).mono (FB_p11.out).size))
      clear FB_p11
      clear bp12
      refine hK.out _ _ (HSX.out _ FB_p13.out) (fun hHeld => ?_)
      clear hK K
      (try simp only [Act.put, List.setIfInBounds_toArray, List.set_cons_zero, List.set_cons_succ, List.getElem_toArray, List.getElem_cons_succ, List.getElem_cons_zero])
      refine wpAnyC_one (i := 9) (by kernel_rfl) (by rfl) rfl (fun K hK => ?_)
      have OW := Lib.hid (own_below HS.out.own.q.outer FB_p13.out (Nat.le_refl _))
      have hz9 := FB_p13.out.size
      obtain ⟨H8, hH8⟩ : ∃ q, wp12.heap.size = q := ⟨_, rfl⟩
      have HN9 := Lib.hid (oneQ wp10 (.slice A9 q.length c9) 24)
      rw [← HW9.out] at HN9
      refine step_append_lies _ rfl _ _ 22 rfl u1.heap.size 24 i4 (.slice none 0 0) 1 24 Tryz.underlying22 HI4.out HZ40.out HZ41.out HZ42.out rfl (by decide) _ _ _ rfl OW.out ⟨wp10.heap.size, 0, none⟩ 1 1 [.slice A9 q.length c9] rfl rfl HN9.out (by intro u hu; simp at hu; subst hu; rfl) (by decide) (by simp only [maxLen]; (try dsimp only); omega) (by (try dsimp only); omega) (by omega) H8 hH8 ?_
      intro g9 cap9 w9 hown9 hgrow9 hat9 hlt9
      rw [HW9.out] at hgrow9 hH8
      have p9 := HS.out.pushW FBU.out OWN.out hown9 hgrow9 (hat9.imp id (fun e => e.trans hH8.symm))
      rw [← HW9.out] at hgrow9
      rw [show (W ++ [q]).length = W.length + 1 by simp] at p9
      have hx9 := (hgrow9.block sx (Nat.lt_of_lt_of_le hsxl FB_p13.out.size) (fun e2 => (HS.out.far sx HS.out.sxl HS.out.sxf).a e2.symm)).trans ((FB_p13.out.block sx hsxl).trans HS.out.box)
      have HB9 := Lib.hid ((HS.out.bel.trans (FB_p13.out.mono HS.out.bel.size)).grown hgrow9 (by omega) (fun q hq => (HS.out.own.q.outer.lt q hq).1))
      have HP9 := Lib.hid p9; have HX9 := Lib.hid hx9
      clear p9 hx9 hown9 hgrow9 hat9 hlt9 hH8 OW
      refine hK.out _ _ (⟨(three_cells HX9.out).1, HSY.out _ HB9.out⟩) (fun hHeld => ?_)
      clear hK K
      (try simp only [Act.put, List.setIfInBounds_toArray, List.set_cons_zero, List.set_cons_succ, List.getElem_toArray, List.getElem_cons_succ, List.getElem_cons_zero])
      refine wpAnyC_take [10, 11] (i := 10) (v := ?vp14) rfl (by kernel_rfl) (by kernel_rfl) (by kernel_rfl) (by kernel_rfl) (fun _ _ _ h => h) (Or.inl ⟨by rfl, ?yp14⟩) (by assumption) ?_
      case yp14 => (intro w hSw; (try dsimp only at hSw); go_simp; all_goals (with_reducible rfl))
      (try simp only [Act.put, List.setIfInBounds_toArray, List.set_cons_zero, List.set_cons_succ, List.getElem_toArray, List.getElem_cons_succ, List.getElem_cons_zero])
      refine wpAnyC_last (by kernel_rfl) rfl (fun K hK => ?_)
      obtain ⟨a0, a1, a2⟩ := three_cells HX9.out
      have f0 := frozen_of_row _ _ 0 _ _ HX9.out; have f1 := frozen_of_row _ _ 1 _ _ HX9.out; have f2 := frozen_of_row _ _ 2 _ _ HX9.out
      go_simp
      clear a0 a1 a2 f0 f1 f2
      refine hK.out _ _ ?_
      clear hK K hHeld
      (try simp only [Act.put, List.setIfInBounds_toArray, List.set_cons_zero, List.set_cons_succ, List.getElem_toArray, List.getElem_cons_succ, List.getElem_cons_zero])
      refine wpAnyH_done (by kernel_rfl) ?_ _
      go_wp2
      go_roundw
      case rel => exact ⟨k + 1, by omega, by go_num, (by rw [HSW.out]; exact ⟨w2, _, HP9.out⟩)⟩
      case measure => simp [intOf]; omega
    · have hkl : k = KW.length := by omega
      subst hkl
      have HP0 := Lib.hid PP
      clear PP
      generalize nlW N KW KW.length = W at *
      go_wp2
      go_loopw [40] (fun i wx => ∃ k : Nat, k ≤ ks.length ∧ i = .int .i64 k ∧ NlSt u1 sx ⟨W, nlL N PK ks k, []⟩ wx) (fun i _ => ks.length - (intOf i).toNat)
      case atStart => exact ⟨0, Nat.zero_le _, rfl, _, _, HP0.out⟩
      case round =>
        rename World => wy
        obtain ⟨k, hk, rfl, w3, h3, PP⟩ := hrel
        by_cases hlt : k < ks.length
        · have hBI := B1.out.trans (PP.bel.mono B1.out.size)
          obtain ⟨bK, oK, hKe, hKb, hKc⟩ := (HRK.out wy hBI).2 (by omega)
          have xk := hKc k hlt
          obtain ⟨hin, hren⟩ := HKS.out k hlt
          obtain ⟨_, hx1, hx2⟩ := inW_yes hin
          obtain ⟨bL, oL, hLe, hLb, hLc⟩ := (HRL.out wy hBI).at (by omega)
          have HSU := Lib.hid (nlL_succ (N := N) (K := PK) hlt)
          have hll := nlL_len N PK ks k
          generalize (ks.getD k 0).toNat = x at *
          obtain ⟨l0, l1, l2, l3⟩ := hLc x hx1
          obtain ⟨y0, y1, y2⟩ := HKB.out wy hBI
          obtain ⟨bl, z0, z1, z2, z3, zs⟩ := lnk_any wy (N.l.getD x Lk.nil) 103
          obtain ⟨⟨rk, ra, rb, rc⟩, hrn⟩ : ∃ l, rnL N PK (N.l.getD x Lk.nil) = l := ⟨_, rfl⟩
          rw [hrn] at hren HSU
          generalize N.l.getD x Lk.nil = l at *
          obtain ⟨lk, la, lb, lc⟩ := l
          dsimp only at bl z0 z1 z2 z3 zs l0 l1 l2 l3 hren
          obtain ⟨u3, hu3⟩ : ∃ u3, u3 = wy.alloc (.cells #[.int .i64 lk, .int .i64 la, .int .i64 lb, .int .i64 lc] 103) := ⟨_, rfl⟩
          rw [← hu3] at bl z0 z1 z2 z3 zs
          have HS := Lib.hid (PP.below bl)
          have HBI : Hid (Below w0.heap.size w0 u3) := Lib.hid (hBI.trans (bl.mono hBI.size))
          have hsxl := Nat.lt_of_lt_of_le HS.out.sxl HS.out.size
          have hzl : wy.heap.size < u3.heap.size := by omega
          have HBS := HS.out.bel.size
          have hsz3 : sx ≠ wy.heap.size := by
            have := Nat.lt_of_lt_of_le PP.sxl PP.size
            omega
          have HPO := Lib.hid (fun (wx : World) (hx : Below u3.heap.size u3 wx) (x : Int) => posOf_any A7 KW.length c7 KW x wx ((RKW.out.below (HS.out.bel.trans (hx.mono HS.out.bel.size))).more (Nat.le_trans HS.out.bel.size hx.size)) (by omega))
          have HPA := Lib.hid (fun (wx : World) (hx : Below u3.heap.size u3 wx) => HPO.out wx hx la)
          have HPB := Lib.hid (fun (wx : World) (hx : Below u3.heap.size u3 wx) => HPO.out wx hx lb)
          have HPC := Lib.hid (fun (wx : World) (hx : Below u3.heap.size u3 wx) => HPO.out wx hx lc)
          clear HPO
          have HLK := Lib.hid (fun (wx : World) => linkOf_any lk (posI KW la) (posI KW lb) (posI KW lc) wx)
          rw [hren] at HLK
          dsimp only at HLK
          generalize posI KW la = pa at *
          generalize posI KW lb = pb at *
          generalize posI KW lc = pc at *
          obtain ⟨LS, hLS⟩ : ∃ L, nlL N PK ks k = L := ⟨_, rfl⟩
          rw [hLS] at HS HSU hll
          have HLS : Hid ((nlL N PK ks (k + 1)).length = LS.length + 1) := Lib.hid (by rw [HSU.out]; simp)
          have HSX : Hid (∀ wx : World, Below u3.heap.size u3 wx → wx.cell? ⟨sx, 1, none⟩ = some (.slice h3.L LS.length h3.d) ∧ wx.cell? ⟨wy.heap.size, 0, none⟩ = some (.int .i64 lk) ∧ wx.cell? ⟨wy.heap.size, 1, none⟩ = some (.int .i64 la) ∧ wx.cell? ⟨wy.heap.size, 2, none⟩ = some (.int .i64 lb) ∧ wx.cell? ⟨wy.heap.size, 3, none⟩ = some (.int .i64 lc)) := Lib.hid fun wx hx => ⟨(three_cells ((hx.block sx hsxl).trans HS.out.box)).2.1, (hx.cell (p := ⟨wy.heap.size, 0, none⟩) hzl).trans z0, (hx.cell (p := ⟨wy.heap.size, 1, none⟩) hzl).trans z1, (hx.cell (p := ⟨wy.heap.size, 2, none⟩) hzl).trans z2, (hx.cell (p := ⟨wy.heap.size, 3, none⟩) hzl).trans z3⟩
          have HLF : Hid (∀ b, (Value.slice h3.L LS.length h3.d).ownBlock = some b → b ≠ wy.heap.size) := Lib.hid fun b e e2 => by
            have h1 := PP.own.l
            rw [hLS] at h1
            have := (h1.lt b e).2
            omega
          have HU3 := Lib.hid hu3
          rw [hx2] at xk
          rw [hLe] at y1
          have hxi : (x : Int) < (N.l.length : Int) := by omega
          clear PP hKc hin hren hx2 hLc hLe bl zs hu3 hLS z0 z1 z2 z3 hBI y0 y2
          rw [hKe]
          clear hKe
          go_upto_region 12 with (fail)
          rw [← HU3.out]
          clear xk l0 l1 l2 l3 y1
          have FB_0 := Lib.hid (Below.refl u3.heap.size u3)
          refine wp_region_C_drew (c := 20) (S := fun wx => wx.cell? ⟨sx, 1, none⟩ = some (.slice h3.L LS.length h3.d) ∧ wx.cell? ⟨wy.heap.size, 0, none⟩ = some (.int .i64 lk) ∧ wx.cell? ⟨wy.heap.size, 1, none⟩ = some (.int .i64 la) ∧ wx.cell? ⟨wy.heap.size, 2, none⟩ = some (.int .i64 lb) ∧ wx.cell? ⟨wy.heap.size, 3, none⟩ = some (.int .i64 lc)) (by kernel_rfl) (HSX.out _ (Below.refl _ _).drew) (fun hHeld => ?_)
          obtain ⟨wq1, hwq1⟩ : ∃ w', w' = u3.drew := ⟨_, rfl⟩
          rw [← hwq1] at hHeld ⊢
          have bq1 : Below u3.heap.size u3 wq1 := by rw [hwq1]; exact (Below.refl _ _).drew
          clear hwq1
          have FB_q2 := Lib.hid ((FB_0.out).trans ((bq1).mono (FB_0.out).size))
          clear FB_0
          refine wpAnyC_take [0, 1, 18, 19, 20] (i := 0) (v := ?vq3) rfl (by kernel_rfl) (by kernel_rfl) (by kernel_rfl) (by kernel_rfl) (fun _ _ _ h => h) (Or.inl ⟨by rfl, ?yq3⟩) (by assumption) ?_
          case yq3 => (intro w hSw; (try dsimp only at hSw); go_simp; all_goals (with_reducible rfl))
          (try simp only [Act.put, List.setIfInBounds_toArray, List.set_cons_zero, List.set_cons_succ, List.getElem_toArray, List.getElem_cons_succ, List.getElem_cons_zero])
          refine wpAnyC_take [1, 18, 19, 20] (i := 1) (v := ?vq4) rfl (by kernel_rfl) (by kernel_rfl) (by kernel_rfl) (by kernel_rfl) (fun _ _ _ h => h) (Or.inl ⟨by rfl, ?yq4⟩) (by assumption) ?_
          case yq4 => (intro w hSw; (try dsimp only at hSw); go_simp; all_goals (with_reducible rfl))
          (try simp only [Act.put, List.setIfInBounds_toArray, List.set_cons_zero, List.set_cons_succ, List.getElem_toArray, List.getElem_cons_succ, List.getElem_cons_zero])
          refine wpAnyC_take [2, 3, 16, 17, 18, 19, 20] (i := 2) (v := ?vq5) rfl (by kernel_rfl) (by kernel_rfl) (by kernel_rfl) (by kernel_rfl) (fun _ _ _ h => h) (Or.inl ⟨by rfl, ?yq5⟩) (by assumption) ?_
          case yq5 => (intro w hSw; (try dsimp only at hSw); go_simp; all_goals (with_reducible rfl))
          (try simp only [Act.put, List.setIfInBounds_toArray, List.set_cons_zero, List.set_cons_succ, List.getElem_toArray, List.getElem_cons_succ, List.getElem_cons_zero])
          refine wpAnyC_take [3, 16, 17, 18, 19, 20] (i := 3) (v := ?vq6) rfl (by kernel_rfl) (by kernel_rfl) (by kernel_rfl) (by kernel_rfl) (fun _ _ _ h => h) (Or.inl ⟨by rfl, ?yq6⟩) (by assumption) ?_
          case yq6 => (intro w hSw; (try dsimp only at hSw); go_simp; all_goals (with_reducible rfl))
          (try simp only [Act.put, List.setIfInBounds_toArray, List.set_cons_zero, List.set_cons_succ, List.getElem_toArray, List.getElem_cons_succ, List.getElem_cons_zero])
          refine wpAnyC_take [4, 7, 11, 15, 16, 17, 18, 19, 20] (i := 4) (v := ?vq7) rfl (by kernel_rfl) (by kernel_rfl) (by kernel_rfl) (by kernel_rfl) (fun _ _ _ h => h) (Or.inl ⟨by rfl, ?yq7⟩) (by assumption) ?_
          case yq7 => (intro w hSw; (try dsimp only at hSw); go_simp; all_goals (with_reducible rfl))
          (try simp only [Act.put, List.setIfInBounds_toArray, List.set_cons_zero, List.set_cons_succ, List.getElem_toArray, List.getElem_cons_succ, List.getElem_cons_zero])
          refine wpAnyC_take [5, 6, 7, 11, 15, 16, 17, 18, 19, 20] (i := 5) (v := ?vq8) rfl (by kernel_rfl) (by kernel_rfl) (by kernel_rfl) (by kernel_rfl) (fun _ _ _ h => h) (Or.inl ⟨by rfl, ?yq8⟩) (by assumption) ?_
          case yq8 => (intro w hSw; (try dsimp only at hSw); go_simp; all_goals (with_reducible rfl))
          (try simp only [Act.put, List.setIfInBounds_toArray, List.set_cons_zero, List.set_cons_succ, List.getElem_toArray, List.getElem_cons_succ, List.getElem_cons_zero])
          refine wpAnyC_take [6, 7, 11, 15, 16, 17, 18, 19, 20] (i := 6) (v := ?vq9) rfl (by kernel_rfl) (by kernel_rfl) (by kernel_rfl) (by kernel_rfl) (fun _ _ _ h => h) (Or.inl ⟨by rfl, ?yq9⟩) (by assumption) ?_
          case yq9 => (intro w hSw; (try dsimp only at hSw); go_simp; all_goals (with_reducible rfl))
          (try simp only [Act.put, List.setIfInBounds_toArray, List.set_cons_zero, List.set_cons_succ, List.getElem_toArray, List.getElem_cons_succ, List.getElem_cons_zero])
          refine wpAnyC_take [8, 11, 15, 16, 17, 18, 19, 20] (i := 8) (v := ?vq10) rfl (by kernel_rfl) (by kernel_rfl) (by kernel_rfl) (by kernel_rfl) (fun _ _ _ h => h) (Or.inl ⟨by rfl, ?yq10⟩) (by assumption) ?_
          case yq10 => (intro w hSw; (try dsimp only at hSw); go_simp; all_goals (with_reducible rfl))
          (try simp only [Act.put, List.setIfInBounds_toArray, List.set_cons_zero, List.set_cons_succ, List.getElem_toArray, List.getElem_cons_succ, List.getElem_cons_zero])
          refine wpAnyC_take [9, 10, 11, 15, 16, 17, 18, 19, 20] (i := 9) (v := ?vq11) rfl (by kernel_rfl) (by kernel_rfl) (by kernel_rfl) (by kernel_rfl) (fun _ _ _ h => h) (Or.inl ⟨by rfl, ?yq11⟩) (by assumption) ?_
          case yq11 => (intro w hSw; (try dsimp only at hSw); go_simp; all_goals (with_reducible rfl))
          (try simp only [Act.put, List.setIfInBounds_toArray, List.set_cons_zero, List.set_cons_succ, List.getElem_toArray, List.getElem_cons_succ, List.getElem_cons_zero])
          refine wpAnyC_take [10, 11, 15, 16, 17, 18, 19, 20] (i := 10) (v := ?vq12) rfl (by kernel_rfl) (by kernel_rfl) (by kernel_rfl) (by kernel_rfl) (fun _ _ _ h => h) (Or.inl ⟨by rfl, ?yq12⟩) (by assumption) ?_
          case yq12 => (intro w hSw; (try dsimp only at hSw); go_simp; all_goals (with_reducible rfl))
          (try simp only [Act.put, List.setIfInBounds_toArray, List.set_cons_zero, List.set_cons_succ, List.getElem_toArray, List.getElem_cons_succ, List.getElem_cons_zero])
          refine wpAnyC_take [12, 15, 16, 17, 18, 19, 20] (i := 12) (v := ?vq13) rfl (by kernel_rfl) (by kernel_rfl) (by kernel_rfl) (by kernel_rfl) (fun _ _ _ h => h) (Or.inl ⟨by rfl, ?yq13⟩) (by assumption) ?_
          case yq13 => (intro w hSw; (try dsimp only at hSw); go_simp; all_goals (with_reducible rfl))
          (try simp only [Act.put, List.setIfInBounds_toArray, List.set_cons_zero, List.set_cons_succ, List.getElem_toArray, List.getElem_cons_succ, List.getElem_cons_zero])
          refine wpAnyC_take [13, 14, 15, 16, 17, 18, 19, 20] (i := 13) (v := ?vq14) rfl (by kernel_rfl) (by kernel_rfl) (by kernel_rfl) (by kernel_rfl) (fun _ _ _ h => h) (Or.inl ⟨by rfl, ?yq14⟩) (by assumption) ?_
          case yq14 => (intro w hSw; (try dsimp only at hSw); go_simp; all_goals (with_reducible rfl))
          (try simp only [Act.put, List.setIfInBounds_toArray, List.set_cons_zero, List.set_cons_succ, List.getElem_toArray, List.getElem_cons_succ, List.getElem_cons_zero])
          refine wpAnyC_take [14, 15, 16, 17, 18, 19, 20] (i := 14) (v := ?vq15) rfl (by kernel_rfl) (by kernel_rfl) (by kernel_rfl) (by kernel_rfl) (fun _ _ _ h => h) (Or.inl ⟨by rfl, ?yq15⟩) (by assumption) ?_
          case yq15 => (intro w hSw; (try dsimp only at hSw); go_simp; all_goals (with_reducible rfl))
          (try simp only [Act.put, List.setIfInBounds_toArray, List.set_cons_zero, List.set_cons_succ, List.getElem_toArray, List.getElem_cons_succ, List.getElem_cons_zero])
          refine wpAnyC_one (i := 7) (by kernel_rfl) (by rfl) rfl (fun K hK => ?_)
          go_simp
          refine (HPA.out wq1 FB_q2.out).mono ?_
          rintro e wq ⟨rfl, hwq⟩
          subst hwq
          dsimp only
          refine hK.out _ _ (hHeld) (fun hHeld => ?_)
          clear hK K
          (try simp only [Act.put, List.setIfInBounds_toArray, List.set_cons_zero, List.set_cons_succ, List.getElem_toArray, List.getElem_cons_succ, List.getElem_cons_zero])
          refine wpAnyC_one (i := 11) (by kernel_rfl) (by rfl) rfl (fun K hK => ?_)
          go_simp
          refine (HPB.out wq1 FB_q2.out).mono ?_
          rintro e wq ⟨rfl, hwq⟩
          subst hwq
          dsimp only
          refine hK.out _ _ (hHeld) (fun hHeld => ?_)
          clear hK K
          (try simp only [Act.put, List.setIfInBounds_toArray, List.set_cons_zero, List.set_cons_succ, List.getElem_toArray, List.getElem_cons_succ, List.getElem_cons_zero])
          refine wpAnyC_one (i := 15) (by kernel_rfl) (by rfl) rfl (fun K hK => ?_)
          go_simp
          refine (HPC.out wq1 FB_q2.out).mono ?_
          rintro e wq ⟨rfl, hwq⟩
          subst hwq
          dsimp only
          refine hK.out _ _ (hHeld) (fun hHeld => ?_)
          clear hK K
          (try simp only [Act.put, List.setIfInBounds_toArray, List.set_cons_zero, List.set_cons_succ, List.getElem_toArray, List.getElem_cons_succ, List.getElem_cons_zero])
          refine wpAnyC_one (i := 16) (by kernel_rfl) (by rfl) rfl (fun K hK => ?_)
          go_simp
          refine (HLK.out wq1).mono ?_
          rintro e wq16 ⟨rfl, belq16⟩
          dsimp only
          have FB_q17 := Lib.hid ((FB_q2.out).trans ((belq16).mono (FB_q2.out).size))
          clear FB_q2
          clear belq16
          refine hK.out _ _ (HSX.out _ FB_q17.out) (fun hHeld => ?_)
          clear hK K
          (try simp only [Act.put, List.setIfInBounds_toArray, List.set_cons_zero, List.set_cons_succ, List.getElem_toArray, List.getElem_cons_succ, List.getElem_cons_zero])
          refine wpAnyC_one (i := 17) (by kernel_rfl) (by rfl) rfl (fun K hK => ?_)
          go_simp
          have FBU := FB_q17
          obtain ⟨wq18, hwq18⟩ : ∃ w', w' = wq16.alloc (.cells #[.int .i64 rk, .int .i64 ra, .int .i64 rb, .int .i64 rc] 103) := ⟨_, rfl⟩
          rw [← hwq18]
          have bq18 : Below wq16.heap.size wq16 wq18 := by rw [hwq18]; exact (Below.refl _ _).alloc (Nat.le_refl _) _
          have HW9 := Lib.hid hwq18
          clear hwq18
          have FB_q19 := Lib.hid ((FB_q17.out).trans ((bq18).mono (FB_q17.out).size))
          clear FB_q17
          clear bq18
          refine hK.out _ _ (HSX.out _ FB_q19.out) (fun hHeld => ?_)
          clear hK K
          (try simp only [Act.put, List.setIfInBounds_toArray, List.set_cons_zero, List.set_cons_succ, List.getElem_toArray, List.getElem_cons_succ, List.getElem_cons_zero])
          refine wpAnyC_one (i := 18) (by kernel_rfl) (by rfl) rfl (fun K hK => ?_)
          have OW := Lib.hid (own_below HS.out.own.l FB_q19.out (Nat.le_refl _))
          have hz9 := FB_q19.out.size
          obtain ⟨H8, hH8⟩ : ∃ q, wq18.heap.size = q := ⟨_, rfl⟩
          have HN9 := Lib.hid (fourQ wq16 (.int .i64 rk) (.int .i64 ra) (.int .i64 rb) (.int .i64 rc) 103)
          rw [← HW9.out] at HN9
          refine step_append_lies _ rfl _ _ 28 rfl u1.heap.size 103 i5 (.agg #[.int .i64 0, .int .i64 0, .int .i64 0, .int .i64 0]) 4 32 Tryz.underlying28 HI5.out HZ50.out HZ51.out HZ52.out rfl (by decide) _ _ _ rfl OW.out ⟨wq16.heap.size, 0, none⟩ 1 1 [.int .i64 rk, .int .i64 ra, .int .i64 rb, .int .i64 rc] rfl rfl HN9.out (by intro u hu; simp at hu; rcases hu with rfl | rfl | rfl | rfl <;> rfl) (by decide) (by simp only [maxLen]; (try dsimp only); omega) (by (try dsimp only); omega) (by omega) H8 hH8 ?_
          intro g9 cap9 w9 hown9 hgrow9 hat9 hlt9
          have O9 : w9.ownsRow u1.heap.size 103 4 (.slice (some ⟨g9, 0, none⟩) (nlL N PK ks (k + 1)).length cap9) (nlL N PK ks (k + 1)).length ((flL (nlL N PK ks (k + 1))).map (Value.int .i64)) := by rw [HLS.out, HSU.out, flL_appq, List.map_append]; exact hown9
          have p9 := HS.out.pushL FB_q19.out O9 hgrow9 (hat9.imp (fun e => e.symm) (fun e => congrArg some (e.trans hH8.symm)))
          rw [HLS.out] at p9
          have hx9 := (hgrow9.block sx (Nat.lt_of_lt_of_le hsxl FB_q19.out.size) (fun e2 => (HS.out.far sx HS.out.sxl HS.out.sxf).l e2.symm)).trans ((FB_q19.out.block sx hsxl).trans HS.out.box)
          have HB9 := Lib.hid ((HS.out.bel.trans (FB_q19.out.mono HS.out.bel.size)).grown hgrow9 (by omega) (fun q hq => (HS.out.own.l.lt q hq).1))
          have hsw := HSX.out _ FB_q19.out
          have hblk : w9.heap[wy.heap.size]? = wq18.heap[wy.heap.size]? := hgrow9.block wy.heap.size (by omega) (fun e => HLF.out _ e.symm rfl)
          have HC9 := Lib.hid (And.intro ((World.cell?_of_block (a := ⟨wy.heap.size, 0, none⟩) hblk).trans hsw.2.1) (And.intro ((World.cell?_of_block (a := ⟨wy.heap.size, 1, none⟩) hblk).trans hsw.2.2.1) (And.intro ((World.cell?_of_block (a := ⟨wy.heap.size, 2, none⟩) hblk).trans hsw.2.2.2.1) ((World.cell?_of_block (a := ⟨wy.heap.size, 3, none⟩) hblk).trans hsw.2.2.2.2))))
          clear hsw hblk
          have HP9 := Lib.hid p9; have HX9 := Lib.hid hx9
          clear p9 hx9 hown9 hgrow9 hat9 hlt9 hH8 OW O9
          refine hK.out _ _ (⟨(three_cells HX9.out).2.1, HC9.out⟩) (fun hHeld => ?_)
          clear hK K
          (try simp only [Act.put, List.setIfInBounds_toArray, List.set_cons_zero, List.set_cons_succ, List.getElem_toArray, List.getElem_cons_succ, List.getElem_cons_zero])
          refine wpAnyC_take [19, 20] (i := 19) (v := ?vq20) rfl (by kernel_rfl) (by kernel_rfl) (by kernel_rfl) (by kernel_rfl) (fun _ _ _ h => h) (Or.inl ⟨by rfl, ?yq20⟩) (by assumption) ?_
          case yq20 => (intro w hSw; (try dsimp only at hSw); go_simp; all_goals (with_reducible rfl))
          (try simp only [Act.put, List.setIfInBounds_toArray, List.set_cons_zero, List.set_cons_succ, List.getElem_toArray, List.getElem_cons_succ, List.getElem_cons_zero])
          refine wpAnyC_last (by kernel_rfl) rfl (fun K hK => ?_)
          obtain ⟨a0, a1, a2⟩ := three_cells HX9.out
          have f0 := frozen_of_row _ _ 0 _ _ HX9.out; have f1 := frozen_of_row _ _ 1 _ _ HX9.out; have f2 := frozen_of_row _ _ 2 _ _ HX9.out
          go_simp
          clear a0 a1 a2 f0 f1 f2
          refine hK.out _ _ ?_
          clear hK K hHeld
          (try simp only [Act.put, List.setIfInBounds_toArray, List.set_cons_zero, List.set_cons_succ, List.getElem_toArray, List.getElem_cons_succ, List.getElem_cons_zero])
          refine wpAnyH_done (by kernel_rfl) ?_ _
          go_wp2
          go_roundw
          case rel => exact ⟨k + 1, by omega, by go_num, w3, _, HP9.out⟩
          case measure => simp [intOf]; omega
        · have hkl : k = ks.length := by omega
          subst hkl
          have HP0 := Lib.hid PP
          clear PP
          generalize nlL N PK ks ks.length = LS at *
          go_wp2
          go_loopw [72] (fun i wx => ∃ k : Nat, k ≤ cs.length ∧ i = .int .i64 k ∧ NlSt u1 sx ⟨W, LS, nlC N PK cs k⟩ wx) (fun i _ => cs.length - (intOf i).toNat)
          case atStart => exact ⟨0, Nat.zero_le _, rfl, _, _, HP0.out⟩
          case round =>
            rename World => wz
            obtain ⟨k, hk, rfl, w4, h4, PP⟩ := hrel
            by_cases hlt : k < cs.length
            · have hBI := B1.out.trans (PP.bel.mono B1.out.size)
              obtain ⟨bK, oK, hKe, hKb, hKc⟩ := (HRC.out wz hBI).2 (by omega)
              have xk := hKc k hlt
              have hps := HCS.out k hlt
              have HSU := Lib.hid (nlC_succ (N := N) (K := PK) hlt)
              have hll := nlC_len N PK cs k
              generalize cs.getD k 0 = x at *
              have HS := Lib.hid PP
              have HBI := Lib.hid hBI
              have hsxl := Nat.lt_of_lt_of_le HS.out.sxl HS.out.size
              have HBS := HS.out.bel.size
              have HPO := Lib.hid (fun (wx : World) (hx : Below wz.heap.size wz wx) => posOf_any A7 KW.length c7 KW x wx ((RKW.out.below (HS.out.bel.trans (hx.mono HS.out.bel.size))).more (Nat.le_trans HS.out.bel.size hx.size)) (by omega))
              rw [hps] at HPO
              obtain ⟨p, hp⟩ : ∃ p, nmW N PK x = p := ⟨_, rfl⟩
              rw [hp] at HPO HSU
              obtain ⟨CS, hCS⟩ : ∃ C, nlC N PK cs k = C := ⟨_, rfl⟩
              rw [hCS] at HS HSU hll
              have HLS : Hid ((nlC N PK cs (k + 1)).length = CS.length + 1) := Lib.hid (by rw [HSU.out]; simp)
              have HSX : Hid (∀ wx : World, Below wz.heap.size wz wx → wx.cell? ⟨sx, 2, none⟩ = some (.slice h4.C CS.length h4.e)) := Lib.hid fun wx hx => (three_cells ((hx.block sx hsxl).trans HS.out.box)).2.2
              clear PP hKc hps hp hCS hBI
              rw [hKe]
              clear hKe
              go_upto_region 17 with (fail)
              clear xk
              have FB_0 := Lib.hid (Below.refl wz.heap.size wz)
              refine wp_region_C_drew (c := 8) (S := fun wx => wx.cell? ⟨sx, 2, none⟩ = some (.slice h4.C CS.length h4.e)) (by kernel_rfl) (HSX.out _ (Below.refl _ _).drew) (fun hHeld => ?_)
              obtain ⟨wr1, hwr1⟩ : ∃ w', w' = wz.drew := ⟨_, rfl⟩
              rw [← hwr1] at hHeld ⊢
              have br1 : Below wz.heap.size wz wr1 := by rw [hwr1]; exact (Below.refl _ _).drew
              clear hwr1
              have FB_r2 := Lib.hid ((FB_0.out).trans ((br1).mono (FB_0.out).size))
              clear FB_0
              refine wpAnyC_take [0, 1, 6, 7, 8] (i := 0) (v := ?vr3) rfl (by kernel_rfl) (by kernel_rfl) (by kernel_rfl) (by kernel_rfl) (fun _ _ _ h => h) (Or.inl ⟨by rfl, ?yr3⟩) (by assumption) ?_
              case yr3 => (intro w hSw; (try dsimp only at hSw); go_simp; all_goals (with_reducible rfl))
              (try simp only [Act.put, List.setIfInBounds_toArray, List.set_cons_zero, List.set_cons_succ, List.getElem_toArray, List.getElem_cons_succ, List.getElem_cons_zero])
              refine wpAnyC_take [1, 6, 7, 8] (i := 1) (v := ?vr4) rfl (by kernel_rfl) (by kernel_rfl) (by kernel_rfl) (by kernel_rfl) (fun _ _ _ h => h) (Or.inl ⟨by rfl, ?yr4⟩) (by assumption) ?_
              case yr4 => (intro w hSw; (try dsimp only at hSw); go_simp; all_goals (with_reducible rfl))
              (try simp only [Act.put, List.setIfInBounds_toArray, List.set_cons_zero, List.set_cons_succ, List.getElem_toArray, List.getElem_cons_succ, List.getElem_cons_zero])
              refine wpAnyC_take [2, 4, 5, 6, 7, 8] (i := 2) (v := ?vr5) rfl (by kernel_rfl) (by kernel_rfl) (by kernel_rfl) (by kernel_rfl) (fun _ _ _ h => h) (Or.inl ⟨by rfl, ?yr5⟩) (by assumption) ?_
              case yr5 => (intro w hSw; (try dsimp only at hSw); go_simp; all_goals (with_reducible rfl))
              (try simp only [Act.put, List.setIfInBounds_toArray, List.set_cons_zero, List.set_cons_succ, List.getElem_toArray, List.getElem_cons_succ, List.getElem_cons_zero])
              refine wpAnyC_take [3, 4, 5, 6, 7, 8] (i := 3) (v := ?vr6) rfl (by kernel_rfl) (by kernel_rfl) (by kernel_rfl) (by kernel_rfl) (fun _ _ _ h => h) (Or.inl ⟨by rfl, ?yr6⟩) (by assumption) ?_
              case yr6 => (intro w hSw; (try dsimp only at hSw); go_simp; all_goals (with_reducible rfl))
              (try simp only [Act.put, List.setIfInBounds_toArray, List.set_cons_zero, List.set_cons_succ, List.getElem_toArray, List.getElem_cons_succ, List.getElem_cons_zero])
              refine wpAnyC_one (i := 4) (by kernel_rfl) (by rfl) rfl (fun K hK => ?_)
              go_simp
              refine (HPO.out wr1 FB_r2.out).mono ?_
              rintro e wq ⟨rfl, hwq⟩
              subst hwq
              dsimp only
              refine hK.out _ _ (hHeld) (fun hHeld => ?_)
              clear hK K
              (try simp only [Act.put, List.setIfInBounds_toArray, List.set_cons_zero, List.set_cons_succ, List.getElem_toArray, List.getElem_cons_succ, List.getElem_cons_zero])
              refine wpAnyC_one (i := 5) (by kernel_rfl) (by rfl) rfl (fun K hK => ?_)
              go_simp
              have FBU := FB_r2
              obtain ⟨wr7, hwr7⟩ : ∃ w', w' = wr1.alloc (.cells #[.int .i64 p] 2) := ⟨_, rfl⟩
              rw [← hwr7]
              have br7 : Below wr1.heap.size wr1 wr7 := by rw [hwr7]; exact (Below.refl _ _).alloc (Nat.le_refl _) _
              have HW9 := Lib.hid hwr7
              clear hwr7
              have FB_r8 := Lib.hid ((FB_r2.out).trans ((br7).mono (FB_r2.out).size))
              clear FB_r2
              clear br7
              refine hK.out _ _ (HSX.out _ FB_r8.out) (fun hHeld => ?_)
              clear hK K
              (try simp only [Act.put, List.setIfInBounds_toArray, List.set_cons_zero, List.set_cons_succ, List.getElem_toArray, List.getElem_cons_succ, List.getElem_cons_zero])
              refine wpAnyC_one (i := 6) (by kernel_rfl) (by rfl) rfl (fun K hK => ?_)
              have OW := Lib.hid (own_below HS.out.own.c FB_r8.out (Nat.le_refl _))
              have hz9 := FB_r8.out.size
              obtain ⟨H8, hH8⟩ : ∃ q, wr7.heap.size = q := ⟨_, rfl⟩
              have HN9 := Lib.hid (oneQ wr1 (.int .i64 p) 2)
              rw [← HW9.out] at HN9
              refine step_append_lies _ rfl _ _ 24 rfl u1.heap.size 2 i0 (.int .i64 0) 1 8 Tryz.underlying24 HI.out HZ0.out HZ1.out HZ2.out rfl (by decide) _ _ _ rfl OW.out ⟨wr1.heap.size, 0, none⟩ 1 1 [.int .i64 p] rfl rfl HN9.out (by intro u hu; simp at hu; subst hu; rfl) (by decide) (by simp only [maxLen]; (try dsimp only); omega) (by (try dsimp only); omega) (by omega) H8 hH8 ?_
              intro g9 cap9 w9 hown9 hgrow9 hat9 hlt9
              have O9 : w9.ownsRow u1.heap.size 2 1 (.slice (some ⟨g9, 0, none⟩) (nlC N PK cs (k + 1)).length cap9) (nlC N PK cs (k + 1)).length ((nlC N PK cs (k + 1)).map (Value.int .i64)) := by rw [HLS.out, HSU.out, List.map_append]; exact hown9
              have p9 := HS.out.pushC FB_r8.out O9 hgrow9 (hat9.imp (fun e => e.symm) (fun e => congrArg some (e.trans hH8.symm)))
              rw [HLS.out] at p9
              have hx9 := (hgrow9.block sx (Nat.lt_of_lt_of_le hsxl FB_r8.out.size) (fun e2 => (HS.out.far sx HS.out.sxl HS.out.sxf).c e2.symm)).trans ((FB_r8.out.block sx hsxl).trans HS.out.box)
              have HB9 := Lib.hid ((HS.out.bel.trans (FB_r8.out.mono HS.out.bel.size)).grown hgrow9 (by omega) (fun q hq => (HS.out.own.c.lt q hq).1))
              have HP9 := Lib.hid p9; have HX9 := Lib.hid hx9
              clear p9 hx9 hown9 hgrow9 hat9 hlt9 hH8 OW O9
              refine hK.out _ _ ((three_cells HX9.out).2.2) (fun hHeld => ?_)
              clear hK K
              (try simp only [Act.put, List.setIfInBounds_toArray, List.set_cons_zero, List.set_cons_succ, List.getElem_toArray, List.getElem_cons_succ, List.getElem_cons_zero])
              refine wpAnyC_take [7, 8] (i := 7) (v := ?vr9) rfl (by kernel_rfl) (by kernel_rfl) (by kernel_rfl) (by kernel_rfl) (fun _ _ _ h => h) (Or.inl ⟨by rfl, ?yr9⟩) (by assumption) ?_
              case yr9 => (intro w hSw; (try dsimp only at hSw); go_simp; all_goals (with_reducible rfl))
              (try simp only [Act.put, List.setIfInBounds_toArray, List.set_cons_zero, List.set_cons_succ, List.getElem_toArray, List.getElem_cons_succ, List.getElem_cons_zero])
              refine wpAnyC_last (by kernel_rfl) rfl (fun K hK => ?_)
              obtain ⟨a0, a1, a2⟩ := three_cells HX9.out
              have f0 := frozen_of_row _ _ 0 _ _ HX9.out; have f1 := frozen_of_row _ _ 1 _ _ HX9.out; have f2 := frozen_of_row _ _ 2 _ _ HX9.out
              go_simp
              clear a0 a1 a2 f0 f1 f2
              refine hK.out _ _ ?_
              clear hK K hHeld
              (try simp only [Act.put, List.setIfInBounds_toArray, List.set_cons_zero, List.set_cons_succ, List.getElem_toArray, List.getElem_cons_succ, List.getElem_cons_zero])
              refine wpAnyH_done (by kernel_rfl) ?_ _
              go_wp2
              go_roundw
              case rel => exact ⟨k + 1, by omega, by go_num, w4, _, HP9.out⟩
              case measure => simp [intOf]; omega
            · have hkl : k = cs.length := by omega
              subst hkl
              have HP0 := Lib.hid PP
              have gx := PP.box
              obtain ⟨x0, x1, x2⟩ := three_cells gx
              have BZ := Lib.hid (B1.out.trans (PP.bel.mono B1.out.size))
              have q1 := HK2.out _ BZ.out
              obtain ⟨a0, a1, a2⟩ := three_cells q1
              have f0 := frozen_of_row _ _ 0 _ _ q1; have f1 := frozen_of_row _ _ 1 _ _ q1; have f2 := frozen_of_row _ _ 2 _ _ q1
              have Q1 := Lib.hid q1
              have OF := Lib.hid (PP.own.more (show w0.heap.size ≤ u1.heap.size from hs1) (Nat.le_refl _))
              clear PP gx q1
              dsimp only at x0 x1 x2 OF
              generalize nlC N PK cs cs.length = CS at *
              go_wp2
              (try simp only [Exit.inBlock, Exit.then])
              refine bodyPost_ret (results_cell_row rfl _ _ (w.heap.size + 1) _ _ (0, 0) _ rfl (set3_at Q1.out _ _ _) Tryz.underlying30 rfl (by kernel_rfl)) rfl ?_
              exact copied_eq HEND.out (nlDone HB0.out BZ.out OF.out hs0)
end Go.Proofs.YtfdpkhiiboghiaaGreatDoor
