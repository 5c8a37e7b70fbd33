/- The program's RenumberNet. -/
import Derived.Test.YtjfhbofgnagfaaaDoorQPgK
import Derived.Test.YtjfhbofgnagfaaaDoorPgO
import Derived.Test.YtjfhbofgnagfaaaDoorQPgG
import Derived.Test.YtjfhbofgnagfaaaDoorQNetH
namespace Go.Proofs.YtjfhbofgnagfaaaDoor
set_option linter.unusedSimpArgs false
set_option linter.unusedVariables false
set_option linter.unusedSimpArgs false
set_option linter.unusedVariables false
open Go.ChangeAt Go.ChangeShapes Go.RowKit Go.WideShapes

theorem gives_refuse {w w' : World} (h : Below w.heap.size w w') : GivesNB w Nt.nil false (.returned (.tuple #[.agg #[.slice none 0 0, .slice none 0 0, .slice none 0 0], .bool false])) w' := ⟨NH.nil, rfl, OwnN.nil _ _ _, h⟩
theorem room_len (n m : Nat) : (roomN n m).w.length = n ∧ (roomN n m).l.length = m ∧ (roomN n m).c.length = 0 := by simp [roomN]
set_option maxHeartbeats 2000000 in
theorem rn_nv (h : NH) (N : Nt) (AP AR : Option Addr) (nP nR cP cR : Nat) (P R : List Int) (w : World) (r : RdN w w.heap.size h N) (sm : SmallN N) (rp : RdI w w.heap.size AP nP P) (rr : RdI w w.heap.size AR nR R) (hp : nP ≤ 1048576) (hr : nR ≤ 1048576) (ht : Arit w) (hu : Dual w) (hv : valN N = false) :
    Calls Tryd.prog 24 #[.agg #[.slice h.A N.w.length h.c, .slice h.L N.l.length h.d, .slice h.C N.c.length h.e], .slice AP nP cP, .slice AR nR cR] w (GivesNB w Nt.nil false) := by
  have hlp := rp.len
  have hlr := rr.len
  subst hlp hlr
  obtain ⟨w3, hw3⟩ : ∃ w3, w3 = (w.alloc (.cells #[.slice h.A N.w.length h.c, .slice h.L N.l.length h.d, .slice h.C N.c.length h.e] 28)).alloc (.cells #[.slice none 0 0, .slice none 0 0, .slice none 0 0] 28) := ⟨_, rfl⟩
  obtain ⟨hb, g0, g1, hsz⟩ := two_any' w (.cells #[.slice h.A N.w.length h.c, .slice h.L N.l.length h.d, .slice h.C N.c.length h.e] 28) (.cells #[.slice none 0 0, .slice none 0 0, .slice none 0 0] 28)
  rw [← hw3] at hb g0 g1 hsz
  obtain ⟨y0, y1, y2⟩ := three_cells g0
  have HK := Lib.hid (fun (wx : World) (hx : Below w3.heap.size w3 wx) => three_cells ((hx.block w.heap.size (by omega)).trans g0))
  have HK2 := Lib.hid (fun (wx : World) (hx : Below w3.heap.size w3 wx) => (hx.block (w.heap.size + 1) (by omega)).trans g1)
  have HB0 := Lib.hid hb
  have HS3 : Hid (w.heap.size + 2 = w3.heap.size) := Lib.hid (by omega)
  have s1' := sm.w; have s2' := sm.l
  have hV := validNet_impl h N w3 ((r.below hb).more hb.size) sm (ht.below hb ht.lt) (hu.below hb hu.lt)
  rw [hv] at hV
  have HV := Lib.hid hV
  clear hb g0 g1 hsz hV r sm rp rr hp hr ht hu hv
  go_enter Tryd.func24, Tryd.ntmps24
  go_wp2_with (fail)
  rw [← hw3]
  clear hw3
  refine HV.out.mono ?_
  rintro e w4 ⟨rfl, b4⟩
  have B4 := Lib.hid b4
  clear b4 y0 y1 y2
  have q7 := HK2.out _ B4.out
  obtain ⟨a0, a1, a2⟩ := three_cells q7
  have f0 := frozen_of_row _ _ 0 _ _ q7; have f1 := frozen_of_row _ _ 1 _ _ q7; have f2 := frozen_of_row _ _ 2 _ _ q7
  have H7 := Lib.hid (set3_at q7 (.slice none 0 0) (.slice none 0 0) (.slice none 0 0))
  have HF := Lib.hid (gives_refuse (set3_below (HB0.out.trans (B4.out.mono HB0.out.size)) (show w.heap.size ≤ w.heap.size + 1 by omega) (.slice none 0 0) (.slice none 0 0) (.slice none 0 0)))
  clear q7
  go_wp2
  (try simp only [Exit.inBlock, Exit.then])
  refine bodyPost_ret (results_cell_row_tmp rfl _ _ (w.heap.size + 1) _ _ (0, 0) _ rfl H7.out Tryd.underlying28 rfl (by kernel_rfl)) rfl ?_
  exact HF.out
set_option maxHeartbeats 2000000 in
theorem rn_np (h : NH) (N : Nt) (AP AR : Option Addr) (nP nR cP cR : Nat) (P R : List Int) (w : World) (r : RdN w w.heap.size h N) (sm : SmallN N) (rp : RdI w w.heap.size AP nP P) (rr : RdI w w.heap.size AR nR R) (hp : nP ≤ 1048576) (hr : nR ≤ 1048576) (ht : Arit w) (hu : Dual w) (hv : valN N = true) (hP : permB P N.w.length = false) :
    Calls Tryd.prog 24 #[.agg #[.slice h.A N.w.length h.c, .slice h.L N.l.length h.d, .slice h.C N.c.length h.e], .slice AP nP cP, .slice AR nR cR] w (GivesNB w Nt.nil false) := by
  have hlp := rp.len
  have hlr := rr.len
  subst hlp hlr
  obtain ⟨w3, hw3⟩ : ∃ w3, w3 = (w.alloc (.cells #[.slice h.A N.w.length h.c, .slice h.L N.l.length h.d, .slice h.C N.c.length h.e] 28)).alloc (.cells #[.slice none 0 0, .slice none 0 0, .slice none 0 0] 28) := ⟨_, rfl⟩
  obtain ⟨hb, g0, g1, hsz⟩ := two_any' w (.cells #[.slice h.A N.w.length h.c, .slice h.L N.l.length h.d, .slice h.C N.c.length h.e] 28) (.cells #[.slice none 0 0, .slice none 0 0, .slice none 0 0] 28)
  rw [← hw3] at hb g0 g1 hsz
  obtain ⟨y0, y1, y2⟩ := three_cells g0
  have HK := Lib.hid (fun (wx : World) (hx : Below w3.heap.size w3 wx) => three_cells ((hx.block w.heap.size (by omega)).trans g0))
  have HK2 := Lib.hid (fun (wx : World) (hx : Below w3.heap.size w3 wx) => (hx.block (w.heap.size + 1) (by omega)).trans g1)
  have HB0 := Lib.hid hb
  have HS3 : Hid (w.heap.size + 2 = w3.heap.size) := Lib.hid (by omega)
  have s1' := sm.w; have s2' := sm.l
  have hV := validNet_impl h N w3 ((r.below hb).more hb.size) sm (ht.below hb ht.lt) (hu.below hb hu.lt)
  rw [hv] at hV
  have HV := Lib.hid hV
  have hpp := fun (wx : World) (hx : Below w3.heap.size w3 wx) => isPerm_any AP P.length cP N.w.length P wx ((rp.below (HB0.out.trans (hx.mono HB0.out.size))).more (HB0.out.trans (hx.mono HB0.out.size)).size) hp s1'
  rw [hP] at hpp
  have HPP := Lib.hid hpp
  clear hpp
  clear hb g0 g1 hsz hV r sm rp rr hp hr ht hu hv hP
  go_enter Tryd.func24, Tryd.ntmps24
  go_wp2_with (fail)
  rw [← hw3]
  clear hw3
  refine HV.out.mono ?_
  rintro e w4 ⟨rfl, b4⟩
  have B4 := Lib.hid b4
  clear b4 y0 y1 y2
  obtain ⟨y0, y1, y2⟩ := HK.out _ B4.out
  go_wp2_with (fail)
  refine (HPP.out w4 B4.out).mono ?_
  rintro e w5 ⟨rfl, b5⟩
  have B5 := Lib.hid (B4.out.trans (b5.mono B4.out.size))
  clear b5 y0 y1 y2
  have q7 := HK2.out _ B5.out
  obtain ⟨a0, a1, a2⟩ := three_cells q7
  have f0 := frozen_of_row _ _ 0 _ _ q7; have f1 := frozen_of_row _ _ 1 _ _ q7; have f2 := frozen_of_row _ _ 2 _ _ q7
  have H7 := Lib.hid (set3_at q7 (.slice none 0 0) (.slice none 0 0) (.slice none 0 0))
  have HF := Lib.hid (gives_refuse (set3_below (HB0.out.trans (B5.out.mono HB0.out.size)) (show w.heap.size ≤ w.heap.size + 1 by omega) (.slice none 0 0) (.slice none 0 0) (.slice none 0 0)))
  clear q7
  go_wp2
  (try simp only [Exit.inBlock, Exit.then])
  refine bodyPost_ret (results_cell_row_tmp rfl _ _ (w.heap.size + 1) _ _ (0, 0) _ rfl H7.out Tryd.underlying28 rfl (by kernel_rfl)) rfl ?_
  exact HF.out
set_option maxHeartbeats 2000000 in
theorem rn_nr (h : NH) (N : Nt) (AP AR : Option Addr) (nP nR cP cR : Nat) (P R : List Int) (w : World) (r : RdN w w.heap.size h N) (sm : SmallN N) (rp : RdI w w.heap.size AP nP P) (rr : RdI w w.heap.size AR nR R) (hp : nP ≤ 1048576) (hr : nR ≤ 1048576) (ht : Arit w) (hu : Dual w) (hv : valN N = true) (hP : permB P N.w.length = true) (hR : permB R N.l.length = false) :
    Calls Tryd.prog 24 #[.agg #[.slice h.A N.w.length h.c, .slice h.L N.l.length h.d, .slice h.C N.c.length h.e], .slice AP nP cP, .slice AR nR cR] w (GivesNB w Nt.nil false) := by
  have hlp := rp.len
  have hlr := rr.len
  subst hlp hlr
  obtain ⟨w3, hw3⟩ : ∃ w3, w3 = (w.alloc (.cells #[.slice h.A N.w.length h.c, .slice h.L N.l.length h.d, .slice h.C N.c.length h.e] 28)).alloc (.cells #[.slice none 0 0, .slice none 0 0, .slice none 0 0] 28) := ⟨_, rfl⟩
  obtain ⟨hb, g0, g1, hsz⟩ := two_any' w (.cells #[.slice h.A N.w.length h.c, .slice h.L N.l.length h.d, .slice h.C N.c.length h.e] 28) (.cells #[.slice none 0 0, .slice none 0 0, .slice none 0 0] 28)
  rw [← hw3] at hb g0 g1 hsz
  obtain ⟨y0, y1, y2⟩ := three_cells g0
  have HK := Lib.hid (fun (wx : World) (hx : Below w3.heap.size w3 wx) => three_cells ((hx.block w.heap.size (by omega)).trans g0))
  have HK2 := Lib.hid (fun (wx : World) (hx : Below w3.heap.size w3 wx) => (hx.block (w.heap.size + 1) (by omega)).trans g1)
  have HB0 := Lib.hid hb
  have HS3 : Hid (w.heap.size + 2 = w3.heap.size) := Lib.hid (by omega)
  have s1' := sm.w; have s2' := sm.l
  have hV := validNet_impl h N w3 ((r.below hb).more hb.size) sm (ht.below hb ht.lt) (hu.below hb hu.lt)
  rw [hv] at hV
  have HV := Lib.hid hV
  have hpp := fun (wx : World) (hx : Below w3.heap.size w3 wx) => isPerm_any AP P.length cP N.w.length P wx ((rp.below (HB0.out.trans (hx.mono HB0.out.size))).more (HB0.out.trans (hx.mono HB0.out.size)).size) hp s1'
  rw [hP] at hpp
  have HPP := Lib.hid hpp
  clear hpp
  have hpr := fun (wx : World) (hx : Below w3.heap.size w3 wx) => isPerm_any AR R.length cR N.l.length R wx ((rr.below (HB0.out.trans (hx.mono HB0.out.size))).more (HB0.out.trans (hx.mono HB0.out.size)).size) hr s2'
  rw [hR] at hpr
  have HPR := Lib.hid hpr
  clear hpr
  clear hb g0 g1 hsz hV r sm rp rr hp hr ht hu hv hP hR
  go_enter Tryd.func24, Tryd.ntmps24
  go_wp2_with (fail)
  rw [← hw3]
  clear hw3
  refine HV.out.mono ?_
  rintro e w4 ⟨rfl, b4⟩
  have B4 := Lib.hid b4
  clear b4 y0 y1 y2
  obtain ⟨y0, y1, y2⟩ := HK.out _ B4.out
  go_wp2_with (fail)
  refine (HPP.out w4 B4.out).mono ?_
  rintro e w5 ⟨rfl, b5⟩
  have B5 := Lib.hid (B4.out.trans (b5.mono B4.out.size))
  clear b5 y0 y1 y2
  obtain ⟨y0, y1, y2⟩ := HK.out _ B5.out
  go_wp2_with (fail)
  refine (HPR.out w5 B5.out).mono ?_
  rintro e w6 ⟨rfl, b6⟩
  have B6 := Lib.hid (B5.out.trans (b6.mono B5.out.size))
  clear b6 y0 y1 y2
  have q7 := HK2.out _ B6.out
  obtain ⟨a0, a1, a2⟩ := three_cells q7
  have f0 := frozen_of_row _ _ 0 _ _ q7; have f1 := frozen_of_row _ _ 1 _ _ q7; have f2 := frozen_of_row _ _ 2 _ _ q7
  have H7 := Lib.hid (set3_at q7 (.slice none 0 0) (.slice none 0 0) (.slice none 0 0))
  have HF := Lib.hid (gives_refuse (set3_below (HB0.out.trans (B6.out.mono HB0.out.size)) (show w.heap.size ≤ w.heap.size + 1 by omega) (.slice none 0 0) (.slice none 0 0) (.slice none 0 0)))
  clear q7
  go_wp2
  (try simp only [Exit.inBlock, Exit.then])
  refine bodyPost_ret (results_cell_row_tmp rfl _ _ (w.heap.size + 1) _ _ (0, 0) _ rfl H7.out Tryd.underlying28 rfl (by kernel_rfl)) rfl ?_
  exact HF.out
theorem heap_drew {u : World} {b : Nat} {o : Option Obj} (h : u.heap[b]? = o) : u.drew.heap[b]? = o := h
theorem gives_drew {w w' : World} {N : Nt} {b : Bool} {e : Ending} (h : GivesNB w N b e w') : GivesNB w N b e w'.drew := by
  obtain ⟨x, e1, o, bel⟩ := h
  exact ⟨x, e1, o.same (fun _ _ _ _ => rfl), bel.drew⟩
theorem rn_out {w w3 wb u : World} {h2 : NH} {M : Nt} (hb : Below w.heap.size w w3) (hs : w.heap.size + 2 = w3.heap.size) (hw : Below w3.heap.size w3 u) (hwb : w3.heap.size ≤ wb.heap.size) (o : OwnN u wb.heap.size u.heap.size h2 M) :
    GivesNB w M true (.returned (.tuple #[.agg #[.slice h2.A M.w.length h2.c, .slice h2.L M.l.length h2.d, .slice h2.C M.c.length h2.e], .bool true])) (((u.setCell ⟨w.heap.size + 1, 0, none⟩ (.slice h2.A M.w.length h2.c)).setCell ⟨w.heap.size + 1, 1, none⟩ (.slice h2.L M.l.length h2.d)).setCell ⟨w.heap.size + 1, 2, none⟩ (.slice h2.C M.c.length h2.e)) :=
  ⟨h2, rfl, (own_setN (own_setN (own_setN o (by omega) _) (by omega) _) (by omega) _).more (by omega) (by simp), set3_below (hb.trans (hw.mono hb.size)) (show w.heap.size ≤ w.heap.size + 1 by omega) _ _ _⟩
set_option maxRecDepth 100000 in
set_option maxHeartbeats 4000000 in
theorem rn_ok (h : NH) (N : Nt) (AP AR : Option Addr) (nP nR cP cR : Nat) (P R : List Int) (w : World) (r : RdN w w.heap.size h N) (sm : SmallN N) (rp : RdI w w.heap.size AP nP P) (rr : RdI w w.heap.size AR nR R) (hp : nP ≤ 1048576) (hr : nR ≤ 1048576) (ht : Arit w) (hu : Dual w) (hv : valN N = true) (hP : permB P N.w.length = true) (hR : permB R N.l.length = true) :
    Calls Tryd.prog 24 #[.agg #[.slice h.A N.w.length h.c, .slice h.L N.l.length h.d, .slice h.C N.c.length h.e], .slice AP nP cP, .slice AR nR cR] w (GivesNB w (rnN N P R) true) := by
  have hlp := rp.len
  have hlr := rr.len
  subst hlp hlr
  obtain ⟨w3, hw3⟩ : ∃ w3, w3 = (w.alloc (.cells #[.slice h.A N.w.length h.c, .slice h.L N.l.length h.d, .slice h.C N.c.length h.e] 28)).alloc (.cells #[.slice none 0 0, .slice none 0 0, .slice none 0 0] 28) := ⟨_, rfl⟩
  obtain ⟨hb, g0, g1, hsz⟩ := two_any' w (.cells #[.slice h.A N.w.length h.c, .slice h.L N.l.length h.d, .slice h.C N.c.length h.e] 28) (.cells #[.slice none 0 0, .slice none 0 0, .slice none 0 0] 28)
  rw [← hw3] at hb g0 g1 hsz
  obtain ⟨y0, y1, y2⟩ := three_cells g0
  have HK := Lib.hid (fun (wx : World) (hx : Below w3.heap.size w3 wx) => three_cells ((hx.block w.heap.size (by omega)).trans g0))
  have HK2 := Lib.hid (fun (wx : World) (hx : Below w3.heap.size w3 wx) => (hx.block (w.heap.size + 1) (by omega)).trans g1)
  have HB0 := Lib.hid hb
  have HS3 : Hid (w.heap.size + 2 = w3.heap.size) := Lib.hid (by omega)
  have s1' := sm.w; have s2' := sm.l
  have hV := validNet_impl h N w3 ((r.below hb).more hb.size) sm (ht.below hb ht.lt) (hu.below hb hu.lt)
  rw [hv] at hV
  have HV := Lib.hid hV
  have hpp := fun (wx : World) (hx : Below w3.heap.size w3 wx) => isPerm_any AP P.length cP N.w.length P wx ((rp.below (HB0.out.trans (hx.mono HB0.out.size))).more (HB0.out.trans (hx.mono HB0.out.size)).size) hp s1'
  rw [hP] at hpp
  have HPP := Lib.hid hpp
  clear hpp
  have hpr := fun (wx : World) (hx : Below w3.heap.size w3 wx) => isPerm_any AR R.length cR N.l.length R wx ((rr.below (HB0.out.trans (hx.mono HB0.out.size))).more (HB0.out.trans (hx.mono HB0.out.size)).size) hr s2'
  rw [hR] at hpr
  have HPR := Lib.hid hpr
  clear hpr
  clear hb g0 g1 hsz hV
  have s1 := (valN_size hv).1; have s2 := (valN_size hv).2
  obtain ⟨M, hM⟩ : ∃ M, rnN N P R = M := ⟨_, rfl⟩
  have hpl := rnN_place hv hP hR
  rw [hM] at hpl ⊢
  obtain ⟨T, hT⟩ : ∃ T, roomN N.w.length N.l.length = T := ⟨_, rfl⟩
  have hTl := room_len N.w.length N.l.length
  rw [hT] at hpl hTl
  have HNR := Lib.hid (fun wx : World => show Calls Tryd.prog 54 #[.int .i64 N.w.length, .int .i64 N.l.length] wx (CopiedN wx T) from hT ▸ netWithRoom_any N.w.length N.l.length wx (by omega) (by omega))
  have HPL := Lib.hid (fun (wb wx : World) (hT : NH) (o : OwnN wx wb.heap.size wx.heap.size hT T) (hbx : Below wb.heap.size wb wx) (hw0 : Below w3.heap.size w3 wb) => by
    have hw := HB0.out.trans (hw0.mono HB0.out.size)
    have hwx := hw.trans (hbx.mono hw.size)
    have h3 := placed_any wb wx hT T h N AP AR cP cR P R o hbx ((r.below hw).more hw.size) ((rp.below hwx).more hwx.size)
      (fun h0 b off e => by
        obtain ⟨b', off', e', hb', _⟩ := rp.2 h0
        rw [e] at e'
        injection e' with e'
        injection e' with e4 e5 e6
        have := hw.size
        exact o.far_lt (by omega))
      ((rr.below hwx).more hwx.size)
      (fun h0 b off e => by
        obtain ⟨b', off', e', hb', _⟩ := rr.2 h0
        rw [e] at e'
        injection e' with e'
        injection e' with e4 e5 e6
        have := hw.size
        exact o.far_lt (by omega))
      hv (permB_all hP).2 (by rw [hTl.1]; exact (permB_all hP).1) (permB_all hR).2 (by rw [hTl.2.1]; exact (permB_all hR).1) (by omega) (by omega) (by omega)
    rw [hpl] at h3
    exact h3)
  clear hM hpl hT hTl r sm rp rr ht hu hv hP hR hp hr
  go_enter Tryd.func24, Tryd.ntmps24
  go_wp2_with (fail)
  rw [← hw3]
  clear hw3
  refine HV.out.mono ?_
  rintro e w4 ⟨rfl, b4⟩
  have B4 := Lib.hid b4
  clear b4 y0 y1 y2
  obtain ⟨y0, y1, y2⟩ := HK.out _ B4.out
  go_wp2_with (fail)
  refine (HPP.out w4 B4.out).mono ?_
  rintro e w5 ⟨rfl, b5⟩
  have B5 := Lib.hid (B4.out.trans (b5.mono B4.out.size))
  clear b5 y0 y1 y2
  obtain ⟨y0, y1, y2⟩ := HK.out _ B5.out
  go_wp2_with (fail)
  refine (HPR.out w5 B5.out).mono ?_
  rintro e w6 ⟨rfl, b6⟩
  have B6 := Lib.hid (B5.out.trans (b6.mono B5.out.size))
  clear b6 y0 y1 y2
  obtain ⟨y0, y1, y2⟩ := HK.out _ B6.out
  have K0 := Lib.hid (HK.out _ B6.out)
  have hHN := HNR.out w6.drew
  have HHN := Lib.hid hHN
  have tok1 : True := trivial
  clear hHN
  go_upto_region 3 with (fail)
  clear y0 y1 y2
  go_region_held3 (fun wx => wx.cell? ⟨w.heap.size, 0, none⟩ = some (.slice h.A N.w.length h.c) ∧ wx.cell? ⟨w.heap.size, 1, none⟩ = some (.slice h.L N.l.length h.d) ∧ wx.cell? ⟨w.heap.size, 2, none⟩ = some (.slice h.C N.c.length h.e))
    (first | exact K0.out | exact K1.out | exact K2.out | exact K5.out)
    (first
      | (have _t := tok1
         go_at_call 54
         refine HHN.out.mono ?_
         rintro e u1 ⟨hR1, rfl, oR, bR'⟩
         have bR := undrew bR'
         have HOR := Lib.hid (show OwnN u1 w6.heap.size u1.heap.size hR1 T from oR)
         have HBR := Lib.hid bR
         have K1 := Lib.hid (HK.out _ (B6.out.trans (bR.mono B6.out.size)))
         have tok2 : True := trivial
         clear oR bR bR' tok1)
      | (have _t := tok2
         go_at_call 55
         refine (HPL.out w6 u1 hR1 HOR.out HBR.out B6.out).mono ?_
         rintro e u2 ⟨h2, rfl, o2, b2, s2', k2⟩
         have bb := B6.out.trans (b2.mono B6.out.size)
         have K2 := Lib.hid (HK.out _ bb)
         have q7 := HK2.out _ bb
         obtain ⟨a0, a1, a2⟩ := three_cells q7
         have f0 := frozen_of_row _ _ 0 _ _ q7; have f1 := frozen_of_row _ _ 1 _ _ q7; have f2 := frozen_of_row _ _ 2 _ _ q7
         have h7 := set3_at q7 (.slice h2.A M.w.length h2.c) (.slice h2.L M.l.length h2.d) (.slice h2.C M.c.length h2.e)
         have k5 := HK.out _ bb
         have K5 := Lib.hid (And.intro (farW_cell (i := 2) (u := .slice h2.C M.c.length h2.e) (farW_cell (i := 1) (u := .slice h2.L M.l.length h2.d) (farW_cell (i := 0) (u := .slice h2.A M.w.length h2.c) k5.1 (show w.heap.size + 1 ≠ w.heap.size by omega)) (show w.heap.size + 1 ≠ w.heap.size by omega)) (show w.heap.size + 1 ≠ w.heap.size by omega))
           (And.intro (farW_cell (i := 2) (u := .slice h2.C M.c.length h2.e) (farW_cell (i := 1) (u := .slice h2.L M.l.length h2.d) (farW_cell (i := 0) (u := .slice h2.A M.w.length h2.c) k5.2.1 (show w.heap.size + 1 ≠ w.heap.size by omega)) (show w.heap.size + 1 ≠ w.heap.size by omega)) (show w.heap.size + 1 ≠ w.heap.size by omega))
             (farW_cell (i := 2) (u := .slice h2.C M.c.length h2.e) (farW_cell (i := 1) (u := .slice h2.L M.l.length h2.d) (farW_cell (i := 0) (u := .slice h2.A M.w.length h2.c) k5.2.2 (show w.heap.size + 1 ≠ w.heap.size by omega)) (show w.heap.size + 1 ≠ w.heap.size by omega)) (show w.heap.size + 1 ≠ w.heap.size by omega))))
         have H7 := Lib.hid h7
         have HF := Lib.hid (rn_out (w := w) HB0.out HS3.out bb B6.out.size o2)
         clear q7 h7 k5 bb o2 b2 s2' k2 tok2))
  all_goals
    go_wp2
    (try simp only [Exit.inBlock, Exit.then])
    first
      | (refine bodyPost_ret (results_cell_row_tmp rfl _ _ (w.heap.size + 1) _ _ (0, 0) _ rfl H7.out Tryd.underlying28 rfl (by kernel_rfl)) rfl ?_
         exact HF.out)
      | (refine bodyPost_ret (results_cell_row_tmp rfl _ _ (w.heap.size + 1) _ _ (0, 0) _ rfl (heap_drew H7.out) Tryd.underlying28 rfl (by kernel_rfl)) rfl ?_
         exact gives_drew HF.out)
theorem renumberNet_impl (h : NH) (N : Nt) (AP AR : Option Addr) (nP nR cP cR : Nat) (P R : List Int) (w : World) (r : RdN w w.heap.size h N) (sm : SmallN N) (rp : RdI w w.heap.size AP nP P) (rr : RdI w w.heap.size AR nR R) (hp : nP ≤ 1048576) (hr : nR ≤ 1048576) (ht : Arit w) (hu : Dual w) :
    Calls Tryd.prog 24 #[.agg #[.slice h.A N.w.length h.c, .slice h.L N.l.length h.d, .slice h.C N.c.length h.e], .slice AP nP cP, .slice AR nR cR] w (GivesNB w (rnV N P R) (rnB N P R)) := by
  cases hb : rnB N P R with
  | true =>
    rw [rnV_yes hb]
    unfold rnB at hb
    rw [Bool.and_eq_true, Bool.and_eq_true] at hb
    exact rn_ok h N AP AR nP nR cP cR P R w r sm rp rr hp hr ht hu hb.1 hb.2.1 hb.2.2
  | false =>
    rw [rnV_no hb]
    cases hv : valN N with
    | false => exact rn_nv h N AP AR nP nR cP cR P R w r sm rp rr hp hr ht hu hv
    | true =>
      cases hP : permB P N.w.length with
      | false => exact rn_np h N AP AR nP nR cP cR P R w r sm rp rr hp hr ht hu hv hP
      | true =>
        cases hR : permB R N.l.length with
        | false => exact rn_nr h N AP AR nP nR cP cR P R w r sm rp rr hp hr ht hu hv hP hR
        | true => unfold rnB at hb; rw [hv, hP, hR] at hb; cases hb
end Go.Proofs.YtjfhbofgnagfaaaDoor
