/- The program's LinkNet. Made by mkpgs.py. -/
import Derived.Test.YtdcommmefehlgaaDoorQPgL
import Derived.Test.YtdcommmefehlgaaDoorQPgK
import Derived.Test.YtdcommmefehlgaaDoorQPgT
import Derived.Test.YtdcommmefehlgaaDoorQPgG
import Derived.Test.YtdcommmefehlgaaDoorNetT
namespace Go.Proofs.YtdcommmefehlgaaDoor
set_option linter.unusedSimpArgs false
set_option linter.unusedVariables false
open Go.ChangeAt Go.ChangeShapes Go.RowKit Go.WideShapes

theorem rd_pair {w : World} {g : Nat} {x y : Int} (h : w.heap[g]? = some (.cells #[Value.int .i64 x, Value.int .i64 y] 2 (0, 0))) : RdI w w.heap.size (some ⟨g, 0, none⟩) 2 [x, y] :=
  ⟨rfl, fun _ => ⟨g, 0, rfl, (Array.getElem?_eq_some_iff.1 h).1, fun j hj => by
    have e : j = 0 ∨ j = 1 := by omega
    rcases e with rfl | rfl
    · exact cell_of_row _ _ 0 _ _ _ h
    · exact cell_of_row _ _ 1 _ _ _ h⟩⟩

set_option maxHeartbeats 2000000 in
theorem lk_n0 (h : NH) (N : Nt) (k i j : Int) (w : World) (r : RdN w w.heap.size h N) (sm : SmallN N) (ht : Arit w) (hu : Dual w) (hk : kindB k = false) :
    Calls Tryd.prog 17 #[.agg #[.slice h.A N.w.length h.c, .slice h.L N.l.length h.d, .slice h.C N.c.length h.e], .int .i64 k, .int .i64 i, .int .i64 j] w (GivesNB w Nt.nil false) := by
  obtain ⟨w3, hw3⟩ : ∃ w3, w3 = (w.alloc (.cells #[.slice h.A N.w.length h.c, .slice h.L N.l.length h.d, .slice h.C N.c.length h.e] 30)).alloc (.cells #[.slice none 0 0, .slice none 0 0, .slice none 0 0] 30) := ⟨_, rfl⟩
  obtain ⟨hb, g0, g1, hsz⟩ := two_any' w (.cells #[.slice h.A N.w.length h.c, .slice h.L N.l.length h.d, .slice h.C N.c.length h.e] 30) (.cells #[.slice none 0 0, .slice none 0 0, .slice none 0 0] 30)
  rw [← hw3] at hb g0 g1 hsz
  obtain ⟨y0, y1, y2⟩ := three_cells g0
  have HK := Lib.hid (fun (wx : World) (hx : Below w3.heap.size w3 wx) => three_cells ((hx.block w.heap.size (by omega)).trans g0))
  have HK2 := Lib.hid (fun (wx : World) (hx : Below w3.heap.size w3 wx) => (hx.block (w.heap.size + 1) (by omega)).trans g1)
  have HB0 := Lib.hid hb
  have HS3 : Hid (w.heap.size + 2 = w3.heap.size) := Lib.hid (by omega)
  have s3' := sm.c
  have HJ := Lib.hid (joins_any k)
  have HV := Lib.hid (fun (wx : World) (hx : Below w3.heap.size w3 wx) => validNet_impl h N wx (((r.below hb).more hb.size |>.below hx).more hx.size) sm ((ht.below hb ht.lt).below hx (ht.below hb ht.lt).lt) ((hu.below hb hu.lt).below hx (hu.below hb hu.lt).lt))
  have HI := Lib.hid (fun (wx : World) => isConclusion_any h.A h.L h.C N.w.length h.c N.l.length h.d N.c.length h.e i wx (by unfold maxLen; omega))
  have HJ2 := Lib.hid (fun (wx : World) => isConclusion_any h.A h.L h.C N.w.length h.c N.l.length h.d N.c.length h.e j wx (by unfold maxLen; omega))
  have Q0 := HJ.out; simp only [hk] at Q0; have R0 := Lib.hid Q0; clear Q0
  clear HJ HV HI HJ2
  clear hb g0 g1 hsz r sm ht hu hk
  go_enter Tryd.func17, Tryd.ntmps17
  go_wp2_with (fail)
  rw [← hw3]
  clear hw3
  refine (R0.out _).mono ?_
  rintro e w4 ⟨rfl, rfl⟩
  have B := Lib.hid (Below.refl w3.heap.size w3)
  clear y0 y1 y2
  have q7 := HK2.out _ B.out
  obtain ⟨a0, a1, a2⟩ := three_cells q7
  have f0 := frozen_of_row _ _ 0 _ _ q7; have f1 := frozen_of_row _ _ 1 _ _ q7; have f2 := frozen_of_row _ _ 2 _ _ q7
  have H7 := Lib.hid (set3_at q7 (.slice none 0 0) (.slice none 0 0) (.slice none 0 0))
  have HF := Lib.hid (gives_refuse (set3_below (HB0.out.trans (B.out.mono HB0.out.size)) (show w.heap.size ≤ w.heap.size + 1 by omega) (.slice none 0 0) (.slice none 0 0) (.slice none 0 0)))
  clear q7
  go_wp2
  (try simp only [Exit.inBlock, Exit.then])
  refine bodyPost_ret (results_cell_row_tmp rfl _ _ (w.heap.size + 1) _ _ (0, 0) _ rfl H7.out Tryd.underlying30 rfl (by kernel_rfl)) rfl ?_
  exact HF.out
set_option maxHeartbeats 2000000 in
theorem lk_n1 (h : NH) (N : Nt) (k i j : Int) (w : World) (r : RdN w w.heap.size h N) (sm : SmallN N) (ht : Arit w) (hu : Dual w) (hk : kindB k = true) (hv : valN N = false) :
    Calls Tryd.prog 17 #[.agg #[.slice h.A N.w.length h.c, .slice h.L N.l.length h.d, .slice h.C N.c.length h.e], .int .i64 k, .int .i64 i, .int .i64 j] w (GivesNB w Nt.nil false) := by
  obtain ⟨w3, hw3⟩ : ∃ w3, w3 = (w.alloc (.cells #[.slice h.A N.w.length h.c, .slice h.L N.l.length h.d, .slice h.C N.c.length h.e] 30)).alloc (.cells #[.slice none 0 0, .slice none 0 0, .slice none 0 0] 30) := ⟨_, rfl⟩
  obtain ⟨hb, g0, g1, hsz⟩ := two_any' w (.cells #[.slice h.A N.w.length h.c, .slice h.L N.l.length h.d, .slice h.C N.c.length h.e] 30) (.cells #[.slice none 0 0, .slice none 0 0, .slice none 0 0] 30)
  rw [← hw3] at hb g0 g1 hsz
  obtain ⟨y0, y1, y2⟩ := three_cells g0
  have HK := Lib.hid (fun (wx : World) (hx : Below w3.heap.size w3 wx) => three_cells ((hx.block w.heap.size (by omega)).trans g0))
  have HK2 := Lib.hid (fun (wx : World) (hx : Below w3.heap.size w3 wx) => (hx.block (w.heap.size + 1) (by omega)).trans g1)
  have HB0 := Lib.hid hb
  have HS3 : Hid (w.heap.size + 2 = w3.heap.size) := Lib.hid (by omega)
  have s3' := sm.c
  have HJ := Lib.hid (joins_any k)
  have HV := Lib.hid (fun (wx : World) (hx : Below w3.heap.size w3 wx) => validNet_impl h N wx (((r.below hb).more hb.size |>.below hx).more hx.size) sm ((ht.below hb ht.lt).below hx (ht.below hb ht.lt).lt) ((hu.below hb hu.lt).below hx (hu.below hb hu.lt).lt))
  have HI := Lib.hid (fun (wx : World) => isConclusion_any h.A h.L h.C N.w.length h.c N.l.length h.d N.c.length h.e i wx (by unfold maxLen; omega))
  have HJ2 := Lib.hid (fun (wx : World) => isConclusion_any h.A h.L h.C N.w.length h.c N.l.length h.d N.c.length h.e j wx (by unfold maxLen; omega))
  have Q0 := HJ.out; simp only [hk] at Q0; have R0 := Lib.hid Q0; clear Q0
  have Q1 := HV.out; simp only [hv] at Q1; have R1 := Lib.hid Q1; clear Q1
  clear HJ HV HI HJ2
  clear hb g0 g1 hsz r sm ht hu hk hv
  go_enter Tryd.func17, Tryd.ntmps17
  go_wp2_with (fail)
  rw [← hw3]
  clear hw3
  refine (R0.out _).mono ?_
  rintro e w4 ⟨rfl, rfl⟩
  have B := Lib.hid (Below.refl w3.heap.size w3)
  go_wp2_with (fail)
  refine (R1.out _ B.out).mono ?_
  rintro e w5 ⟨rfl, b1⟩
  have B' := Lib.hid (B.out.trans (b1.mono B.out.size))
  clear B b1 y0 y1 y2; have B := B'; clear B'
  obtain ⟨y0, y1, y2⟩ := HK.out _ B.out
  clear y0 y1 y2
  have q7 := HK2.out _ B.out
  obtain ⟨a0, a1, a2⟩ := three_cells q7
  have f0 := frozen_of_row _ _ 0 _ _ q7; have f1 := frozen_of_row _ _ 1 _ _ q7; have f2 := frozen_of_row _ _ 2 _ _ q7
  have H7 := Lib.hid (set3_at q7 (.slice none 0 0) (.slice none 0 0) (.slice none 0 0))
  have HF := Lib.hid (gives_refuse (set3_below (HB0.out.trans (B.out.mono HB0.out.size)) (show w.heap.size ≤ w.heap.size + 1 by omega) (.slice none 0 0) (.slice none 0 0) (.slice none 0 0)))
  clear q7
  go_wp2
  (try simp only [Exit.inBlock, Exit.then])
  refine bodyPost_ret (results_cell_row_tmp rfl _ _ (w.heap.size + 1) _ _ (0, 0) _ rfl H7.out Tryd.underlying30 rfl (by kernel_rfl)) rfl ?_
  exact HF.out
set_option maxHeartbeats 2000000 in
theorem lk_n2 (h : NH) (N : Nt) (k i j : Int) (w : World) (r : RdN w w.heap.size h N) (sm : SmallN N) (ht : Arit w) (hu : Dual w) (hk : kindB k = true) (hv : valN N = true) (hi : inW N.c.length i = false) :
    Calls Tryd.prog 17 #[.agg #[.slice h.A N.w.length h.c, .slice h.L N.l.length h.d, .slice h.C N.c.length h.e], .int .i64 k, .int .i64 i, .int .i64 j] w (GivesNB w Nt.nil false) := by
  obtain ⟨w3, hw3⟩ : ∃ w3, w3 = (w.alloc (.cells #[.slice h.A N.w.length h.c, .slice h.L N.l.length h.d, .slice h.C N.c.length h.e] 30)).alloc (.cells #[.slice none 0 0, .slice none 0 0, .slice none 0 0] 30) := ⟨_, rfl⟩
  obtain ⟨hb, g0, g1, hsz⟩ := two_any' w (.cells #[.slice h.A N.w.length h.c, .slice h.L N.l.length h.d, .slice h.C N.c.length h.e] 30) (.cells #[.slice none 0 0, .slice none 0 0, .slice none 0 0] 30)
  rw [← hw3] at hb g0 g1 hsz
  obtain ⟨y0, y1, y2⟩ := three_cells g0
  have HK := Lib.hid (fun (wx : World) (hx : Below w3.heap.size w3 wx) => three_cells ((hx.block w.heap.size (by omega)).trans g0))
  have HK2 := Lib.hid (fun (wx : World) (hx : Below w3.heap.size w3 wx) => (hx.block (w.heap.size + 1) (by omega)).trans g1)
  have HB0 := Lib.hid hb
  have HS3 : Hid (w.heap.size + 2 = w3.heap.size) := Lib.hid (by omega)
  have s3' := sm.c
  have HJ := Lib.hid (joins_any k)
  have HV := Lib.hid (fun (wx : World) (hx : Below w3.heap.size w3 wx) => validNet_impl h N wx (((r.below hb).more hb.size |>.below hx).more hx.size) sm ((ht.below hb ht.lt).below hx (ht.below hb ht.lt).lt) ((hu.below hb hu.lt).below hx (hu.below hb hu.lt).lt))
  have HI := Lib.hid (fun (wx : World) => isConclusion_any h.A h.L h.C N.w.length h.c N.l.length h.d N.c.length h.e i wx (by unfold maxLen; omega))
  have HJ2 := Lib.hid (fun (wx : World) => isConclusion_any h.A h.L h.C N.w.length h.c N.l.length h.d N.c.length h.e j wx (by unfold maxLen; omega))
  have Q0 := HJ.out; simp only [hk] at Q0; have R0 := Lib.hid Q0; clear Q0
  have Q1 := HV.out; simp only [hv] at Q1; have R1 := Lib.hid Q1; clear Q1
  have Q2 := HI.out; simp only [hi] at Q2; have R2 := Lib.hid Q2; clear Q2
  clear HJ HV HI HJ2
  clear hb g0 g1 hsz r sm ht hu hk hv hi
  go_enter Tryd.func17, Tryd.ntmps17
  go_wp2_with (fail)
  rw [← hw3]
  clear hw3
  refine (R0.out _).mono ?_
  rintro e w4 ⟨rfl, rfl⟩
  have B := Lib.hid (Below.refl w3.heap.size w3)
  go_wp2_with (fail)
  refine (R1.out _ B.out).mono ?_
  rintro e w5 ⟨rfl, b1⟩
  have B' := Lib.hid (B.out.trans (b1.mono B.out.size))
  clear B b1 y0 y1 y2; have B := B'; clear B'
  obtain ⟨y0, y1, y2⟩ := HK.out _ B.out
  go_wp2_with (fail)
  refine (R2.out _).mono ?_
  rintro e w6 ⟨rfl, b2⟩
  have B' := Lib.hid (B.out.trans (b2.mono B.out.size))
  clear B b2 y0 y1 y2; have B := B'; clear B'
  obtain ⟨y0, y1, y2⟩ := HK.out _ B.out
  clear y0 y1 y2
  have q7 := HK2.out _ B.out
  obtain ⟨a0, a1, a2⟩ := three_cells q7
  have f0 := frozen_of_row _ _ 0 _ _ q7; have f1 := frozen_of_row _ _ 1 _ _ q7; have f2 := frozen_of_row _ _ 2 _ _ q7
  have H7 := Lib.hid (set3_at q7 (.slice none 0 0) (.slice none 0 0) (.slice none 0 0))
  have HF := Lib.hid (gives_refuse (set3_below (HB0.out.trans (B.out.mono HB0.out.size)) (show w.heap.size ≤ w.heap.size + 1 by omega) (.slice none 0 0) (.slice none 0 0) (.slice none 0 0)))
  clear q7
  go_wp2
  (try simp only [Exit.inBlock, Exit.then])
  refine bodyPost_ret (results_cell_row_tmp rfl _ _ (w.heap.size + 1) _ _ (0, 0) _ rfl H7.out Tryd.underlying30 rfl (by kernel_rfl)) rfl ?_
  exact HF.out
set_option maxHeartbeats 2000000 in
theorem lk_n3 (h : NH) (N : Nt) (k i j : Int) (w : World) (r : RdN w w.heap.size h N) (sm : SmallN N) (ht : Arit w) (hu : Dual w) (hk : kindB k = true) (hv : valN N = true) (hi : inW N.c.length i = true) (hj : inW N.c.length j = false) :
    Calls Tryd.prog 17 #[.agg #[.slice h.A N.w.length h.c, .slice h.L N.l.length h.d, .slice h.C N.c.length h.e], .int .i64 k, .int .i64 i, .int .i64 j] w (GivesNB w Nt.nil false) := by
  obtain ⟨w3, hw3⟩ : ∃ w3, w3 = (w.alloc (.cells #[.slice h.A N.w.length h.c, .slice h.L N.l.length h.d, .slice h.C N.c.length h.e] 30)).alloc (.cells #[.slice none 0 0, .slice none 0 0, .slice none 0 0] 30) := ⟨_, rfl⟩
  obtain ⟨hb, g0, g1, hsz⟩ := two_any' w (.cells #[.slice h.A N.w.length h.c, .slice h.L N.l.length h.d, .slice h.C N.c.length h.e] 30) (.cells #[.slice none 0 0, .slice none 0 0, .slice none 0 0] 30)
  rw [← hw3] at hb g0 g1 hsz
  obtain ⟨y0, y1, y2⟩ := three_cells g0
  have HK := Lib.hid (fun (wx : World) (hx : Below w3.heap.size w3 wx) => three_cells ((hx.block w.heap.size (by omega)).trans g0))
  have HK2 := Lib.hid (fun (wx : World) (hx : Below w3.heap.size w3 wx) => (hx.block (w.heap.size + 1) (by omega)).trans g1)
  have HB0 := Lib.hid hb
  have HS3 : Hid (w.heap.size + 2 = w3.heap.size) := Lib.hid (by omega)
  have s3' := sm.c
  have HJ := Lib.hid (joins_any k)
  have HV := Lib.hid (fun (wx : World) (hx : Below w3.heap.size w3 wx) => validNet_impl h N wx (((r.below hb).more hb.size |>.below hx).more hx.size) sm ((ht.below hb ht.lt).below hx (ht.below hb ht.lt).lt) ((hu.below hb hu.lt).below hx (hu.below hb hu.lt).lt))
  have HI := Lib.hid (fun (wx : World) => isConclusion_any h.A h.L h.C N.w.length h.c N.l.length h.d N.c.length h.e i wx (by unfold maxLen; omega))
  have HJ2 := Lib.hid (fun (wx : World) => isConclusion_any h.A h.L h.C N.w.length h.c N.l.length h.d N.c.length h.e j wx (by unfold maxLen; omega))
  have Q0 := HJ.out; simp only [hk] at Q0; have R0 := Lib.hid Q0; clear Q0
  have Q1 := HV.out; simp only [hv] at Q1; have R1 := Lib.hid Q1; clear Q1
  have Q2 := HI.out; simp only [hi] at Q2; have R2 := Lib.hid Q2; clear Q2
  have Q3 := HJ2.out; simp only [hj] at Q3; have R3 := Lib.hid Q3; clear Q3
  clear HJ HV HI HJ2
  clear hb g0 g1 hsz r sm ht hu hk hv hi hj
  go_enter Tryd.func17, Tryd.ntmps17
  go_wp2_with (fail)
  rw [← hw3]
  clear hw3
  refine (R0.out _).mono ?_
  rintro e w4 ⟨rfl, rfl⟩
  have B := Lib.hid (Below.refl w3.heap.size w3)
  go_wp2_with (fail)
  refine (R1.out _ B.out).mono ?_
  rintro e w5 ⟨rfl, b1⟩
  have B' := Lib.hid (B.out.trans (b1.mono B.out.size))
  clear B b1 y0 y1 y2; have B := B'; clear B'
  obtain ⟨y0, y1, y2⟩ := HK.out _ B.out
  go_wp2_with (fail)
  refine (R2.out _).mono ?_
  rintro e w6 ⟨rfl, b2⟩
  have B' := Lib.hid (B.out.trans (b2.mono B.out.size))
  clear B b2 y0 y1 y2; have B := B'; clear B'
  obtain ⟨y0, y1, y2⟩ := HK.out _ B.out
  go_wp2_with (fail)
  refine (R3.out _).mono ?_
  rintro e w7 ⟨rfl, b3⟩
  have B' := Lib.hid (B.out.trans (b3.mono B.out.size))
  clear B b3 y0 y1 y2; have B := B'; clear B'
  obtain ⟨y0, y1, y2⟩ := HK.out _ B.out
  clear y0 y1 y2
  have q7 := HK2.out _ B.out
  obtain ⟨a0, a1, a2⟩ := three_cells q7
  have f0 := frozen_of_row _ _ 0 _ _ q7; have f1 := frozen_of_row _ _ 1 _ _ q7; have f2 := frozen_of_row _ _ 2 _ _ q7
  have H7 := Lib.hid (set3_at q7 (.slice none 0 0) (.slice none 0 0) (.slice none 0 0))
  have HF := Lib.hid (gives_refuse (set3_below (HB0.out.trans (B.out.mono HB0.out.size)) (show w.heap.size ≤ w.heap.size + 1 by omega) (.slice none 0 0) (.slice none 0 0) (.slice none 0 0)))
  clear q7
  go_wp2
  (try simp only [Exit.inBlock, Exit.then])
  refine bodyPost_ret (results_cell_row_tmp rfl _ _ (w.heap.size + 1) _ _ (0, 0) _ rfl H7.out Tryd.underlying30 rfl (by kernel_rfl)) rfl ?_
  exact HF.out
set_option maxHeartbeats 2000000 in
theorem lk_n4 (h : NH) (N : Nt) (k i j : Int) (w : World) (r : RdN w w.heap.size h N) (sm : SmallN N) (ht : Arit w) (hu : Dual w) (hk : kindB k = true) (hv : valN N = true) (hi : inW N.c.length i = true) (hj : inW N.c.length j = true) (he : (i == j) = true) :
    Calls Tryd.prog 17 #[.agg #[.slice h.A N.w.length h.c, .slice h.L N.l.length h.d, .slice h.C N.c.length h.e], .int .i64 k, .int .i64 i, .int .i64 j] w (GivesNB w Nt.nil false) := by
  obtain ⟨w3, hw3⟩ : ∃ w3, w3 = (w.alloc (.cells #[.slice h.A N.w.length h.c, .slice h.L N.l.length h.d, .slice h.C N.c.length h.e] 30)).alloc (.cells #[.slice none 0 0, .slice none 0 0, .slice none 0 0] 30) := ⟨_, rfl⟩
  obtain ⟨hb, g0, g1, hsz⟩ := two_any' w (.cells #[.slice h.A N.w.length h.c, .slice h.L N.l.length h.d, .slice h.C N.c.length h.e] 30) (.cells #[.slice none 0 0, .slice none 0 0, .slice none 0 0] 30)
  rw [← hw3] at hb g0 g1 hsz
  obtain ⟨y0, y1, y2⟩ := three_cells g0
  have HK := Lib.hid (fun (wx : World) (hx : Below w3.heap.size w3 wx) => three_cells ((hx.block w.heap.size (by omega)).trans g0))
  have HK2 := Lib.hid (fun (wx : World) (hx : Below w3.heap.size w3 wx) => (hx.block (w.heap.size + 1) (by omega)).trans g1)
  have HB0 := Lib.hid hb
  have HS3 : Hid (w.heap.size + 2 = w3.heap.size) := Lib.hid (by omega)
  have s3' := sm.c
  have HJ := Lib.hid (joins_any k)
  have HV := Lib.hid (fun (wx : World) (hx : Below w3.heap.size w3 wx) => validNet_impl h N wx (((r.below hb).more hb.size |>.below hx).more hx.size) sm ((ht.below hb ht.lt).below hx (ht.below hb ht.lt).lt) ((hu.below hb hu.lt).below hx (hu.below hb hu.lt).lt))
  have HI := Lib.hid (fun (wx : World) => isConclusion_any h.A h.L h.C N.w.length h.c N.l.length h.d N.c.length h.e i wx (by unfold maxLen; omega))
  have HJ2 := Lib.hid (fun (wx : World) => isConclusion_any h.A h.L h.C N.w.length h.c N.l.length h.d N.c.length h.e j wx (by unfold maxLen; omega))
  have Q0 := HJ.out; simp only [hk] at Q0; have R0 := Lib.hid Q0; clear Q0
  have Q1 := HV.out; simp only [hv] at Q1; have R1 := Lib.hid Q1; clear Q1
  have Q2 := HI.out; simp only [hi] at Q2; have R2 := Lib.hid Q2; clear Q2
  have Q3 := HJ2.out; simp only [hj] at Q3; have R3 := Lib.hid Q3; clear Q3
  clear HJ HV HI HJ2
  clear hb g0 g1 hsz r sm ht hu hk hv hi hj
  go_enter Tryd.func17, Tryd.ntmps17
  go_wp2_with (fail)
  rw [← hw3]
  clear hw3
  refine (R0.out _).mono ?_
  rintro e w4 ⟨rfl, rfl⟩
  have B := Lib.hid (Below.refl w3.heap.size w3)
  go_wp2_with (fail)
  refine (R1.out _ B.out).mono ?_
  rintro e w5 ⟨rfl, b1⟩
  have B' := Lib.hid (B.out.trans (b1.mono B.out.size))
  clear B b1 y0 y1 y2; have B := B'; clear B'
  obtain ⟨y0, y1, y2⟩ := HK.out _ B.out
  go_wp2_with (fail)
  refine (R2.out _).mono ?_
  rintro e w6 ⟨rfl, b2⟩
  have B' := Lib.hid (B.out.trans (b2.mono B.out.size))
  clear B b2 y0 y1 y2; have B := B'; clear B'
  obtain ⟨y0, y1, y2⟩ := HK.out _ B.out
  go_wp2_with (fail)
  refine (R3.out _).mono ?_
  rintro e w7 ⟨rfl, b3⟩
  have B' := Lib.hid (B.out.trans (b3.mono B.out.size))
  clear B b3 y0 y1 y2; have B := B'; clear B'
  obtain ⟨y0, y1, y2⟩ := HK.out _ B.out
  clear y0 y1 y2
  have q7 := HK2.out _ B.out
  obtain ⟨a0, a1, a2⟩ := three_cells q7
  have f0 := frozen_of_row _ _ 0 _ _ q7; have f1 := frozen_of_row _ _ 1 _ _ q7; have f2 := frozen_of_row _ _ 2 _ _ q7
  have H7 := Lib.hid (set3_at q7 (.slice none 0 0) (.slice none 0 0) (.slice none 0 0))
  have HF := Lib.hid (gives_refuse (set3_below (HB0.out.trans (B.out.mono HB0.out.size)) (show w.heap.size ≤ w.heap.size + 1 by omega) (.slice none 0 0) (.slice none 0 0) (.slice none 0 0)))
  clear q7
  go_wp2
  (try simp only [Exit.inBlock, Exit.then])
  refine bodyPost_ret (results_cell_row_tmp rfl _ _ (w.heap.size + 1) _ _ (0, 0) _ rfl H7.out Tryd.underlying30 rfl (by kernel_rfl)) rfl ?_
  exact HF.out
theorem linkNet_no (h : NH) (N : Nt) (k i j : Int) (w : World) (r : RdN w w.heap.size h N) (sm : SmallN N) (ht : Arit w) (hu : Dual w) (h5 : (kindB k && (valN N && (inW N.c.length i && (inW N.c.length j && !(i == j))))) = false) :
    Calls Tryd.prog 17 #[.agg #[.slice h.A N.w.length h.c, .slice h.L N.l.length h.d, .slice h.C N.c.length h.e], .int .i64 k, .int .i64 i, .int .i64 j] w (GivesNB w Nt.nil false) := by
  cases hk : kindB k with
  | false => exact lk_n0 h N k i j w r sm ht hu hk
  | true =>
    cases hv : valN N with
    | false => exact lk_n1 h N k i j w r sm ht hu hk hv
    | true =>
      cases hi : inW N.c.length i with
      | false => exact lk_n2 h N k i j w r sm ht hu hk hv hi
      | true =>
        cases hj : inW N.c.length j with
        | false => exact lk_n3 h N k i j w r sm ht hu hk hv hi hj
        | true =>
          cases he : (i == j) with
          | true => exact lk_n4 h N k i j w r sm ht hu hk hv hi hj he
          | false => rw [hk, hv, hi, hj, he] at h5; cases h5
set_option maxRecDepth 100000 in
set_option maxHeartbeats 8000000 in
theorem lk_ok2 (h : NH) (N : Nt) (w : World) (r : RdN w w.heap.size h N) (hn : N.w.length ≤ 1048576) (hl : N.l.length ≤ 1048576) (hc : N.c.length ≤ 1048576) (sm : SmallN N) (ht : Arit w) (hu : Dual w) (ii jj ia ib : Nat) (LS : List Int) (hv : valN N = true) (hi : inW N.c.length (ii : Nat) = true) (hj : inW N.c.length (jj : Nat) = true) (he : (((ii : Nat) : Int) == ((jj : Nat) : Int)) = false) (hii : ii < N.c.length) (hjj : jj < N.c.length) (ea : N.c.getD ii 0 = (ia : Nat)) (eb : N.c.getD jj 0 = (ib : Nat)) (_hia : ia < N.w.length) (_hib : ib < N.w.length) (hLS : lessL N.c (ii : Nat) (jj : Nat) = LS) (b : Bool) (hX : valN ⟨N.w, N.l ++ [⟨2, ia, ib, 0⟩], LS⟩ = b) :
    Calls Tryd.prog 17 #[.agg #[.slice h.A N.w.length h.c, .slice h.L N.l.length h.d, .slice h.C N.c.length h.e], .int .i64 2, .int .i64 (ii : Nat), .int .i64 (jj : Nat)] w (GivesNB w (pickN b ⟨N.w, N.l ++ [⟨2, ia, ib, 0⟩], LS⟩) b) := by
  obtain ⟨w0, hw0⟩ : ∃ w0, w0 = (w.alloc (.cells #[.slice h.A N.w.length h.c, .slice h.L N.l.length h.d, .slice h.C N.c.length h.e] 30)).alloc (.cells #[.slice none 0 0, .slice none 0 0, .slice none 0 0] 30) := ⟨_, rfl⟩
  obtain ⟨hb, g0, g1, hsz⟩ := two_any' w (.cells #[.slice h.A N.w.length h.c, .slice h.L N.l.length h.d, .slice h.C N.c.length h.e] 30) (.cells #[.slice none 0 0, .slice none 0 0, .slice none 0 0] 30)
  rw [← hw0] at hb g0 g1 hsz
  have hs0 : w.heap.size + 2 ≤ w0.heap.size := by omega
  have HKF : Hid (∀ wx, Below w0.heap.size w0 wx → wx.cell? ⟨w.heap.size, 0, none⟩ = some (.slice h.A N.w.length h.c) ∧ wx.cell? ⟨w.heap.size, 1, none⟩ = some (.slice h.L N.l.length h.d) ∧ wx.cell? ⟨w.heap.size, 2, none⟩ = some (.slice h.C N.c.length h.e)) := Lib.hid fun wx hx => three_cells ((hx.block _ (by omega)).trans g0)
  have HKR : Hid (∀ wx, Below w0.heap.size w0 wx → wx.heap[w.heap.size + 1]? = some (.cells #[.slice none 0 0, .slice none 0 0, .slice none 0 0] 30 (0, 0))) := Lib.hid fun wx hx => (hx.block _ (by omega)).trans g1
  have HV := Lib.hid (validNet_impl h N w0 ((r.below hb).more hb.size) sm (ht.below hb ht.lt) (hu.below hb hu.lt))
  have HTD := Lib.hid (fun (w' : World) (hw : Below w0.heap.size w0 w') => And.intro ((ht.below hb ht.lt).below hw (ht.below hb ht.lt).lt) ((hu.below hb hu.lt).below hw (hu.below hb hu.lt).lt))
  have HRD := Lib.hid (fun (w' : World) (hw : Below w0.heap.size w0 w') => show RdN w' w'.heap.size h N from (r.below (hb.trans (hw.mono hb.size))).more (Nat.le_trans hb.size hw.size))
  have HB0 := Lib.hid hb
  obtain ⟨y0, y1, y2⟩ := HKF.out _ (Below.refl _ w0)
  rw [hv] at HV
  have HK := Lib.hid (fun w' => joins_any 2 w')
  rw [show kindB 2 = true from rfl] at HK
  have HI := Lib.hid (fun w' => isConclusion_any h.A h.L h.C N.w.length h.c N.l.length h.d N.c.length h.e ((ii : Nat) : Int) w' (by unfold maxLen; omega))
  rw [hi] at HI
  have HJ := Lib.hid (fun w' => isConclusion_any h.A h.L h.C N.w.length h.c N.l.length h.d N.c.length h.e ((jj : Nat) : Int) w' (by unfold maxLen; omega))
  rw [hj] at HJ
  obtain ⟨hs1, hs2⟩ := valN_size hv
  have hcl := valN_conc_le hv
  have HOW := Lib.hid (fun (w' : World) (hw : Below w0.heap.size w0 w') => copyOfNet_any h N w' (HRD.out w' hw) hv)
  have HLE := Lib.hid (fun (w' : World) (B : Option Addr) (d : Nat) (hw : Below w0.heap.size w0 w') (rb : RdI w' w'.heap.size B 2 [(ii : Nat), (jj : Nat)]) => withoutI_any h.C N.c.length h.e N.c B d (ii : Nat) (jj : Nat) w' (HRD.out w' hw).2.2 rb hc)
  rw [hLS] at HLE
  obtain ⟨ls', hls'⟩ : ∃ l, N.l ++ [(⟨2, ia, ib, 0⟩ : Lk)] = l := ⟨_, rfl⟩
  rw [hls'] at hX ⊢
  have HLE' := Lib.hid hls'
  have HSL : Hid (ls'.length ≤ 1048576) := Lib.hid (by rw [← hls', List.length_append]; simp; omega)
  have HX := Lib.hid hX
  obtain ⟨i4, hi4, hz40, hz41, hz42⟩ := info_parts_link
  have HI4 := Lib.hid hi4; have HZ40 := Lib.hid hz40; have HZ41 := Lib.hid hz41; have HZ42 := Lib.hid hz42
  clear hi4 hz40 hz41 hz42 hls'
  have hlsl : LS.length ≤ N.c.length := by rw [← hLS]; exact lessU_len _ _ _ _
  obtain ⟨bc, offc, hC, hbc, hcc⟩ := r.2.2.2 (by omega)
  have c1 := hcc ii hii
  have c2 := hcc jj hjj
  rw [ea] at c1
  rw [eb] at c2
  have HC1 := Lib.hid (fun (w' : World) (hw : Below w0.heap.size w0 w') => (((hb.trans (hw.mono hb.size)).cell (p := ⟨bc, offc + ii, none⟩) hbc).trans c1))
  have HC2 := Lib.hid (fun (w' : World) (hw : Below w0.heap.size w0 w') => (((hb.trans (hw.mono hb.size)).cell (p := ⟨bc, offc + jj, none⟩) hbc).trans c2))
  have HCC := Lib.hid hC
  clear hb g0 g1 hsz r hv hi hj ea eb hLS hX hC hcc c1 c2
  go_enter Tryd.func17, Tryd.ntmps17
  go_wp2_with (fail)
  rw [← hw0]
  clear hw0
  refine (HK.out _).mono ?_
  rintro e w1 ⟨rfl, rfl⟩
  go_wp2_with (fail)
  refine HV.out.mono ?_
  rintro e u0 ⟨rfl, bel⟩
  have B0 := Lib.hid bel
  clear bel y0 y1 y2
  obtain ⟨y0, y1, y2⟩ := HKF.out _ B0.out
  go_wp2_with (fail)
  refine (HI.out u0).mono ?_
  rintro e u01 ⟨rfl, bel⟩
  have B01 := Lib.hid (B0.out.trans (bel.mono B0.out.size))
  clear bel y0 y1 y2
  obtain ⟨y0, y1, y2⟩ := HKF.out _ B01.out
  go_wp2_with (fail)
  refine (HJ.out u01).mono ?_
  rintro e u1 ⟨rfl, bel⟩
  have B1 := Lib.hid (B01.out.trans (bel.mono B01.out.size))
  clear bel y0 y1 y2
  -- a, b, c
  have HKX : Hid (∀ wx, Below w0.heap.size w0 wx → wx.cell? ⟨w.heap.size, 0, none⟩ = some (.slice h.A N.w.length h.c) ∧ wx.cell? ⟨w.heap.size, 2, none⟩ = some (.slice (some ⟨bc, offc, none⟩) N.c.length h.e) ∧ wx.cell? ⟨bc, offc + ii, none⟩ = some (.int .i64 (ia : Nat)) ∧ wx.cell? ⟨bc, offc + jj, none⟩ = some (.int .i64 (ib : Nat))) := Lib.hid fun wx hx => by
    obtain ⟨k0, _, k2⟩ := HKF.out _ hx
    rw [HCC.out] at k2
    exact ⟨k0, k2, HC1.out _ hx, HC2.out _ hx⟩
  go_upto_region 3 with (fail)
  obtain ⟨z0, z1, z2, z3⟩ := HKX.out _ B1.out
  go_quiet (fail)
  have bq := below_drewN (Below.refl u1.heap.size u1) nq
  obtain ⟨v1, hq⟩ : ∃ x, x = u1.drewN nq := ⟨_, rfl⟩
  rw [← hq] at bq ⊢
  have BV := Lib.hid (B1.out.trans (bq.mono B1.out.size))
  clear bq hq z0 z1 z2 z3
  obtain ⟨y0, y1, y2⟩ := HKF.out _ BV.out
  go_wp2_with (fail)
  refine (HOW.out _ BV.out).mono ?_
  rintro e u2 ⟨h2, rfl, own2, bel2⟩
  obtain ⟨u3, hu3⟩ : ∃ u3, u3 = u2.alloc (.cells #[.slice h2.A N.w.length h2.c, .slice h2.L N.l.length h2.d, .slice h2.C N.c.length h2.e] 30) := ⟨_, rfl⟩
  have bx : Below u2.heap.size u2 u3 := by rw [hu3]; exact (Below.refl _ _).alloc (Nat.le_refl _) _
  have p3 : u3.heap[u2.heap.size]? = some (.cells #[.slice h2.A N.w.length h2.c, .slice h2.L N.l.length h2.d, .slice h2.C N.c.length h2.e] 30 (0, 0)) := by rw [hu3]; exact heap_alloc_new _ _
  have s3 : u2.heap.size < u3.heap.size := by rw [hu3]; simp
  have s1 := BV.out.size
  have s2 := bel2.size
  have B3 := Lib.hid (BV.out.trans ((bel2.trans (bx.mono s2)).mono s1))
  have O3 := (own2.below bx).size
  have F3 := own2.far_ge (Nat.le_refl _)
  have hb3 := bel2.trans (bx.mono s2)
  obtain ⟨bo, hbo⟩ : ∃ bo, u2.heap.size = bo := ⟨_, rfl⟩
  rw [hbo] at p3 s2 s3 F3
  have PS3 := Lib.hid (show PlSt v1 u3 u3 bo h2 N h2 N from { own := O3, far := fun _ _ f => f, keep := fun _ _ _ _ => rfl, box := p3, bel := hb3, size := Nat.le_refl _, sxl := s3, sxf := F3, sxb := s2 })
  have HU3 := Lib.hid hu3; have HBO := Lib.hid hbo
  clear bx own2 bel2 y0 y1 y2 p3 O3 F3 hb3 hu3 hbo
  go_upto_region 5 with (fail)
  (try rw [← HU3.out, HBO.out])
  obtain ⟨y0, y1, y2⟩ := HKF.out _ B3.out
  obtain ⟨k0, k1, k2⟩ := three_cells PS3.out.box
  go_wp2_with (fail)
  obtain ⟨u4, hu4⟩ : ∃ x, x = u3.alloc (.cells #[.int .i64 (ii : Nat), .int .i64 (jj : Nat)] 2) := ⟨_, rfl⟩
  have b34 : Below u3.heap.size u3 u4 := by rw [hu4]; exact (Below.refl _ _).alloc (Nat.le_refl _) _
  have p4 : u4.heap[u3.heap.size]? = some (.cells #[.int .i64 (ii : Nat), .int .i64 (jj : Nat)] 2 (0, 0)) := by rw [hu4]; exact heap_alloc_new _ _
  rw [← hu4]
  have B4 := Lib.hid (B3.out.trans (b34.mono B3.out.size))
  refine (HLE.out u4 (some ⟨u3.heap.size, 0, none⟩) 2 B4.out (rd_pair p4)).mono ?_
  rintro e u5 ⟨C5, c5, rfl, own5, bel5⟩
  have PS4 := PS3.out.below b34
  have PS6 := Lib.hid (PS4.setC bel5 own5)
  have p5 := (bel5.block bo (Nat.lt_of_lt_of_le s3 b34.size)).trans PS4.box
  have b5 := B4.out.trans (bel5.mono B4.out.size)
  have B6 := Lib.hid (b5.setCell (p := ⟨bo, 2, none⟩) (by show w0.heap.size ≤ bo; omega) (.slice C5 LS.length c5))
  clear y0 y1 y2 k0 k1 k2 hu4 b34 p4 PS4 own5 bel5 B4 b5
  obtain ⟨k0, k1, k2⟩ := three_cells p5
  have k3 := frozen_of_row _ _ 2 _ _ p5
  clear p5
  go_upto_region 6 with (fail)
  clear k0 k1 k2 k3
  generalize u5.setCell ⟨bo, 2, none⟩ (.slice C5 LS.length c5) = u6 at *
  have FB_0 := Lib.hid (Below.refl u6.heap.size u6)
  have FX_0 := Lib.hid PS6.out.box
  have FO_0 := Lib.hid PS6.out.own.l
  have HOL := Lib.hid PS6.out.own.l
  have HSB : Hid (bo < u6.heap.size) := Lib.hid (Nat.lt_of_lt_of_le s3 PS6.out.size)
  have HFS := Lib.hid (PS6.out.far bo PS6.out.sxl PS6.out.sxf).l
  have HLO := Lib.hid PS6.out.bel.size
  have HBOL : Hid (w0.heap.size ≤ bo) := Lib.hid (by omega)
  have HSX : Hid (∀ wx : World, Below u6.heap.size u6 wx → wx.cell? ⟨w.heap.size, 2, none⟩ = some (.slice h.C N.c.length h.e)) := Lib.hid fun wx hx => (HKF.out wx (B6.out.trans (hx.mono B6.out.size))).2.2
  have HLK := Lib.hid (fun wx : World => show Calls Tryd.prog 61 #[.int .i64 2, .int .i64 (ia : Nat), .int .i64 (ib : Nat), .int .i64 (N.w.length : Nat)] wx (fun e w' => e = .returned (.agg #[.int .i64 2, .int .i64 (ia : Nat), .int .i64 (ib : Nat), .int .i64 0]) ∧ Below wx.heap.size wx w') from linkOf_any 2 ia ib N.w.length wx)
  refine wp_region_held_drew (S := fun wx => wx.cell? ⟨w.heap.size, 2, none⟩ = some (.slice h.C N.c.length h.e)) (by kernel_rfl) (HSX.out _ (Below.refl _ _).drew) (fun hHeld => ?_)
  obtain ⟨wq1, hwq1⟩ : ∃ w', w' = u6.drew := ⟨_, rfl⟩
  rw [← hwq1] at hHeld ⊢
  have bq1 : Below u6.heap.size u6 wq1 := by rw [hwq1]; exact (Below.refl _ _).drew
  clear hwq1
  have FB_q2 := Lib.hid ((FB_0.out).trans ((bq1).mono (FB_0.out).size))
  have FX_q3 := Lib.hid (((bq1).block _ (Array.getElem?_eq_some_iff.1 (FX_0.out)).1).trans (FX_0.out))
  have FO_q4 := Lib.hid (own_below (FO_0.out) (bq1) (Nat.le_refl _))
  clear FB_0 FX_0 FO_0
  refine wpAnyH_take (i := 0) (v := ?vq5) rfl (by kernel_rfl) (by kernel_rfl) (by kernel_rfl) (fun _ _ _ h => h) (Or.inl ⟨by rfl, ?yq5⟩) (by assumption) ?_
  case yq5 => (intro w hSw; (try dsimp only at hSw); go_simp; all_goals (with_reducible rfl))
  (try simp only [Act.put, List.setIfInBounds_toArray, List.set_cons_zero, List.set_cons_succ, List.getElem_toArray, List.getElem_cons_succ, List.getElem_cons_zero])
  refine wpAnyH_take (i := 2) (v := ?vq6) rfl (by kernel_rfl) (by kernel_rfl) (by kernel_rfl) (fun _ _ _ h => h) (Or.inl ⟨by rfl, ?yq6⟩) (by assumption) ?_
  case yq6 => (intro w hSw; (try dsimp only at hSw); go_simp; all_goals (with_reducible rfl))
  (try simp only [Act.put, List.setIfInBounds_toArray, List.set_cons_zero, List.set_cons_succ, List.getElem_toArray, List.getElem_cons_succ, List.getElem_cons_zero])
  refine wpAnyH_take (i := 3) (v := ?vq7) rfl (by kernel_rfl) (by kernel_rfl) (by kernel_rfl) (fun _ _ _ h => h) (Or.inl ⟨by rfl, ?yq7⟩) (by assumption) ?_
  case yq7 => (intro w hSw; (try dsimp only at hSw); go_simp; all_goals (with_reducible rfl))
  (try simp only [Act.put, List.setIfInBounds_toArray, List.set_cons_zero, List.set_cons_succ, List.getElem_toArray, List.getElem_cons_succ, List.getElem_cons_zero])
  refine wpAnyH_take (i := 4) (v := ?vq8) rfl (by kernel_rfl) (by kernel_rfl) (by kernel_rfl) (fun _ _ _ h => h) (Or.inl ⟨by rfl, ?yq8⟩) (by assumption) ?_
  case yq8 => (intro w hSw; (try dsimp only at hSw); go_simp; all_goals (with_reducible rfl))
  (try simp only [Act.put, List.setIfInBounds_toArray, List.set_cons_zero, List.set_cons_succ, List.getElem_toArray, List.getElem_cons_succ, List.getElem_cons_zero])
  refine wpAnyH_take (i := 5) (v := ?vq9) rfl (by kernel_rfl) (by kernel_rfl) (by kernel_rfl) (fun _ _ _ h => h) (Or.inl ⟨by rfl, ?yq9⟩) (by assumption) ?_
  case yq9 => (intro w hSw; (try dsimp only at hSw); go_simp; all_goals (with_reducible rfl))
  (try simp only [Act.put, List.setIfInBounds_toArray, List.set_cons_zero, List.set_cons_succ, List.getElem_toArray, List.getElem_cons_succ, List.getElem_cons_zero])
  refine wpAnyH_ready (rs := [1, 6]) (by kernel_rfl) (by simp) ?_
  refine AllReadyH.cons rfl (fun K hK => ?_) ?_
  · have cq := cell_of_row _ _ 1 _ _ (0, 0) FX_q3.out
    go_simp
    clear cq
    refine hK.out _ _ (hHeld) (fun hHeld => ?_)
    clear hK K
    (try simp only [Act.put, List.setIfInBounds_toArray, List.set_cons_zero, List.set_cons_succ, List.getElem_toArray, List.getElem_cons_succ, List.getElem_cons_zero])
    refine wpAnyH_ready (rs := [6]) (by kernel_rfl) (by simp) ?_
    refine AllReadyH.cons rfl (fun K hK => ?_) ?_
    · go_simp
      refine (HLK.out wq1).mono ?_
      rintro e wq10 ⟨rfl, belq10⟩
      dsimp only
      have FB_q11 := Lib.hid ((FB_q2.out).trans ((belq10).mono (FB_q2.out).size))
      have FX_q12 := Lib.hid (((belq10).block _ (Array.getElem?_eq_some_iff.1 (FX_q3.out)).1).trans (FX_q3.out))
      have FO_q13 := Lib.hid (own_below (FO_q4.out) (belq10) (Nat.le_refl _))
      clear FB_q2 FX_q3 FO_q4
      clear belq10
      refine hK.out _ _ (HSX.out _ FB_q11.out) (fun hHeld => ?_)
      clear hK K
      (try simp only [Act.put, List.setIfInBounds_toArray, List.set_cons_zero, List.set_cons_succ, List.getElem_toArray, List.getElem_cons_succ, List.getElem_cons_zero])
      refine wpAnyH_ready (rs := [7]) (by kernel_rfl) (by simp) ?_
      refine AllReadyH.cons rfl (fun K hK => ?_) ?_
      · go_simp
        obtain ⟨wq14, hwq14⟩ : ∃ w', w' = wq10.alloc (.cells #[.int .i64 2, .int .i64 (ia : Nat), .int .i64 (ib : Nat), .int .i64 0] 72) := ⟨_, rfl⟩
        rw [← hwq14]
        have bq14 : Below wq10.heap.size wq10 wq14 := by rw [hwq14]; exact (Below.refl _ _).alloc (Nat.le_refl _) _
        have gq14 : wq14.heap[wq10.heap.size]? = some (.cells #[.int .i64 2, .int .i64 (ia : Nat), .int .i64 (ib : Nat), .int .i64 0] 72 (0, 0)) := by rw [hwq14]; exact heap_alloc_new _ _
        clear hwq14
        have FB_q15 := Lib.hid ((FB_q11.out).trans ((bq14).mono (FB_q11.out).size))
        have FX_q16 := Lib.hid (((bq14).block _ (Array.getElem?_eq_some_iff.1 (FX_q12.out)).1).trans (FX_q12.out))
        have FO_q17 := Lib.hid (own_below (FO_q13.out) (bq14) (Nat.le_refl _))
        clear FB_q11 FX_q12 FO_q13
        obtain ⟨gnq18, hgq18⟩ : ∃ b, wq10.heap.size = b := ⟨_, rfl⟩
        have FN_q18 := Lib.hid gq14
        rw [hgq18] at FN_q18 ⊢
        clear hgq18 gq14 bq14
        refine hK.out _ _ (HSX.out _ FB_q15.out) (fun hHeld => ?_)
        clear hK K
        (try simp only [Act.put, List.setIfInBounds_toArray, List.set_cons_zero, List.set_cons_succ, List.getElem_toArray, List.getElem_cons_succ, List.getElem_cons_zero])
        refine wpAnyH_ready (rs := [8]) (by kernel_rfl) (by simp) ?_
        refine AllReadyH.cons rfl (fun K hK => ?_) ?_
        · refine step_at rfl _ _ 28 rfl v1.heap.size 72 i4 (.agg #[.int .i64 0, .int .i64 0, .int .i64 0, .int .i64 0]) 4 32 Tryd.underlying28 HI4.out HZ40.out HZ41.out HZ42.out rfl (by decide) _ _ _ rfl FO_q17.out ⟨gnq18, 0, none⟩ 1 1 [.int .i64 2, .int .i64 (ia : Nat), .int .i64 (ib : Nat), .int .i64 0] rfl rfl (World.news_of_block FN_q18.out) (by simp [Value.oneCell']) (by show N.l.length + 1 ≤ maxLen; unfold maxLen; omega) (by show (N.l.length + 1) * 32 ≤ 140737488355328; omega) (Nat.le_trans HLO.out FB_q15.out.size) ?_
          intro v7 w7 own7 gr7 at7
          have own8 : w7.ownsRow v1.heap.size 72 4 v7 ls'.length ((flL ls').map (Value.int .i64)) := by rw [← HLE'.out, flL_app, List.map_append, List.length_append]; exact own7
          obtain ⟨L7, d7, rfl⟩ := own_shape4 own8
          have HP7 := Lib.hid (PS6.out.pushL FB_q15.out own8 gr7 at7)
          have q7 := (gr7.block bo (Nat.lt_of_lt_of_le HSB.out FB_q15.out.size) (fun e => HFS.out e.symm)).trans FX_q16.out
          have HQ7 := Lib.hid q7
          have HK7 := Lib.hid (HKF.out w7 ((B6.out.trans (FB_q15.out.mono B6.out.size)).grown gr7 (Nat.le_trans B6.out.size FB_q15.out.size) (fun q hq => Nat.le_trans BV.out.size (HOL.out.lt q hq).1))).2.2
          have HB8 := Lib.hid (((B6.out.trans (FB_q15.out.mono B6.out.size)).grown gr7 (Nat.le_trans B6.out.size FB_q15.out.size) (fun q hq => Nat.le_trans BV.out.size (HOL.out.lt q hq).1)).setCell (p := ⟨bo, 1, none⟩) HBOL.out (.slice L7 ls'.length d7))
          clear own7 own8 gr7 at7 q7
          refine hK.out _ _ (HK7.out) (fun hHeld => ?_)
          clear hK K
          (try simp only [Act.put, List.setIfInBounds_toArray, List.set_cons_zero, List.set_cons_succ, List.getElem_toArray, List.getElem_cons_succ, List.getElem_cons_zero])
          refine wpAnyH_take (i := 9) (v := ?vq19) rfl (by kernel_rfl) (by kernel_rfl) (by kernel_rfl) (fun _ _ _ h => h) (Or.inl ⟨by rfl, ?yq19⟩) (by assumption) ?_
          case yq19 => (intro w hSw; (try dsimp only at hSw); go_simp; all_goals (with_reducible rfl))
          (try simp only [Act.put, List.setIfInBounds_toArray, List.set_cons_zero, List.set_cons_succ, List.getElem_toArray, List.getElem_cons_succ, List.getElem_cons_zero])
          refine wpAnyH_ready (rs := [10]) (by kernel_rfl) (by simp) ?_
          refine AllReadyH.cons rfl (fun K hK => ?_) ?_
          · obtain ⟨a0, a1, a2⟩ := three_cells HQ7.out
            have f2 := frozen_of_row _ _ 1 _ _ HQ7.out
            go_simp
            clear a0 a1 a2 f2
            refine hK.out _ _ (farW_cell (i := 1) (u := .slice L7 _ d7) HK7.out (by have := HBOL.out; omega)) (fun hHeld => ?_)
            clear hK K
            (try simp only [Act.put, List.setIfInBounds_toArray, List.set_cons_zero, List.set_cons_succ, List.getElem_toArray, List.getElem_cons_succ, List.getElem_cons_zero])
            refine wpAnyH_done (by kernel_rfl) ?_ _
            have PS8 := Lib.hid (show PlSt v1 u3 (w7.setCell ⟨bo, 1, none⟩ (.slice L7 ls'.length d7)) bo h2 N ⟨h2.A, h2.c, h2.hs, L7, d7, C5, c5⟩ ⟨N.w, ls', LS⟩ from HP7.out)
            clear HP7 HQ7 hHeld
            generalize w7.setCell ⟨bo, 1, none⟩ (.slice L7 ls'.length d7) = u8 at *
            obtain ⟨k0, k1, k2⟩ := three_cells PS8.out.box
            have HSM : Hid (SmallN ⟨N.w, ls', LS⟩) := Lib.hid ⟨hn, sm.t, HSL.out, (by show LS.length ≤ 1048576; omega)⟩
            cases b with
            | false =>
              have HV8 := Lib.hid (checked_no ⟨h2.A, h2.c, h2.hs, L7, d7, C5, c5⟩ ⟨N.w, ls', LS⟩ u8 PS8.out.own.rd HSM.out (HTD.out u8 HB8.out).1 (HTD.out u8 HB8.out).2 HX.out)
              go_upto_region 10 with (fail)
              go_wp2_with (fail)
              refine HV8.out.mono ?_
              rintro e u9 ⟨rfl, bel9⟩
              have B9 := Lib.hid (HB8.out.trans (bel9.mono HB8.out.size))
              clear bel9 k0 k1 k2
              have q1 := HKR.out _ B9.out
              obtain ⟨a0, a1, a2⟩ := three_cells q1
              have f0 := frozen_of_row _ _ 0 _ _ q1; have f1 := frozen_of_row _ _ 1 _ _ q1; have f2 := frozen_of_row _ _ 2 _ _ q1
              have Q1 := Lib.hid q1
              clear q1
              go_wp2
              (try simp only [Exit.inBlock, Exit.then])
              refine bodyPost_ret (results_cell_row_tmp rfl _ _ (w.heap.size + 1) _ _ (0, 0) _ rfl (set3_at Q1.out _ _ _) Tryd.underlying30 rfl (by kernel_rfl)) rfl ?_
              exact givesNB_of (own_done HB0.out B9.out (OwnN.nil u9 w0.heap.size u9.heap.size) hs0)
            | true =>
              have HV8 := Lib.hid (checked_yes ⟨h2.A, h2.c, h2.hs, L7, d7, C5, c5⟩ ⟨N.w, ls', LS⟩ u8 PS8.out.own.rd HSM.out (HTD.out u8 HB8.out).1 (HTD.out u8 HB8.out).2 HX.out)
              go_upto_region 10 with (fail)
              go_wp2_with (fail)
              refine HV8.out.mono ?_
              rintro e u9 ⟨rfl, bel9⟩
              have B9 := Lib.hid (HB8.out.trans (bel9.mono HB8.out.size))
              have O9 := Lib.hid ((PS8.out.own.below bel9).size.more BV.out.size (Nat.le_refl _))
              clear bel9 k0 k1 k2
              have q1 := HKR.out _ B9.out
              obtain ⟨a0, a1, a2⟩ := three_cells q1
              have f0 := frozen_of_row _ _ 0 _ _ q1; have f1 := frozen_of_row _ _ 1 _ _ q1; have f2 := frozen_of_row _ _ 2 _ _ q1
              have Q1 := Lib.hid q1
              clear q1
              go_wp2
              (try simp only [Exit.inBlock, Exit.then])
              refine bodyPost_ret (results_cell_row_tmp rfl _ _ (w.heap.size + 1) _ _ (0, 0) _ rfl (set3_at Q1.out _ _ _) Tryd.underlying30 rfl (by kernel_rfl)) rfl ?_
              exact givesNB_of (own_done HB0.out B9.out O9.out hs0)
          exact AllReadyH.nil
        exact AllReadyH.nil
      exact AllReadyH.nil
    exact AllReadyH.nil
  refine AllReadyH.cons rfl (fun K hK => ?_) ?_
  · go_simp
    refine (HLK.out wq1).mono ?_
    rintro e wq20 ⟨rfl, belq20⟩
    dsimp only
    have FB_q21 := Lib.hid ((FB_q2.out).trans ((belq20).mono (FB_q2.out).size))
    have FX_q22 := Lib.hid (((belq20).block _ (Array.getElem?_eq_some_iff.1 (FX_q3.out)).1).trans (FX_q3.out))
    have FO_q23 := Lib.hid (own_below (FO_q4.out) (belq20) (Nat.le_refl _))
    clear FB_q2 FX_q3 FO_q4
    clear belq20
    refine hK.out _ _ (HSX.out _ FB_q21.out) (fun hHeld => ?_)
    clear hK K
    (try simp only [Act.put, List.setIfInBounds_toArray, List.set_cons_zero, List.set_cons_succ, List.getElem_toArray, List.getElem_cons_succ, List.getElem_cons_zero])
    refine wpAnyH_ready (rs := [1, 7]) (by kernel_rfl) (by simp) ?_
    refine AllReadyH.cons rfl (fun K hK => ?_) ?_
    · have cq := cell_of_row _ _ 1 _ _ (0, 0) FX_q22.out
      go_simp
      clear cq
      refine hK.out _ _ (hHeld) (fun hHeld => ?_)
      clear hK K
      (try simp only [Act.put, List.setIfInBounds_toArray, List.set_cons_zero, List.set_cons_succ, List.getElem_toArray, List.getElem_cons_succ, List.getElem_cons_zero])
      refine wpAnyH_ready (rs := [7]) (by kernel_rfl) (by simp) ?_
      refine AllReadyH.cons rfl (fun K hK => ?_) ?_
      · go_simp
        obtain ⟨wq24, hwq24⟩ : ∃ w', w' = wq20.alloc (.cells #[.int .i64 2, .int .i64 (ia : Nat), .int .i64 (ib : Nat), .int .i64 0] 72) := ⟨_, rfl⟩
        rw [← hwq24]
        have bq24 : Below wq20.heap.size wq20 wq24 := by rw [hwq24]; exact (Below.refl _ _).alloc (Nat.le_refl _) _
        have gq24 : wq24.heap[wq20.heap.size]? = some (.cells #[.int .i64 2, .int .i64 (ia : Nat), .int .i64 (ib : Nat), .int .i64 0] 72 (0, 0)) := by rw [hwq24]; exact heap_alloc_new _ _
        clear hwq24
        have FB_q25 := Lib.hid ((FB_q21.out).trans ((bq24).mono (FB_q21.out).size))
        have FX_q26 := Lib.hid (((bq24).block _ (Array.getElem?_eq_some_iff.1 (FX_q22.out)).1).trans (FX_q22.out))
        have FO_q27 := Lib.hid (own_below (FO_q23.out) (bq24) (Nat.le_refl _))
        clear FB_q21 FX_q22 FO_q23
        obtain ⟨gnq28, hgq28⟩ : ∃ b, wq20.heap.size = b := ⟨_, rfl⟩
        have FN_q28 := Lib.hid gq24
        rw [hgq28] at FN_q28 ⊢
        clear hgq28 gq24 bq24
        refine hK.out _ _ (HSX.out _ FB_q25.out) (fun hHeld => ?_)
        clear hK K
        (try simp only [Act.put, List.setIfInBounds_toArray, List.set_cons_zero, List.set_cons_succ, List.getElem_toArray, List.getElem_cons_succ, List.getElem_cons_zero])
        refine wpAnyH_ready (rs := [8]) (by kernel_rfl) (by simp) ?_
        refine AllReadyH.cons rfl (fun K hK => ?_) ?_
        · refine step_at rfl _ _ 28 rfl v1.heap.size 72 i4 (.agg #[.int .i64 0, .int .i64 0, .int .i64 0, .int .i64 0]) 4 32 Tryd.underlying28 HI4.out HZ40.out HZ41.out HZ42.out rfl (by decide) _ _ _ rfl FO_q27.out ⟨gnq28, 0, none⟩ 1 1 [.int .i64 2, .int .i64 (ia : Nat), .int .i64 (ib : Nat), .int .i64 0] rfl rfl (World.news_of_block FN_q28.out) (by simp [Value.oneCell']) (by show N.l.length + 1 ≤ maxLen; unfold maxLen; omega) (by show (N.l.length + 1) * 32 ≤ 140737488355328; omega) (Nat.le_trans HLO.out FB_q25.out.size) ?_
          intro v7 w7 own7 gr7 at7
          have own8 : w7.ownsRow v1.heap.size 72 4 v7 ls'.length ((flL ls').map (Value.int .i64)) := by rw [← HLE'.out, flL_app, List.map_append, List.length_append]; exact own7
          obtain ⟨L7, d7, rfl⟩ := own_shape4 own8
          have HP7 := Lib.hid (PS6.out.pushL FB_q25.out own8 gr7 at7)
          have q7 := (gr7.block bo (Nat.lt_of_lt_of_le HSB.out FB_q25.out.size) (fun e => HFS.out e.symm)).trans FX_q26.out
          have HQ7 := Lib.hid q7
          have HK7 := Lib.hid (HKF.out w7 ((B6.out.trans (FB_q25.out.mono B6.out.size)).grown gr7 (Nat.le_trans B6.out.size FB_q25.out.size) (fun q hq => Nat.le_trans BV.out.size (HOL.out.lt q hq).1))).2.2
          have HB8 := Lib.hid (((B6.out.trans (FB_q25.out.mono B6.out.size)).grown gr7 (Nat.le_trans B6.out.size FB_q25.out.size) (fun q hq => Nat.le_trans BV.out.size (HOL.out.lt q hq).1)).setCell (p := ⟨bo, 1, none⟩) HBOL.out (.slice L7 ls'.length d7))
          clear own7 own8 gr7 at7 q7
          refine hK.out _ _ (HK7.out) (fun hHeld => ?_)
          clear hK K
          (try simp only [Act.put, List.setIfInBounds_toArray, List.set_cons_zero, List.set_cons_succ, List.getElem_toArray, List.getElem_cons_succ, List.getElem_cons_zero])
          refine wpAnyH_take (i := 9) (v := ?vq29) rfl (by kernel_rfl) (by kernel_rfl) (by kernel_rfl) (fun _ _ _ h => h) (Or.inl ⟨by rfl, ?yq29⟩) (by assumption) ?_
          case yq29 => (intro w hSw; (try dsimp only at hSw); go_simp; all_goals (with_reducible rfl))
          (try simp only [Act.put, List.setIfInBounds_toArray, List.set_cons_zero, List.set_cons_succ, List.getElem_toArray, List.getElem_cons_succ, List.getElem_cons_zero])
          refine wpAnyH_ready (rs := [10]) (by kernel_rfl) (by simp) ?_
          refine AllReadyH.cons rfl (fun K hK => ?_) ?_
          · obtain ⟨a0, a1, a2⟩ := three_cells HQ7.out
            have f2 := frozen_of_row _ _ 1 _ _ HQ7.out
            go_simp
            clear a0 a1 a2 f2
            refine hK.out _ _ (farW_cell (i := 1) (u := .slice L7 _ d7) HK7.out (by have := HBOL.out; omega)) (fun hHeld => ?_)
            clear hK K
            (try simp only [Act.put, List.setIfInBounds_toArray, List.set_cons_zero, List.set_cons_succ, List.getElem_toArray, List.getElem_cons_succ, List.getElem_cons_zero])
            refine wpAnyH_done (by kernel_rfl) ?_ _
            have PS8 := Lib.hid (show PlSt v1 u3 (w7.setCell ⟨bo, 1, none⟩ (.slice L7 ls'.length d7)) bo h2 N ⟨h2.A, h2.c, h2.hs, L7, d7, C5, c5⟩ ⟨N.w, ls', LS⟩ from HP7.out)
            clear HP7 HQ7 hHeld
            generalize w7.setCell ⟨bo, 1, none⟩ (.slice L7 ls'.length d7) = u8 at *
            obtain ⟨k0, k1, k2⟩ := three_cells PS8.out.box
            have HSM : Hid (SmallN ⟨N.w, ls', LS⟩) := Lib.hid ⟨hn, sm.t, HSL.out, (by show LS.length ≤ 1048576; omega)⟩
            cases b with
            | false =>
              have HV8 := Lib.hid (checked_no ⟨h2.A, h2.c, h2.hs, L7, d7, C5, c5⟩ ⟨N.w, ls', LS⟩ u8 PS8.out.own.rd HSM.out (HTD.out u8 HB8.out).1 (HTD.out u8 HB8.out).2 HX.out)
              go_upto_region 10 with (fail)
              go_wp2_with (fail)
              refine HV8.out.mono ?_
              rintro e u9 ⟨rfl, bel9⟩
              have B9 := Lib.hid (HB8.out.trans (bel9.mono HB8.out.size))
              clear bel9 k0 k1 k2
              have q1 := HKR.out _ B9.out
              obtain ⟨a0, a1, a2⟩ := three_cells q1
              have f0 := frozen_of_row _ _ 0 _ _ q1; have f1 := frozen_of_row _ _ 1 _ _ q1; have f2 := frozen_of_row _ _ 2 _ _ q1
              have Q1 := Lib.hid q1
              clear q1
              go_wp2
              (try simp only [Exit.inBlock, Exit.then])
              refine bodyPost_ret (results_cell_row_tmp rfl _ _ (w.heap.size + 1) _ _ (0, 0) _ rfl (set3_at Q1.out _ _ _) Tryd.underlying30 rfl (by kernel_rfl)) rfl ?_
              exact givesNB_of (own_done HB0.out B9.out (OwnN.nil u9 w0.heap.size u9.heap.size) hs0)
            | true =>
              have HV8 := Lib.hid (checked_yes ⟨h2.A, h2.c, h2.hs, L7, d7, C5, c5⟩ ⟨N.w, ls', LS⟩ u8 PS8.out.own.rd HSM.out (HTD.out u8 HB8.out).1 (HTD.out u8 HB8.out).2 HX.out)
              go_upto_region 10 with (fail)
              go_wp2_with (fail)
              refine HV8.out.mono ?_
              rintro e u9 ⟨rfl, bel9⟩
              have B9 := Lib.hid (HB8.out.trans (bel9.mono HB8.out.size))
              have O9 := Lib.hid ((PS8.out.own.below bel9).size.more BV.out.size (Nat.le_refl _))
              clear bel9 k0 k1 k2
              have q1 := HKR.out _ B9.out
              obtain ⟨a0, a1, a2⟩ := three_cells q1
              have f0 := frozen_of_row _ _ 0 _ _ q1; have f1 := frozen_of_row _ _ 1 _ _ q1; have f2 := frozen_of_row _ _ 2 _ _ q1
              have Q1 := Lib.hid q1
              clear q1
              go_wp2
              (try simp only [Exit.inBlock, Exit.then])
              refine bodyPost_ret (results_cell_row_tmp rfl _ _ (w.heap.size + 1) _ _ (0, 0) _ rfl (set3_at Q1.out _ _ _) Tryd.underlying30 rfl (by kernel_rfl)) rfl ?_
              exact givesNB_of (own_done HB0.out B9.out O9.out hs0)
          exact AllReadyH.nil
        exact AllReadyH.nil
      exact AllReadyH.nil
    refine AllReadyH.cons rfl (fun K hK => ?_) ?_
    · go_simp
      obtain ⟨wq30, hwq30⟩ : ∃ w', w' = wq20.alloc (.cells #[.int .i64 2, .int .i64 (ia : Nat), .int .i64 (ib : Nat), .int .i64 0] 72) := ⟨_, rfl⟩
      rw [← hwq30]
      have bq30 : Below wq20.heap.size wq20 wq30 := by rw [hwq30]; exact (Below.refl _ _).alloc (Nat.le_refl _) _
      have gq30 : wq30.heap[wq20.heap.size]? = some (.cells #[.int .i64 2, .int .i64 (ia : Nat), .int .i64 (ib : Nat), .int .i64 0] 72 (0, 0)) := by rw [hwq30]; exact heap_alloc_new _ _
      clear hwq30
      have FB_q31 := Lib.hid ((FB_q21.out).trans ((bq30).mono (FB_q21.out).size))
      have FX_q32 := Lib.hid (((bq30).block _ (Array.getElem?_eq_some_iff.1 (FX_q22.out)).1).trans (FX_q22.out))
      have FO_q33 := Lib.hid (own_below (FO_q23.out) (bq30) (Nat.le_refl _))
      clear FB_q21 FX_q22 FO_q23
      obtain ⟨gnq34, hgq34⟩ : ∃ b, wq20.heap.size = b := ⟨_, rfl⟩
      have FN_q34 := Lib.hid gq30
      rw [hgq34] at FN_q34 ⊢
      clear hgq34 gq30 bq30
      refine hK.out _ _ (HSX.out _ FB_q31.out) (fun hHeld => ?_)
      clear hK K
      (try simp only [Act.put, List.setIfInBounds_toArray, List.set_cons_zero, List.set_cons_succ, List.getElem_toArray, List.getElem_cons_succ, List.getElem_cons_zero])
      refine wpAnyH_ready (rs := [1]) (by kernel_rfl) (by simp) ?_
      refine AllReadyH.cons rfl (fun K hK => ?_) ?_
      · have cq := cell_of_row _ _ 1 _ _ (0, 0) FX_q32.out
        go_simp
        clear cq
        refine hK.out _ _ (hHeld) (fun hHeld => ?_)
        clear hK K
        (try simp only [Act.put, List.setIfInBounds_toArray, List.set_cons_zero, List.set_cons_succ, List.getElem_toArray, List.getElem_cons_succ, List.getElem_cons_zero])
        refine wpAnyH_ready (rs := [8]) (by kernel_rfl) (by simp) ?_
        refine AllReadyH.cons rfl (fun K hK => ?_) ?_
        · refine step_at rfl _ _ 28 rfl v1.heap.size 72 i4 (.agg #[.int .i64 0, .int .i64 0, .int .i64 0, .int .i64 0]) 4 32 Tryd.underlying28 HI4.out HZ40.out HZ41.out HZ42.out rfl (by decide) _ _ _ rfl FO_q33.out ⟨gnq34, 0, none⟩ 1 1 [.int .i64 2, .int .i64 (ia : Nat), .int .i64 (ib : Nat), .int .i64 0] rfl rfl (World.news_of_block FN_q34.out) (by simp [Value.oneCell']) (by show N.l.length + 1 ≤ maxLen; unfold maxLen; omega) (by show (N.l.length + 1) * 32 ≤ 140737488355328; omega) (Nat.le_trans HLO.out FB_q31.out.size) ?_
          intro v7 w7 own7 gr7 at7
          have own8 : w7.ownsRow v1.heap.size 72 4 v7 ls'.length ((flL ls').map (Value.int .i64)) := by rw [← HLE'.out, flL_app, List.map_append, List.length_append]; exact own7
          obtain ⟨L7, d7, rfl⟩ := own_shape4 own8
          have HP7 := Lib.hid (PS6.out.pushL FB_q31.out own8 gr7 at7)
          have q7 := (gr7.block bo (Nat.lt_of_lt_of_le HSB.out FB_q31.out.size) (fun e => HFS.out e.symm)).trans FX_q32.out
          have HQ7 := Lib.hid q7
          have HK7 := Lib.hid (HKF.out w7 ((B6.out.trans (FB_q31.out.mono B6.out.size)).grown gr7 (Nat.le_trans B6.out.size FB_q31.out.size) (fun q hq => Nat.le_trans BV.out.size (HOL.out.lt q hq).1))).2.2
          have HB8 := Lib.hid (((B6.out.trans (FB_q31.out.mono B6.out.size)).grown gr7 (Nat.le_trans B6.out.size FB_q31.out.size) (fun q hq => Nat.le_trans BV.out.size (HOL.out.lt q hq).1)).setCell (p := ⟨bo, 1, none⟩) HBOL.out (.slice L7 ls'.length d7))
          clear own7 own8 gr7 at7 q7
          refine hK.out _ _ (HK7.out) (fun hHeld => ?_)
          clear hK K
          (try simp only [Act.put, List.setIfInBounds_toArray, List.set_cons_zero, List.set_cons_succ, List.getElem_toArray, List.getElem_cons_succ, List.getElem_cons_zero])
          refine wpAnyH_take (i := 9) (v := ?vq35) rfl (by kernel_rfl) (by kernel_rfl) (by kernel_rfl) (fun _ _ _ h => h) (Or.inl ⟨by rfl, ?yq35⟩) (by assumption) ?_
          case yq35 => (intro w hSw; (try dsimp only at hSw); go_simp; all_goals (with_reducible rfl))
          (try simp only [Act.put, List.setIfInBounds_toArray, List.set_cons_zero, List.set_cons_succ, List.getElem_toArray, List.getElem_cons_succ, List.getElem_cons_zero])
          refine wpAnyH_ready (rs := [10]) (by kernel_rfl) (by simp) ?_
          refine AllReadyH.cons rfl (fun K hK => ?_) ?_
          · obtain ⟨a0, a1, a2⟩ := three_cells HQ7.out
            have f2 := frozen_of_row _ _ 1 _ _ HQ7.out
            go_simp
            clear a0 a1 a2 f2
            refine hK.out _ _ (farW_cell (i := 1) (u := .slice L7 _ d7) HK7.out (by have := HBOL.out; omega)) (fun hHeld => ?_)
            clear hK K
            (try simp only [Act.put, List.setIfInBounds_toArray, List.set_cons_zero, List.set_cons_succ, List.getElem_toArray, List.getElem_cons_succ, List.getElem_cons_zero])
            refine wpAnyH_done (by kernel_rfl) ?_ _
            have PS8 := Lib.hid (show PlSt v1 u3 (w7.setCell ⟨bo, 1, none⟩ (.slice L7 ls'.length d7)) bo h2 N ⟨h2.A, h2.c, h2.hs, L7, d7, C5, c5⟩ ⟨N.w, ls', LS⟩ from HP7.out)
            clear HP7 HQ7 hHeld
            generalize w7.setCell ⟨bo, 1, none⟩ (.slice L7 ls'.length d7) = u8 at *
            obtain ⟨k0, k1, k2⟩ := three_cells PS8.out.box
            have HSM : Hid (SmallN ⟨N.w, ls', LS⟩) := Lib.hid ⟨hn, sm.t, HSL.out, (by show LS.length ≤ 1048576; omega)⟩
            cases b with
            | false =>
              have HV8 := Lib.hid (checked_no ⟨h2.A, h2.c, h2.hs, L7, d7, C5, c5⟩ ⟨N.w, ls', LS⟩ u8 PS8.out.own.rd HSM.out (HTD.out u8 HB8.out).1 (HTD.out u8 HB8.out).2 HX.out)
              go_upto_region 10 with (fail)
              go_wp2_with (fail)
              refine HV8.out.mono ?_
              rintro e u9 ⟨rfl, bel9⟩
              have B9 := Lib.hid (HB8.out.trans (bel9.mono HB8.out.size))
              clear bel9 k0 k1 k2
              have q1 := HKR.out _ B9.out
              obtain ⟨a0, a1, a2⟩ := three_cells q1
              have f0 := frozen_of_row _ _ 0 _ _ q1; have f1 := frozen_of_row _ _ 1 _ _ q1; have f2 := frozen_of_row _ _ 2 _ _ q1
              have Q1 := Lib.hid q1
              clear q1
              go_wp2
              (try simp only [Exit.inBlock, Exit.then])
              refine bodyPost_ret (results_cell_row_tmp rfl _ _ (w.heap.size + 1) _ _ (0, 0) _ rfl (set3_at Q1.out _ _ _) Tryd.underlying30 rfl (by kernel_rfl)) rfl ?_
              exact givesNB_of (own_done HB0.out B9.out (OwnN.nil u9 w0.heap.size u9.heap.size) hs0)
            | true =>
              have HV8 := Lib.hid (checked_yes ⟨h2.A, h2.c, h2.hs, L7, d7, C5, c5⟩ ⟨N.w, ls', LS⟩ u8 PS8.out.own.rd HSM.out (HTD.out u8 HB8.out).1 (HTD.out u8 HB8.out).2 HX.out)
              go_upto_region 10 with (fail)
              go_wp2_with (fail)
              refine HV8.out.mono ?_
              rintro e u9 ⟨rfl, bel9⟩
              have B9 := Lib.hid (HB8.out.trans (bel9.mono HB8.out.size))
              have O9 := Lib.hid ((PS8.out.own.below bel9).size.more BV.out.size (Nat.le_refl _))
              clear bel9 k0 k1 k2
              have q1 := HKR.out _ B9.out
              obtain ⟨a0, a1, a2⟩ := three_cells q1
              have f0 := frozen_of_row _ _ 0 _ _ q1; have f1 := frozen_of_row _ _ 1 _ _ q1; have f2 := frozen_of_row _ _ 2 _ _ q1
              have Q1 := Lib.hid q1
              clear q1
              go_wp2
              (try simp only [Exit.inBlock, Exit.then])
              refine bodyPost_ret (results_cell_row_tmp rfl _ _ (w.heap.size + 1) _ _ (0, 0) _ rfl (set3_at Q1.out _ _ _) Tryd.underlying30 rfl (by kernel_rfl)) rfl ?_
              exact givesNB_of (own_done HB0.out B9.out O9.out hs0)
          exact AllReadyH.nil
        exact AllReadyH.nil
      exact AllReadyH.nil
    exact AllReadyH.nil
  exact AllReadyH.nil
end Go.Proofs.YtdcommmefehlgaaDoor
