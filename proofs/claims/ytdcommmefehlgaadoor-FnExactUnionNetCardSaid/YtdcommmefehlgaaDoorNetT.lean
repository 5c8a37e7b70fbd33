/- LinkNet of the model. -/
import Derived.Test.YtdcommmefehlgaaDoorQNetK
import Derived.Test.YtdcommmefehlgaaDoorQSubA
import Derived.Test.YtdcommmefehlgaaDoorQPgG
namespace Go.Proofs.YtdcommmefehlgaaDoor
set_option linter.unusedSimpArgs false
set_option linter.unusedVariables false
open Go.ChangeAt Go.ChangeShapes Go.RowKit Go.WideShapes

/-- The net with one link more. -/
def lkN (N : Nt) (k i j : Int) : Nt :=
  if k = 2 then ⟨N.w, N.l ++ [⟨2, N.c.getD i.toNat 0, N.c.getD j.toNat 0, 0⟩], lessL N.c i j⟩
  else ⟨N.w ++ [(if k = 4 then 12 else 11) :: (wAt N.w (N.c.getD i.toNat 0) ++ wAt N.w (N.c.getD j.toNat 0))], N.l ++ [⟨k, N.c.getD i.toNat 0, N.c.getD j.toNat 0, N.w.length⟩], lessL N.c i j ++ [(N.w.length : Int)]⟩
def kindB (k : Int) : Bool := decide (2 ≤ k ∧ k ≤ 4)
/-- LinkNet. -/
def lnB (N : Nt) (k i j : Int) : Bool := valN N && (kindB k && (inW N.c.length i && (inW N.c.length j && (!(i == j) && valN (lkN N k i j)))))
def lnV (N : Nt) (k i j : Int) : Nt := if lnB N k i j = true then lkN N k i j else Nt.nil
def pickN (b : Bool) (X : Nt) : Nt := if b = true then X else Nt.nil
theorem lnB_is {N : Nt} {k i j : Int} (h1 : valN N = true) (h2 : kindB k = true) (h3 : inW N.c.length i = true) (h4 : inW N.c.length j = true) (h5 : (i == j) = false) : lnB N k i j = valN (lkN N k i j) := by unfold lnB; rw [h1, h2, h3, h4, h5]; rfl
theorem lnV_no {N : Nt} {k i j : Int} (h : lnB N k i j = false) : lnV N k i j = Nt.nil := by unfold lnV; rw [h]; rfl
theorem lnV_yes {N : Nt} {k i j : Int} (h : lnB N k i j = true) : lnV N k i j = lkN N k i j := by unfold lnV; rw [if_pos h]
theorem four_cells {w : World} {b : Nat} {a0 a1 a2 a3 : Value} {t : TypeId} (h : w.heap[b]? = some (.cells #[a0, a1, a2, a3] t (0, 0))) :
    w.cell? ⟨b, 0, none⟩ = some a0 ∧ w.cell? ⟨b, 1, none⟩ = some a1 ∧ w.cell? ⟨b, 2, none⟩ = some a2 ∧ w.cell? ⟨b, 3, none⟩ = some a3 :=
  ⟨cell_of_row _ _ 0 _ _ (0, 0) h, cell_of_row _ _ 1 _ _ (0, 0) h, cell_of_row _ _ 2 _ _ (0, 0) h, cell_of_row _ _ 3 _ _ (0, 0) h⟩
theorem kind_any (k : Int) (w : World) : Calls Tryd.prog 53 #[.int .i64 k, .int .i64 2, .int .i64 4] w fun e w' => e = .returned (.bool (kindB k)) ∧ w = w' := inRange_any k 2 4 w
theorem pos_any (n : Nat) (x : Int) (w : World) : Calls Tryd.prog 53 #[.int .i64 x, .int .i64 0, .int .i64 ((n : Int) - 1)] w fun e w' => e = .returned (.bool (inW n x)) ∧ w = w' := inRange_any x 0 ((n : Int) - 1) w
set_option maxRecDepth 100000 in
set_option maxHeartbeats 1000000 in
theorem sLinkNet_nv (h : NH) (N : Nt) (w : World) (r : RdN w w.heap.size h N) (hn : N.w.length ≤ 1048576) (hl : N.l.length ≤ 1048576) (hc : N.c.length ≤ 1048576) (k i j : Int) (hv : valN N = false) :
    Calls Tryd.prog 16 #[.agg #[.slice h.A N.w.length h.c, .slice h.L N.l.length h.d, .slice h.C N.c.length h.e], .int .i64 k, .int .i64 i, .int .i64 j] w (GivesNB w Nt.nil false) := by
  obtain ⟨w0, hw0⟩ : ∃ w0, w0 = (w.alloc (.cells #[.slice h.A N.w.length h.c, .slice h.L N.l.length h.d, .slice h.C N.c.length h.e] 30)).alloc (.cells #[.slice none 0 0, .slice none 0 0, .slice none 0 0] 30) := ⟨_, rfl⟩
  obtain ⟨hb, g0, g1, hsz⟩ := two_any' w (.cells #[.slice h.A N.w.length h.c, .slice h.L N.l.length h.d, .slice h.C N.c.length h.e] 30) (.cells #[.slice none 0 0, .slice none 0 0, .slice none 0 0] 30)
  rw [← hw0] at hb g0 g1 hsz
  have hs0 : w.heap.size + 2 ≤ w0.heap.size := by omega
  have HKF : Hid (∀ wx, Below w0.heap.size w0 wx → wx.cell? ⟨w.heap.size, 0, none⟩ = some (.slice h.A N.w.length h.c) ∧ wx.cell? ⟨w.heap.size, 1, none⟩ = some (.slice h.L N.l.length h.d) ∧ wx.cell? ⟨w.heap.size, 2, none⟩ = some (.slice h.C N.c.length h.e)) := Lib.hid fun wx hx => three_cells ((hx.block _ (by omega)).trans g0)
  have HKR : Hid (∀ wx, Below w0.heap.size w0 wx → wx.heap[w.heap.size + 1]? = some (.cells #[.slice none 0 0, .slice none 0 0, .slice none 0 0] 30 (0, 0))) := Lib.hid fun wx hx => (hx.block _ (by omega)).trans g1
  have HV := Lib.hid (sValidNet_any h N w0 ((r.below hb).more hb.size) hn hl hc)
  have HRD := Lib.hid (fun (w' : World) (hw : Below w0.heap.size w0 w') => show RdN w' w'.heap.size h N from (r.below (hb.trans (hw.mono hb.size))).more (Nat.le_trans hb.size hw.size))
  have HB0 := Lib.hid hb
  obtain ⟨y0, y1, y2⟩ := HKF.out _ (Below.refl _ w0)
  rw [hv] at HV
  clear hv
  clear hb g0 g1 hsz r
  go_enter Tryd.func16, Tryd.ntmps16
  go_wp2_with (fail)
  rw [← hw0]
  clear hw0
  refine HV.out.mono ?_
  rintro e u1 ⟨rfl, bel⟩
  have B1 := Lib.hid bel
  clear bel y0 y1 y2
  obtain ⟨y0, y1, y2⟩ := HKF.out _ B1.out
  have q1 := HKR.out _ B1.out
  obtain ⟨a0, a1, a2⟩ := three_cells q1
  have f0 := frozen_of_row _ _ 0 _ _ q1; have f1 := frozen_of_row _ _ 1 _ _ q1; have f2 := frozen_of_row _ _ 2 _ _ q1
  have Q1 := Lib.hid q1
  clear q1
  go_wp2
  (try simp only [Exit.inBlock, Exit.then])
  refine bodyPost_ret (results_cell_row_tmp rfl _ _ (w.heap.size + 1) _ _ (0, 0) _ rfl (set3_at Q1.out _ _ _) Tryd.underlying30 rfl (by kernel_rfl)) rfl ?_
  exact givesNB_of (own_done HB0.out B1.out (OwnN.nil u1 w0.heap.size u1.heap.size) hs0)
set_option maxRecDepth 100000 in
set_option maxHeartbeats 1000000 in
theorem sLinkNet_nk (h : NH) (N : Nt) (w : World) (r : RdN w w.heap.size h N) (hn : N.w.length ≤ 1048576) (hl : N.l.length ≤ 1048576) (hc : N.c.length ≤ 1048576) (k i j : Int) (hv : valN N = true) (hk : kindB k = false) :
    Calls Tryd.prog 16 #[.agg #[.slice h.A N.w.length h.c, .slice h.L N.l.length h.d, .slice h.C N.c.length h.e], .int .i64 k, .int .i64 i, .int .i64 j] w (GivesNB w Nt.nil false) := by
  obtain ⟨w0, hw0⟩ : ∃ w0, w0 = (w.alloc (.cells #[.slice h.A N.w.length h.c, .slice h.L N.l.length h.d, .slice h.C N.c.length h.e] 30)).alloc (.cells #[.slice none 0 0, .slice none 0 0, .slice none 0 0] 30) := ⟨_, rfl⟩
  obtain ⟨hb, g0, g1, hsz⟩ := two_any' w (.cells #[.slice h.A N.w.length h.c, .slice h.L N.l.length h.d, .slice h.C N.c.length h.e] 30) (.cells #[.slice none 0 0, .slice none 0 0, .slice none 0 0] 30)
  rw [← hw0] at hb g0 g1 hsz
  have hs0 : w.heap.size + 2 ≤ w0.heap.size := by omega
  have HKF : Hid (∀ wx, Below w0.heap.size w0 wx → wx.cell? ⟨w.heap.size, 0, none⟩ = some (.slice h.A N.w.length h.c) ∧ wx.cell? ⟨w.heap.size, 1, none⟩ = some (.slice h.L N.l.length h.d) ∧ wx.cell? ⟨w.heap.size, 2, none⟩ = some (.slice h.C N.c.length h.e)) := Lib.hid fun wx hx => three_cells ((hx.block _ (by omega)).trans g0)
  have HKR : Hid (∀ wx, Below w0.heap.size w0 wx → wx.heap[w.heap.size + 1]? = some (.cells #[.slice none 0 0, .slice none 0 0, .slice none 0 0] 30 (0, 0))) := Lib.hid fun wx hx => (hx.block _ (by omega)).trans g1
  have HV := Lib.hid (sValidNet_any h N w0 ((r.below hb).more hb.size) hn hl hc)
  have HRD := Lib.hid (fun (w' : World) (hw : Below w0.heap.size w0 w') => show RdN w' w'.heap.size h N from (r.below (hb.trans (hw.mono hb.size))).more (Nat.le_trans hb.size hw.size))
  have HB0 := Lib.hid hb
  obtain ⟨y0, y1, y2⟩ := HKF.out _ (Below.refl _ w0)
  rw [hv] at HV
  have HK := Lib.hid (fun w' => kind_any k w')
  rw [hk] at HK
  clear hv hk
  clear hb g0 g1 hsz r
  go_enter Tryd.func16, Tryd.ntmps16
  go_wp2_with (fail)
  rw [← hw0]
  clear hw0
  refine HV.out.mono ?_
  rintro e u1 ⟨rfl, bel⟩
  have B1 := Lib.hid bel
  clear bel y0 y1 y2
  obtain ⟨y0, y1, y2⟩ := HKF.out _ B1.out
  go_wp2_with (fail)
  refine (HK.out u1).mono ?_
  rintro e w' ⟨rfl, rfl⟩
  have q1 := HKR.out _ B1.out
  obtain ⟨a0, a1, a2⟩ := three_cells q1
  have f0 := frozen_of_row _ _ 0 _ _ q1; have f1 := frozen_of_row _ _ 1 _ _ q1; have f2 := frozen_of_row _ _ 2 _ _ q1
  have Q1 := Lib.hid q1
  clear q1
  go_wp2
  (try simp only [Exit.inBlock, Exit.then])
  refine bodyPost_ret (results_cell_row_tmp rfl _ _ (w.heap.size + 1) _ _ (0, 0) _ rfl (set3_at Q1.out _ _ _) Tryd.underlying30 rfl (by kernel_rfl)) rfl ?_
  exact givesNB_of (own_done HB0.out B1.out (OwnN.nil u1 w0.heap.size u1.heap.size) hs0)
set_option maxRecDepth 100000 in
set_option maxHeartbeats 1000000 in
theorem sLinkNet_ni (h : NH) (N : Nt) (w : World) (r : RdN w w.heap.size h N) (hn : N.w.length ≤ 1048576) (hl : N.l.length ≤ 1048576) (hc : N.c.length ≤ 1048576) (k i j : Int) (hv : valN N = true) (hk : kindB k = true) (hi : inW N.c.length i = false) :
    Calls Tryd.prog 16 #[.agg #[.slice h.A N.w.length h.c, .slice h.L N.l.length h.d, .slice h.C N.c.length h.e], .int .i64 k, .int .i64 i, .int .i64 j] w (GivesNB w Nt.nil false) := by
  obtain ⟨w0, hw0⟩ : ∃ w0, w0 = (w.alloc (.cells #[.slice h.A N.w.length h.c, .slice h.L N.l.length h.d, .slice h.C N.c.length h.e] 30)).alloc (.cells #[.slice none 0 0, .slice none 0 0, .slice none 0 0] 30) := ⟨_, rfl⟩
  obtain ⟨hb, g0, g1, hsz⟩ := two_any' w (.cells #[.slice h.A N.w.length h.c, .slice h.L N.l.length h.d, .slice h.C N.c.length h.e] 30) (.cells #[.slice none 0 0, .slice none 0 0, .slice none 0 0] 30)
  rw [← hw0] at hb g0 g1 hsz
  have hs0 : w.heap.size + 2 ≤ w0.heap.size := by omega
  have HKF : Hid (∀ wx, Below w0.heap.size w0 wx → wx.cell? ⟨w.heap.size, 0, none⟩ = some (.slice h.A N.w.length h.c) ∧ wx.cell? ⟨w.heap.size, 1, none⟩ = some (.slice h.L N.l.length h.d) ∧ wx.cell? ⟨w.heap.size, 2, none⟩ = some (.slice h.C N.c.length h.e)) := Lib.hid fun wx hx => three_cells ((hx.block _ (by omega)).trans g0)
  have HKR : Hid (∀ wx, Below w0.heap.size w0 wx → wx.heap[w.heap.size + 1]? = some (.cells #[.slice none 0 0, .slice none 0 0, .slice none 0 0] 30 (0, 0))) := Lib.hid fun wx hx => (hx.block _ (by omega)).trans g1
  have HV := Lib.hid (sValidNet_any h N w0 ((r.below hb).more hb.size) hn hl hc)
  have HRD := Lib.hid (fun (w' : World) (hw : Below w0.heap.size w0 w') => show RdN w' w'.heap.size h N from (r.below (hb.trans (hw.mono hb.size))).more (Nat.le_trans hb.size hw.size))
  have HB0 := Lib.hid hb
  obtain ⟨y0, y1, y2⟩ := HKF.out _ (Below.refl _ w0)
  rw [hv] at HV
  have HK := Lib.hid (fun w' => kind_any k w')
  rw [hk] at HK
  have HI := Lib.hid (fun w' => pos_any N.c.length i w')
  rw [hi] at HI
  clear hv hk hi
  clear hb g0 g1 hsz r
  go_enter Tryd.func16, Tryd.ntmps16
  go_wp2_with (fail)
  rw [← hw0]
  clear hw0
  refine HV.out.mono ?_
  rintro e u1 ⟨rfl, bel⟩
  have B1 := Lib.hid bel
  clear bel y0 y1 y2
  obtain ⟨y0, y1, y2⟩ := HKF.out _ B1.out
  go_wp2_with (fail)
  refine (HK.out u1).mono ?_
  rintro e w' ⟨rfl, rfl⟩
  go_wp2_with (fail)
  refine (HI.out u1).mono ?_
  rintro e w' ⟨rfl, rfl⟩
  have q1 := HKR.out _ B1.out
  obtain ⟨a0, a1, a2⟩ := three_cells q1
  have f0 := frozen_of_row _ _ 0 _ _ q1; have f1 := frozen_of_row _ _ 1 _ _ q1; have f2 := frozen_of_row _ _ 2 _ _ q1
  have Q1 := Lib.hid q1
  clear q1
  go_wp2
  (try simp only [Exit.inBlock, Exit.then])
  refine bodyPost_ret (results_cell_row_tmp rfl _ _ (w.heap.size + 1) _ _ (0, 0) _ rfl (set3_at Q1.out _ _ _) Tryd.underlying30 rfl (by kernel_rfl)) rfl ?_
  exact givesNB_of (own_done HB0.out B1.out (OwnN.nil u1 w0.heap.size u1.heap.size) hs0)
set_option maxRecDepth 100000 in
set_option maxHeartbeats 1000000 in
theorem sLinkNet_nj (h : NH) (N : Nt) (w : World) (r : RdN w w.heap.size h N) (hn : N.w.length ≤ 1048576) (hl : N.l.length ≤ 1048576) (hc : N.c.length ≤ 1048576) (k i j : Int) (hv : valN N = true) (hk : kindB k = true) (hi : inW N.c.length i = true) (hj : inW N.c.length j = false) :
    Calls Tryd.prog 16 #[.agg #[.slice h.A N.w.length h.c, .slice h.L N.l.length h.d, .slice h.C N.c.length h.e], .int .i64 k, .int .i64 i, .int .i64 j] w (GivesNB w Nt.nil false) := by
  obtain ⟨w0, hw0⟩ : ∃ w0, w0 = (w.alloc (.cells #[.slice h.A N.w.length h.c, .slice h.L N.l.length h.d, .slice h.C N.c.length h.e] 30)).alloc (.cells #[.slice none 0 0, .slice none 0 0, .slice none 0 0] 30) := ⟨_, rfl⟩
  obtain ⟨hb, g0, g1, hsz⟩ := two_any' w (.cells #[.slice h.A N.w.length h.c, .slice h.L N.l.length h.d, .slice h.C N.c.length h.e] 30) (.cells #[.slice none 0 0, .slice none 0 0, .slice none 0 0] 30)
  rw [← hw0] at hb g0 g1 hsz
  have hs0 : w.heap.size + 2 ≤ w0.heap.size := by omega
  have HKF : Hid (∀ wx, Below w0.heap.size w0 wx → wx.cell? ⟨w.heap.size, 0, none⟩ = some (.slice h.A N.w.length h.c) ∧ wx.cell? ⟨w.heap.size, 1, none⟩ = some (.slice h.L N.l.length h.d) ∧ wx.cell? ⟨w.heap.size, 2, none⟩ = some (.slice h.C N.c.length h.e)) := Lib.hid fun wx hx => three_cells ((hx.block _ (by omega)).trans g0)
  have HKR : Hid (∀ wx, Below w0.heap.size w0 wx → wx.heap[w.heap.size + 1]? = some (.cells #[.slice none 0 0, .slice none 0 0, .slice none 0 0] 30 (0, 0))) := Lib.hid fun wx hx => (hx.block _ (by omega)).trans g1
  have HV := Lib.hid (sValidNet_any h N w0 ((r.below hb).more hb.size) hn hl hc)
  have HRD := Lib.hid (fun (w' : World) (hw : Below w0.heap.size w0 w') => show RdN w' w'.heap.size h N from (r.below (hb.trans (hw.mono hb.size))).more (Nat.le_trans hb.size hw.size))
  have HB0 := Lib.hid hb
  obtain ⟨y0, y1, y2⟩ := HKF.out _ (Below.refl _ w0)
  rw [hv] at HV
  have HK := Lib.hid (fun w' => kind_any k w')
  rw [hk] at HK
  have HI := Lib.hid (fun w' => pos_any N.c.length i w')
  rw [hi] at HI
  have HJ := Lib.hid (fun w' => pos_any N.c.length j w')
  rw [hj] at HJ
  clear hv hk hi hj
  clear hb g0 g1 hsz r
  go_enter Tryd.func16, Tryd.ntmps16
  go_wp2_with (fail)
  rw [← hw0]
  clear hw0
  refine HV.out.mono ?_
  rintro e u1 ⟨rfl, bel⟩
  have B1 := Lib.hid bel
  clear bel y0 y1 y2
  obtain ⟨y0, y1, y2⟩ := HKF.out _ B1.out
  go_wp2_with (fail)
  refine (HK.out u1).mono ?_
  rintro e w' ⟨rfl, rfl⟩
  go_wp2_with (fail)
  refine (HI.out u1).mono ?_
  rintro e w' ⟨rfl, rfl⟩
  go_wp2_with (fail)
  refine (HJ.out u1).mono ?_
  rintro e w' ⟨rfl, rfl⟩
  have q1 := HKR.out _ B1.out
  obtain ⟨a0, a1, a2⟩ := three_cells q1
  have f0 := frozen_of_row _ _ 0 _ _ q1; have f1 := frozen_of_row _ _ 1 _ _ q1; have f2 := frozen_of_row _ _ 2 _ _ q1
  have Q1 := Lib.hid q1
  clear q1
  go_wp2
  (try simp only [Exit.inBlock, Exit.then])
  refine bodyPost_ret (results_cell_row_tmp rfl _ _ (w.heap.size + 1) _ _ (0, 0) _ rfl (set3_at Q1.out _ _ _) Tryd.underlying30 rfl (by kernel_rfl)) rfl ?_
  exact givesNB_of (own_done HB0.out B1.out (OwnN.nil u1 w0.heap.size u1.heap.size) hs0)
set_option maxRecDepth 100000 in
set_option maxHeartbeats 1000000 in
theorem sLinkNet_ne (h : NH) (N : Nt) (w : World) (r : RdN w w.heap.size h N) (hn : N.w.length ≤ 1048576) (hl : N.l.length ≤ 1048576) (hc : N.c.length ≤ 1048576) (k i j : Int) (hv : valN N = true) (hk : kindB k = true) (hi : inW N.c.length i = true) (hj : inW N.c.length j = true) (he : (i == j) = true) :
    Calls Tryd.prog 16 #[.agg #[.slice h.A N.w.length h.c, .slice h.L N.l.length h.d, .slice h.C N.c.length h.e], .int .i64 k, .int .i64 i, .int .i64 j] w (GivesNB w Nt.nil false) := by
  obtain ⟨w0, hw0⟩ : ∃ w0, w0 = (w.alloc (.cells #[.slice h.A N.w.length h.c, .slice h.L N.l.length h.d, .slice h.C N.c.length h.e] 30)).alloc (.cells #[.slice none 0 0, .slice none 0 0, .slice none 0 0] 30) := ⟨_, rfl⟩
  obtain ⟨hb, g0, g1, hsz⟩ := two_any' w (.cells #[.slice h.A N.w.length h.c, .slice h.L N.l.length h.d, .slice h.C N.c.length h.e] 30) (.cells #[.slice none 0 0, .slice none 0 0, .slice none 0 0] 30)
  rw [← hw0] at hb g0 g1 hsz
  have hs0 : w.heap.size + 2 ≤ w0.heap.size := by omega
  have HKF : Hid (∀ wx, Below w0.heap.size w0 wx → wx.cell? ⟨w.heap.size, 0, none⟩ = some (.slice h.A N.w.length h.c) ∧ wx.cell? ⟨w.heap.size, 1, none⟩ = some (.slice h.L N.l.length h.d) ∧ wx.cell? ⟨w.heap.size, 2, none⟩ = some (.slice h.C N.c.length h.e)) := Lib.hid fun wx hx => three_cells ((hx.block _ (by omega)).trans g0)
  have HKR : Hid (∀ wx, Below w0.heap.size w0 wx → wx.heap[w.heap.size + 1]? = some (.cells #[.slice none 0 0, .slice none 0 0, .slice none 0 0] 30 (0, 0))) := Lib.hid fun wx hx => (hx.block _ (by omega)).trans g1
  have HV := Lib.hid (sValidNet_any h N w0 ((r.below hb).more hb.size) hn hl hc)
  have HRD := Lib.hid (fun (w' : World) (hw : Below w0.heap.size w0 w') => show RdN w' w'.heap.size h N from (r.below (hb.trans (hw.mono hb.size))).more (Nat.le_trans hb.size hw.size))
  have HB0 := Lib.hid hb
  obtain ⟨y0, y1, y2⟩ := HKF.out _ (Below.refl _ w0)
  rw [hv] at HV
  have HK := Lib.hid (fun w' => kind_any k w')
  rw [hk] at HK
  have HI := Lib.hid (fun w' => pos_any N.c.length i w')
  rw [hi] at HI
  have HJ := Lib.hid (fun w' => pos_any N.c.length j w')
  rw [hj] at HJ
  clear hv hk hi hj
  clear hb g0 g1 hsz r
  go_enter Tryd.func16, Tryd.ntmps16
  go_wp2_with (fail)
  rw [← hw0]
  clear hw0
  refine HV.out.mono ?_
  rintro e u1 ⟨rfl, bel⟩
  have B1 := Lib.hid bel
  clear bel y0 y1 y2
  obtain ⟨y0, y1, y2⟩ := HKF.out _ B1.out
  go_wp2_with (fail)
  refine (HK.out u1).mono ?_
  rintro e w' ⟨rfl, rfl⟩
  go_wp2_with (fail)
  refine (HI.out u1).mono ?_
  rintro e w' ⟨rfl, rfl⟩
  go_wp2_with (fail)
  refine (HJ.out u1).mono ?_
  rintro e w' ⟨rfl, rfl⟩
  have q1 := HKR.out _ B1.out
  obtain ⟨a0, a1, a2⟩ := three_cells q1
  have f0 := frozen_of_row _ _ 0 _ _ q1; have f1 := frozen_of_row _ _ 1 _ _ q1; have f2 := frozen_of_row _ _ 2 _ _ q1
  have Q1 := Lib.hid q1
  clear q1
  go_wp2
  (try simp only [Exit.inBlock, Exit.then])
  refine bodyPost_ret (results_cell_row_tmp rfl _ _ (w.heap.size + 1) _ _ (0, 0) _ rfl (set3_at Q1.out _ _ _) Tryd.underlying30 rfl (by kernel_rfl)) rfl ?_
  exact givesNB_of (own_done HB0.out B1.out (OwnN.nil u1 w0.heap.size u1.heap.size) hs0)
set_option linter.unusedSimpArgs false in
set_option maxRecDepth 100000 in
set_option maxHeartbeats 8000000 in
theorem sLinkNet_ok2 (h : NH) (N : Nt) (w : World) (r : RdN w w.heap.size h N) (hn : N.w.length ≤ 1048576) (hl : N.l.length ≤ 1048576) (hc : N.c.length ≤ 1048576) (ii jj ia ib : Nat) (LS : List Int) (hv : valN N = true) (hi : inW N.c.length (ii : Nat) = true) (hj : inW N.c.length (jj : Nat) = true) (he : (((ii : Nat) : Int) == ((jj : Nat) : Int)) = false) (hii : ii < N.c.length) (hjj : jj < N.c.length) (ea : N.c.getD ii 0 = (ia : Nat)) (eb : N.c.getD jj 0 = (ib : Nat)) (_hia : ia < N.w.length) (_hib : ib < N.w.length) (hLS : lessL N.c (ii : Nat) (jj : Nat) = LS) (b : Bool) (hX : valN ⟨N.w, N.l ++ [⟨2, ia, ib, 0⟩], LS⟩ = b) :
    Calls Tryd.prog 16 #[.agg #[.slice h.A N.w.length h.c, .slice h.L N.l.length h.d, .slice h.C N.c.length h.e], .int .i64 2, .int .i64 (ii : Nat), .int .i64 (jj : Nat)] w (GivesNB w (pickN b ⟨N.w, N.l ++ [⟨2, ia, ib, 0⟩], LS⟩) b) := by
  obtain ⟨w0, hw0⟩ : ∃ w0, w0 = (w.alloc (.cells #[.slice h.A N.w.length h.c, .slice h.L N.l.length h.d, .slice h.C N.c.length h.e] 30)).alloc (.cells #[.slice none 0 0, .slice none 0 0, .slice none 0 0] 30) := ⟨_, rfl⟩
  obtain ⟨hb, g0, g1, hsz⟩ := two_any' w (.cells #[.slice h.A N.w.length h.c, .slice h.L N.l.length h.d, .slice h.C N.c.length h.e] 30) (.cells #[.slice none 0 0, .slice none 0 0, .slice none 0 0] 30)
  rw [← hw0] at hb g0 g1 hsz
  have hs0 : w.heap.size + 2 ≤ w0.heap.size := by omega
  have HKF : Hid (∀ wx, Below w0.heap.size w0 wx → wx.cell? ⟨w.heap.size, 0, none⟩ = some (.slice h.A N.w.length h.c) ∧ wx.cell? ⟨w.heap.size, 1, none⟩ = some (.slice h.L N.l.length h.d) ∧ wx.cell? ⟨w.heap.size, 2, none⟩ = some (.slice h.C N.c.length h.e)) := Lib.hid fun wx hx => three_cells ((hx.block _ (by omega)).trans g0)
  have HKR : Hid (∀ wx, Below w0.heap.size w0 wx → wx.heap[w.heap.size + 1]? = some (.cells #[.slice none 0 0, .slice none 0 0, .slice none 0 0] 30 (0, 0))) := Lib.hid fun wx hx => (hx.block _ (by omega)).trans g1
  have HV := Lib.hid (sValidNet_any h N w0 ((r.below hb).more hb.size) hn hl hc)
  have HRD := Lib.hid (fun (w' : World) (hw : Below w0.heap.size w0 w') => show RdN w' w'.heap.size h N from (r.below (hb.trans (hw.mono hb.size))).more (Nat.le_trans hb.size hw.size))
  have HB0 := Lib.hid hb
  obtain ⟨y0, y1, y2⟩ := HKF.out _ (Below.refl _ w0)
  rw [hv] at HV
  have HK := Lib.hid (fun w' => kind_any 2 w')
  rw [show kindB 2 = true from rfl] at HK
  have HI := Lib.hid (fun w' => pos_any N.c.length ((ii : Nat) : Int) w')
  rw [hi] at HI
  have HJ := Lib.hid (fun w' => pos_any N.c.length ((jj : Nat) : Int) w')
  rw [hj] at HJ
  obtain ⟨hs1, hs2⟩ := valN_size hv
  have hcl := valN_conc_le hv
  have HVF : Hid (∀ q ∈ N.w, validB q = true) := Lib.hid fun q hq => formN_valid (List.all_eq_true.1 (valN_forms hv) q hq)
  have HOW := Lib.hid (fun (w' : World) (hw : Below w0.heap.size w0 w') => sOwn_any h N w' (HRD.out w' hw) (by omega) (fun q hq => by have := (valid_len (HVF.out q hq)).2.1; omega) (fun q hq => by have := (valid_len (HVF.out q hq)).1; omega) (by omega) (by omega))
  have HLE := Lib.hid (fun (w' : World) (hw : Below w0.heap.size w0 w') => sLess_any h.C N.c.length h.e N.c (ii : Nat) (jj : Nat) w' (HRD.out w' hw).2.2 hc)
  rw [hLS] at HLE
  obtain ⟨ls', hls'⟩ : ∃ l, N.l ++ [(⟨2, ia, ib, 0⟩ : Lk)] = l := ⟨_, rfl⟩
  rw [hls'] at hX ⊢
  have HLE' := Lib.hid hls'
  have HSL : Hid (ls'.length ≤ 1048576) := Lib.hid (by rw [← hls', List.length_append]; simp; omega)
  have HX := Lib.hid hX
  obtain ⟨i4, hi4, hz40, hz41, hz42⟩ := info_parts_link
  have HI4 := Lib.hid hi4; have HZ40 := Lib.hid hz40; have HZ41 := Lib.hid hz41; have HZ42 := Lib.hid hz42
  clear hi4 hz40 hz41 hz42 hls'
  have hlsl : LS.length ≤ N.c.length := by rw [← hLS]; exact lessU_len _ _ _ _
  obtain ⟨bc, offc, hC, hbc, hcc⟩ := r.2.2.2 (by omega)
  have c1 := hcc ii hii
  have c2 := hcc jj hjj
  rw [ea] at c1
  rw [eb] at c2
  have HC1 := Lib.hid (fun (w' : World) (hw : Below w0.heap.size w0 w') => (((hb.trans (hw.mono hb.size)).cell (p := ⟨bc, offc + ii, none⟩) hbc).trans c1))
  have HC2 := Lib.hid (fun (w' : World) (hw : Below w0.heap.size w0 w') => (((hb.trans (hw.mono hb.size)).cell (p := ⟨bc, offc + jj, none⟩) hbc).trans c2))
  have HCC := Lib.hid hC
  clear hb g0 g1 hsz r hv hi hj ea eb hLS hX hC hcc c1 c2
  go_enter Tryd.func16, Tryd.ntmps16
  go_wp2_with (fail)
  rw [← hw0]
  clear hw0
  refine HV.out.mono ?_
  rintro e u1 ⟨rfl, bel⟩
  have B1 := Lib.hid bel
  clear bel y0 y1 y2
  obtain ⟨y0, y1, y2⟩ := HKF.out _ B1.out
  go_wp2_with (fail)
  refine (HK.out u1).mono ?_
  rintro e w' ⟨rfl, rfl⟩
  go_wp2_with (fail)
  refine (HI.out u1).mono ?_
  rintro e w' ⟨rfl, rfl⟩
  go_wp2_with (fail)
  refine (HJ.out u1).mono ?_
  rintro e w' ⟨rfl, rfl⟩
  go_wp2_with (fail)
  refine (HOW.out u1 B1.out).mono ?_
  rintro e u2 ⟨h2, rfl, own2, bel2⟩
  -- the copy's own block
  obtain ⟨u3, hu3⟩ : ∃ u3, u3 = u2.alloc (.cells #[.slice h2.A N.w.length h2.c, .slice h2.L N.l.length h2.d, .slice h2.C N.c.length h2.e] 30) := ⟨_, rfl⟩
  have bx : Below u2.heap.size u2 u3 := by rw [hu3]; exact (Below.refl _ _).alloc (Nat.le_refl _) _
  have p3 : u3.heap[u2.heap.size]? = some (.cells #[.slice h2.A N.w.length h2.c, .slice h2.L N.l.length h2.d, .slice h2.C N.c.length h2.e] 30 (0, 0)) := by rw [hu3]; exact heap_alloc_new _ _
  have s3 : u2.heap.size < u3.heap.size := by rw [hu3]; simp
  have s1 := B1.out.size
  have s2 := bel2.size
  have B3 := Lib.hid (B1.out.trans ((bel2.trans (bx.mono s2)).mono s1))
  have O3 := Lib.hid (own2.below bx).size
  have F3 := Lib.hid (own2.far_ge (Nat.le_refl _))
  obtain ⟨bo, hbo⟩ : ∃ bo, u2.heap.size = bo := ⟨_, rfl⟩
  obtain ⟨lo, hlo⟩ : ∃ lo, u1.heap.size = lo := ⟨_, rfl⟩
  rw [hbo] at p3 s2 s3 F3
  rw [hlo] at s1 s2 O3
  have P3 := Lib.hid p3
  clear bx own2 bel2 y0 y1 y2 p3
  go_wp2_with (fail)
  (try rw [hbo])
  rw [← hu3]
  clear hu3 hbo hlo
  -- the link
  have HKX : Hid (∀ wx, Below w0.heap.size w0 wx → wx.cell? ⟨w.heap.size, 2, none⟩ = some (.slice (some ⟨bc, offc, none⟩) N.c.length h.e) ∧ wx.cell? ⟨bc, offc + ii, none⟩ = some (.int .i64 (ia : Nat)) ∧ wx.cell? ⟨bc, offc + jj, none⟩ = some (.int .i64 (ib : Nat))) := Lib.hid fun wx hx => by
    obtain ⟨_, _, k2⟩ := HKF.out _ hx
    rw [HCC.out] at k2
    exact ⟨k2, HC1.out _ hx, HC2.out _ hx⟩
  go_region_held3 (fun wx => wx.cell? ⟨w.heap.size, 2, none⟩ = some (.slice (some ⟨bc, offc, none⟩) N.c.length h.e) ∧ wx.cell? ⟨bc, offc + ii, none⟩ = some (.int .i64 (ia : Nat)) ∧ wx.cell? ⟨bc, offc + jj, none⟩ = some (.int .i64 (ib : Nat)))
    (first | exact HKX.out _ B3.out | exact HKX.out _ B3.out.drew | exact HKX.out _ (B3.out.drew.alloc B3.out.drew.size _))
    (first | fail)
  obtain ⟨u4, hu4⟩ : ∃ u4, u4 = (u3.alloc (.cells #[.int .i64 2, .int .i64 (ia : Nat), .int .i64 (ib : Nat), .int .i64 0] 72)).drew := ⟨_, rfl⟩
  rw [← hu4]
  rename_i hheld
  clear hheld
  have b34 : Below u3.heap.size u3 u4 := by rw [hu4]; exact ((Below.refl _ _).alloc (Nat.le_refl _) _).drew
  have p4 : u4.heap[u3.heap.size]? = some (.cells #[.int .i64 2, .int .i64 (ia : Nat), .int .i64 (ib : Nat), .int .i64 0] 72 (0, 0)) := by rw [hu4]; exact heap_alloc_new u3 _
  have s4 : u3.heap.size < u4.heap.size := by rw [hu4]; show _ < (u3.alloc _).heap.size; simp
  have B4 := Lib.hid (B3.out.trans (b34.mono B3.out.size))
  have po := (b34.block bo s3).trans P3.out
  have O4 := Lib.hid (O3.out.below b34).size
  have fl := O3.out.far_ge (Nat.le_refl _)
  clear hu4 b34 O3 B3 P3
  generalize u3.heap.size = bl at *
  have FL3 := Lib.hid fl
  have P4 := Lib.hid p4; have PO4 := Lib.hid po
  clear fl p4 po
  obtain ⟨y0, y1, y2⟩ := HKF.out _ B4.out
  go_wp2_with (fail)
  refine (HLE.out u4 B4.out).mono ?_
  rintro e u5 ⟨C5, c5, rfl, own5, bel5⟩
  have s5 := bel5.size
  have O5 := O4.out.setC bel5 (by omega) own5
  have F5 := Lib.hid (F3.out.setC own5 (by omega))
  have FL5 := Lib.hid (FL3.out.setC own5 (by omega))
  have p5 := (bel5.block bo (by omega)).trans PO4.out
  have P5l := (bel5.block bl (by omega)).trans P4.out
  have b5 := B4.out.trans (bel5.mono B4.out.size)
  have o6 := O5.farSet F5.out 2 (.slice C5 LS.length c5)
  have p6 : (u5.setCell ⟨bo, 2, none⟩ (.slice C5 LS.length c5)).heap[bo]? = some (.cells #[.slice h2.A N.w.length h2.c, .slice h2.L N.l.length h2.d, .slice C5 LS.length c5] 30 (0, 0)) := by simpa using heap_setCell_same u5 bo 2 _ _ (.slice C5 LS.length c5) p5
  have p6l : (u5.setCell ⟨bo, 2, none⟩ (.slice C5 LS.length c5)).heap[bl]? = some (.cells #[.int .i64 2, .int .i64 (ia : Nat), .int .i64 (ib : Nat), .int .i64 0] 72 (0, 0)) := (Below.heap_setCell _ _ _ _ (by show bl ≠ bo; omega)).trans P5l
  have b6 := b5.setCell (p := ⟨bo, 2, none⟩) (by show w0.heap.size ≤ bo; omega) (.slice C5 LS.length c5)
  have s6 : (u5.setCell ⟨bo, 2, none⟩ (.slice C5 LS.length c5)).heap.size = u5.heap.size := by simp
  rw [← s6] at o6 s5
  have O6 := Lib.hid o6; have P6 := Lib.hid p6; have P6L := Lib.hid p6l; have B6 := Lib.hid b6
  obtain ⟨k0, k1, k2⟩ := three_cells p5
  have k3 := frozen_of_row _ _ 2 _ _ p5
  clear own5 bel5 O5 P5l p5 b5 o6 p6 p6l b6 O4 P4 PO4 y0 y1 y2 s6
  go_upto_region 7 with (fail)
  clear k0 k1 k2 k3
  generalize u5.setCell ⟨bo, 2, none⟩ (.slice C5 LS.length c5) = u6 at *
  obtain ⟨y0, y1, y2⟩ := HKF.out _ B6.out
  obtain ⟨k0, k1, k2⟩ := three_cells P6.out
  obtain ⟨l0, l1, l2, l3⟩ := four_cells P6L.out
  have HO6 := Lib.hid (O6.out.l.alloc (.cells #[.int .i64 2, .int .i64 (ia : Nat), .int .i64 (ib : Nat), .int .i64 0] 72))
  have HNB := Lib.hid (World.news_of_block (heap_alloc_new u6 (.cells #[.int .i64 2, .int .i64 (ia : Nat), .int .i64 (ib : Nat), .int .i64 0] 72)))
  have bxa : Below u6.heap.size u6 (u6.alloc (.cells #[.int .i64 2, .int .i64 (ia : Nat), .int .i64 (ib : Nat), .int .i64 0] 72)) := (Below.refl _ _).alloc (Nat.le_refl _) _
  have BXA := Lib.hid bxa
  have pz := (bxa.block bo (by omega)).trans P6.out
  have PZ := Lib.hid pz
  clear bxa pz
  go_wp2_with (at_builtin; refine wpList_append_own_at _ rfl _ _ 28 rfl lo 72 i4 (.agg #[.int .i64 0, .int .i64 0, .int .i64 0, .int .i64 0]) 4 32 Tryd.underlying28 HI4.out HZ40.out HZ41.out HZ42.out rfl (by decide) _ _ _ rfl HO6.out ⟨u6.heap.size, 0, none⟩ 1 1 [.int .i64 2, .int .i64 (ia : Nat), .int .i64 (ib : Nat), .int .i64 0] rfl rfl HNB.out (by simp [Value.oneCell']) ?c3 ?c4 ?c5 ?_)
  case c3 => simp only [maxLen]; omega
  case c4 => omega
  case c5 => have := BXA.out.size; omega
  intro v7 u7 own7 gr7 _ at7
  have own7' : u7.ownsRow lo 72 4 v7 ls'.length ((flL ls').map (Value.int .i64)) := by
    rw [← HLE'.out, flL_app, List.map_append, List.length_append]; exact own7
  obtain ⟨L7, d7, rfl⟩ := own_shape4 own7'
  have hsz7 : (u6.alloc (.cells #[.int .i64 2, .int .i64 (ia : Nat), .int .i64 (ib : Nat), .int .i64 0] 72)).heap.size = u6.heap.size + 1 := World.size_alloc _ _
  have O7 := O6.out.pushL BXA.out own7' gr7 (by rw [hsz7]; exact at7)
  have hbo7 : bo < (u6.alloc (.cells #[.int .i64 2, .int .i64 (ia : Nat), .int .i64 (ib : Nat), .int .i64 0] 72)).heap.size := by have := BXA.out.size; omega
  have F7 := F5.out.pushL at7 (show bo < u6.heap.size + 1 by omega)
  have p7 := (gr7.block bo hbo7 (fun e => F5.out.l e.symm)).trans PZ.out
  have b7 := (B6.out.trans (BXA.out.mono B6.out.size)).grown gr7 (by have := B6.out.size; have := BXA.out.size; omega) (fun k hk => by have := (O6.out.l.lt k hk).1; omega)
  have o8 := O7.farSet F7 1 (.slice L7 ls'.length d7)
  have p8 : (u7.setCell ⟨bo, 1, none⟩ (.slice L7 ls'.length d7)).heap[bo]? = some (.cells #[.slice h2.A N.w.length h2.c, .slice L7 ls'.length d7, .slice C5 LS.length c5] 30 (0, 0)) := by simpa using heap_setCell_same u7 bo 1 _ _ (.slice L7 ls'.length d7) p7
  have b8 := b7.setCell (p := ⟨bo, 1, none⟩) (by show w0.heap.size ≤ bo; omega) (.slice L7 ls'.length d7)
  have s8 : (u7.setCell ⟨bo, 1, none⟩ (.slice L7 ls'.length d7)).heap.size = u7.heap.size := by simp
  rw [← s8] at o8
  have O8 := Lib.hid o8; have P8 := Lib.hid p8; have B8 := Lib.hid b8
  have HB8 : Hid (bo < (u7.setCell ⟨bo, 1, none⟩ (.slice L7 ls'.length d7)).heap.size) := Lib.hid (by rw [s8]; have := gr7.size; omega)
  clear k0 k1 k2
  obtain ⟨k0, k1, k2⟩ := three_cells p7
  have k3 := frozen_of_row _ _ 1 _ _ p7
  clear own7 own7' gr7 at7 O7 F7 p7 b7 o8 p8 b8 s8 y0 y1 y2
  go_upto_region 15 with (fail)
  clear k0 k1 k2 k3
  generalize u7.setCell ⟨bo, 1, none⟩ (.slice L7 ls'.length d7) = u8 at *
  obtain ⟨k0, k1, k2⟩ := three_cells P8.out
  have HV8 := Lib.hid (sValidNet_any ⟨h2.A, h2.c, h2.hs, L7, d7, C5, c5⟩ ⟨N.w, ls', LS⟩ u8 O8.out.rd hn HSL.out (show LS.length ≤ 1048576 by omega))
  rw [HX.out] at HV8
  cases b with
  | false =>
    go_wp2_with (fail)
    refine HV8.out.mono ?_
    rintro e u9 ⟨rfl, bel9⟩
    have B9 := Lib.hid (B8.out.trans (bel9.mono B8.out.size))
    clear bel9 k0 k1 k2
    have q1 := HKR.out _ B9.out
    obtain ⟨a0, a1, a2⟩ := three_cells q1
    have f0 := frozen_of_row _ _ 0 _ _ q1; have f1 := frozen_of_row _ _ 1 _ _ q1; have f2 := frozen_of_row _ _ 2 _ _ q1
    have Q1 := Lib.hid q1
    clear q1
    go_wp2
    (try simp only [Exit.inBlock, Exit.then])
    refine bodyPost_ret (results_cell_row_tmp rfl _ _ (w.heap.size + 1) _ _ (0, 0) _ rfl (set3_at Q1.out _ _ _) Tryd.underlying30 rfl (by kernel_rfl)) rfl ?_
    exact givesNB_of (own_done HB0.out B9.out (OwnN.nil u9 w0.heap.size u9.heap.size) hs0)
  | true =>
    go_wp2_with (fail)
    refine HV8.out.mono ?_
    rintro e u9 ⟨rfl, bel9⟩
    have B9 := Lib.hid (B8.out.trans (bel9.mono B8.out.size))
    have O9 := Lib.hid ((O8.out.below bel9).size.more (show w0.heap.size ≤ lo by omega) (Nat.le_refl _))
    clear k0 k1 k2
    obtain ⟨k0, k1, k2⟩ := three_cells ((bel9.block bo (by have := HB8.out; omega)).trans P8.out)
    have q1 := HKR.out _ B9.out
    obtain ⟨a0, a1, a2⟩ := three_cells q1
    have f0 := frozen_of_row _ _ 0 _ _ q1; have f1 := frozen_of_row _ _ 1 _ _ q1; have f2 := frozen_of_row _ _ 2 _ _ q1
    have Q1 := Lib.hid q1
    clear q1 bel9
    go_wp2
    (try simp only [Exit.inBlock, Exit.then])
    refine bodyPost_ret (results_cell_row_tmp rfl _ _ (w.heap.size + 1) _ _ (0, 0) _ rfl (set3_at Q1.out _ _ _) Tryd.underlying30 rfl (by kernel_rfl)) rfl ?_
    exact givesNB_of (own_done HB0.out B9.out O9.out hs0)
set_option linter.unusedSimpArgs false in
set_option maxRecDepth 100000 in
set_option maxHeartbeats 8000000 in
theorem sLinkNet_ok3 (h : NH) (N : Nt) (w : World) (r : RdN w w.heap.size h N) (hn : N.w.length ≤ 1048576) (hl : N.l.length ≤ 1048576) (hc : N.c.length ≤ 1048576) (ii jj ia ib : Nat) (LS : List Int) (hv : valN N = true) (hi : inW N.c.length (ii : Nat) = true) (hj : inW N.c.length (jj : Nat) = true) (he : (((ii : Nat) : Int) == ((jj : Nat) : Int)) = false) (hii : ii < N.c.length) (hjj : jj < N.c.length) (ea : N.c.getD ii 0 = (ia : Nat)) (eb : N.c.getD jj 0 = (ib : Nat)) (hia : ia < N.w.length) (hib : ib < N.w.length) (hLS : lessL N.c (ii : Nat) (jj : Nat) = LS) (b : Bool) (hX : valN ⟨N.w ++ [11 :: (N.w.getD ia [] ++ N.w.getD ib [])], N.l ++ [⟨3, ia, ib, N.w.length⟩], LS ++ [(N.w.length : Int)]⟩ = b) :
    Calls Tryd.prog 16 #[.agg #[.slice h.A N.w.length h.c, .slice h.L N.l.length h.d, .slice h.C N.c.length h.e], .int .i64 3, .int .i64 (ii : Nat), .int .i64 (jj : Nat)] w (GivesNB w (pickN b ⟨N.w ++ [11 :: (N.w.getD ia [] ++ N.w.getD ib [])], N.l ++ [⟨3, ia, ib, N.w.length⟩], LS ++ [(N.w.length : Int)]⟩) b) := by
  obtain ⟨w0, hw0⟩ : ∃ w0, w0 = (w.alloc (.cells #[.slice h.A N.w.length h.c, .slice h.L N.l.length h.d, .slice h.C N.c.length h.e] 30)).alloc (.cells #[.slice none 0 0, .slice none 0 0, .slice none 0 0] 30) := ⟨_, rfl⟩
  obtain ⟨hb, g0, g1, hsz⟩ := two_any' w (.cells #[.slice h.A N.w.length h.c, .slice h.L N.l.length h.d, .slice h.C N.c.length h.e] 30) (.cells #[.slice none 0 0, .slice none 0 0, .slice none 0 0] 30)
  rw [← hw0] at hb g0 g1 hsz
  have hs0 : w.heap.size + 2 ≤ w0.heap.size := by omega
  have HKF : Hid (∀ wx, Below w0.heap.size w0 wx → wx.cell? ⟨w.heap.size, 0, none⟩ = some (.slice h.A N.w.length h.c) ∧ wx.cell? ⟨w.heap.size, 1, none⟩ = some (.slice h.L N.l.length h.d) ∧ wx.cell? ⟨w.heap.size, 2, none⟩ = some (.slice h.C N.c.length h.e)) := Lib.hid fun wx hx => three_cells ((hx.block _ (by omega)).trans g0)
  have HKR : Hid (∀ wx, Below w0.heap.size w0 wx → wx.heap[w.heap.size + 1]? = some (.cells #[.slice none 0 0, .slice none 0 0, .slice none 0 0] 30 (0, 0))) := Lib.hid fun wx hx => (hx.block _ (by omega)).trans g1
  have HV := Lib.hid (sValidNet_any h N w0 ((r.below hb).more hb.size) hn hl hc)
  have HRD := Lib.hid (fun (w' : World) (hw : Below w0.heap.size w0 w') => show RdN w' w'.heap.size h N from (r.below (hb.trans (hw.mono hb.size))).more (Nat.le_trans hb.size hw.size))
  have HB0 := Lib.hid hb
  obtain ⟨y0, y1, y2⟩ := HKF.out _ (Below.refl _ w0)
  rw [hv] at HV
  have HK := Lib.hid (fun w' => kind_any 3 w')
  rw [show kindB 3 = true from rfl] at HK
  have HI := Lib.hid (fun w' => pos_any N.c.length ((ii : Nat) : Int) w')
  rw [hi] at HI
  have HJ := Lib.hid (fun w' => pos_any N.c.length ((jj : Nat) : Int) w')
  rw [hj] at HJ
  obtain ⟨hs1, hs2⟩ := valN_size hv
  have hcl := valN_conc_le hv
  have HVF : Hid (∀ q ∈ N.w, validB q = true) := Lib.hid fun q hq => formN_valid (List.all_eq_true.1 (valN_forms hv) q hq)
  have HOW := Lib.hid (fun (w' : World) (hw : Below w0.heap.size w0 w') => sOwn_any h N w' (HRD.out w' hw) (by omega) (fun q hq => by have := (valid_len (HVF.out q hq)).2.1; omega) (fun q hq => by have := (valid_len (HVF.out q hq)).1; omega) (by omega) (by omega))
  have HLE := Lib.hid (fun (w' : World) (hw : Below w0.heap.size w0 w') => sLess_any h.C N.c.length h.e N.c (ii : Nat) (jj : Nat) w' (HRD.out w' hw).2.2 hc)
  rw [hLS] at HLE
  obtain ⟨ls', hls'⟩ : ∃ l, N.l ++ [(⟨3, ia, ib, N.w.length⟩ : Lk)] = l := ⟨_, rfl⟩
  rw [hls'] at hX ⊢
  have HLE' := Lib.hid hls'
  have HSL : Hid (ls'.length ≤ 1048576) := Lib.hid (by rw [← hls', List.length_append]; simp; omega)
  have HX := Lib.hid hX
  obtain ⟨i4, hi4, hz40, hz41, hz42⟩ := info_parts_link
  have HI4 := Lib.hid hi4; have HZ40 := Lib.hid hz40; have HZ41 := Lib.hid hz41; have HZ42 := Lib.hid hz42
  clear hi4 hz40 hz41 hz42 hls'
  have hlsl : LS.length ≤ N.c.length := by rw [← hLS]; exact lessU_len _ _ _ _
  obtain ⟨bc, offc, hC, hbc, hcc⟩ := r.2.2.2 (by omega)
  have c1 := hcc ii hii
  have c2 := hcc jj hjj
  rw [ea] at c1
  rw [eb] at c2
  have HC1 := Lib.hid (fun (w' : World) (hw : Below w0.heap.size w0 w') => (((hb.trans (hw.mono hb.size)).cell (p := ⟨bc, offc + ii, none⟩) hbc).trans c1))
  have HC2 := Lib.hid (fun (w' : World) (hw : Below w0.heap.size w0 w') => (((hb.trans (hw.mono hb.size)).cell (p := ⟨bc, offc + jj, none⟩) hbc).trans c2))
  have HCC := Lib.hid hC
  obtain ⟨bw, offw, hA, hbw, hcw⟩ := r.1.2 (by omega)
  obtain ⟨Aa, ca, ka, _, ra⟩ := hcw ia hia
  obtain ⟨Ab, cb, kb, _, rb⟩ := hcw ib hib
  have hva := valid_len (HVF.out _ (getD_mem hia))
  have hvb := valid_len (HVF.out _ (getD_mem hib))
  have HJN := Lib.hid (fun (w' : World) (hw : Below w0.heap.size w0 w') => sjoined_any 11 Aa (N.w.getD ia []).length ca _ Ab (N.w.getD ib []).length cb _ w' ((ra.below (hb.trans (hw.mono hb.size))).more (Nat.le_trans hb.size hw.size)) ((rb.below (hb.trans (hw.mono hb.size))).more (Nat.le_trans hb.size hw.size)) (by omega) (by omega) (by omega) (by omega))
  have hbw' : bw < w0.heap.size := Nat.lt_of_lt_of_le hbw hb.size
  have wa := (hb.cell (p := ⟨bw, offw + ia, none⟩) hbw).trans ka
  have wb := (hb.cell (p := ⟨bw, offw + ib, none⟩) hbw).trans kb
  have HWA := Lib.hid wa; have HWB := Lib.hid wb; have HAA := Lib.hid hA
  have HLD : Hid ((11 :: (N.w.getD ia [] ++ N.w.getD ib [])).length ≤ 100) := Lib.hid (by rw [List.length_cons, List.length_append]; omega)
  clear hva hvb hA hcw ka kb ra rb wa wb
  generalize N.w.getD ia [] = P at *
  generalize N.w.getD ib [] = Q at *
  generalize 11 :: (P ++ Q) = DP at *
  obtain ⟨ws', hws'⟩ : ∃ l, N.w ++ [DP] = l := ⟨_, rfl⟩
  obtain ⟨cs', hcs'⟩ : ∃ l, LS ++ [(N.w.length : Int)] = l := ⟨_, rfl⟩
  have HWE := Lib.hid hws'; have HCE := Lib.hid hcs'
  have HWL : Hid (ws'.length = N.w.length + 1) := Lib.hid (by rw [← hws']; simp)
  have HSW : Hid (ws'.length ≤ 1048576) := Lib.hid (by rw [HWL.out]; omega)
  have HSC : Hid (cs'.length ≤ 1048576) := Lib.hid (by rw [← hcs', List.length_append]; simp; omega)
  rw [hws', hcs'] at HX
  rw [hws', hcs']
  obtain ⟨i1, hi1, hz10, hz11, hz12⟩ := info_parts info_i64
  have HI1 := Lib.hid hi1; have HZ10 := Lib.hid hz10; have HZ11 := Lib.hid hz11; have HZ12 := Lib.hid hz12
  clear hi1 hz10 hz11 hz12 hws' hcs'
  clear hb g0 g1 hsz r hv hi hj ea eb hLS hX hC hcc c1 c2
  go_enter Tryd.func16, Tryd.ntmps16
  go_wp2_with (fail)
  rw [← hw0]
  clear hw0
  refine HV.out.mono ?_
  rintro e u1 ⟨rfl, bel⟩
  have B1 := Lib.hid bel
  clear bel y0 y1 y2
  obtain ⟨y0, y1, y2⟩ := HKF.out _ B1.out
  go_wp2_with (fail)
  refine (HK.out u1).mono ?_
  rintro e w' ⟨rfl, rfl⟩
  go_wp2_with (fail)
  refine (HI.out u1).mono ?_
  rintro e w' ⟨rfl, rfl⟩
  go_wp2_with (fail)
  refine (HJ.out u1).mono ?_
  rintro e w' ⟨rfl, rfl⟩
  go_wp2_with (fail)
  refine (HOW.out u1 B1.out).mono ?_
  rintro e u2 ⟨h2, rfl, own2, bel2⟩
  -- the copy's own block
  obtain ⟨u3, hu3⟩ : ∃ u3, u3 = u2.alloc (.cells #[.slice h2.A N.w.length h2.c, .slice h2.L N.l.length h2.d, .slice h2.C N.c.length h2.e] 30) := ⟨_, rfl⟩
  have bx : Below u2.heap.size u2 u3 := by rw [hu3]; exact (Below.refl _ _).alloc (Nat.le_refl _) _
  have p3 : u3.heap[u2.heap.size]? = some (.cells #[.slice h2.A N.w.length h2.c, .slice h2.L N.l.length h2.d, .slice h2.C N.c.length h2.e] 30 (0, 0)) := by rw [hu3]; exact heap_alloc_new _ _
  have s3 : u2.heap.size < u3.heap.size := by rw [hu3]; simp
  have s1 := B1.out.size
  have s2 := bel2.size
  have B3 := Lib.hid (B1.out.trans ((bel2.trans (bx.mono s2)).mono s1))
  have O3 := Lib.hid (own2.below bx).size
  have F3 := Lib.hid (own2.far_ge (Nat.le_refl _))
  obtain ⟨bo, hbo⟩ : ∃ bo, u2.heap.size = bo := ⟨_, rfl⟩
  obtain ⟨lo, hlo⟩ : ∃ lo, u1.heap.size = lo := ⟨_, rfl⟩
  rw [hbo] at p3 s2 s3 F3
  rw [hlo] at s1 s2 O3
  have P3 := Lib.hid p3
  clear bx own2 bel2 y0 y1 y2 p3
  go_wp2_with (fail)
  (try rw [hbo])
  rw [← hu3]
  clear hu3 hbo hlo
  -- the link
  have HKX : Hid (∀ wx, Below w0.heap.size w0 wx → wx.cell? ⟨w.heap.size, 2, none⟩ = some (.slice (some ⟨bc, offc, none⟩) N.c.length h.e) ∧ wx.cell? ⟨bc, offc + ii, none⟩ = some (.int .i64 (ia : Nat)) ∧ wx.cell? ⟨bc, offc + jj, none⟩ = some (.int .i64 (ib : Nat))) := Lib.hid fun wx hx => by
    obtain ⟨_, _, k2⟩ := HKF.out _ hx
    rw [HCC.out] at k2
    exact ⟨k2, HC1.out _ hx, HC2.out _ hx⟩
  go_region_held3 (fun wx => wx.cell? ⟨w.heap.size, 2, none⟩ = some (.slice (some ⟨bc, offc, none⟩) N.c.length h.e) ∧ wx.cell? ⟨bc, offc + ii, none⟩ = some (.int .i64 (ia : Nat)) ∧ wx.cell? ⟨bc, offc + jj, none⟩ = some (.int .i64 (ib : Nat)))
    (first | exact HKX.out _ B3.out | exact HKX.out _ B3.out.drew | exact HKX.out _ (B3.out.drew.alloc B3.out.drew.size _))
    (first | fail)
  obtain ⟨u4, hu4⟩ : ∃ u4, u4 = (u3.alloc (.cells #[.int .i64 3, .int .i64 (ia : Nat), .int .i64 (ib : Nat), .int .i64 0] 72)).drew := ⟨_, rfl⟩
  rw [← hu4]
  rename_i hheld
  clear hheld
  have b34 : Below u3.heap.size u3 u4 := by rw [hu4]; exact ((Below.refl _ _).alloc (Nat.le_refl _) _).drew
  have p4 : u4.heap[u3.heap.size]? = some (.cells #[.int .i64 3, .int .i64 (ia : Nat), .int .i64 (ib : Nat), .int .i64 0] 72 (0, 0)) := by rw [hu4]; exact heap_alloc_new u3 _
  have s4 : u3.heap.size < u4.heap.size := by rw [hu4]; show _ < (u3.alloc _).heap.size; simp
  have B4 := Lib.hid (B3.out.trans (b34.mono B3.out.size))
  have po := (b34.block bo s3).trans P3.out
  have O4 := Lib.hid (O3.out.below b34).size
  have fl := O3.out.far_ge (Nat.le_refl _)
  clear hu4 b34 O3 B3 P3
  generalize u3.heap.size = bl at *
  have FL3 := Lib.hid fl
  have P4 := Lib.hid p4; have PO4 := Lib.hid po
  clear fl p4 po
  obtain ⟨y0, y1, y2⟩ := HKF.out _ B4.out
  go_wp2_with (fail)
  refine (HLE.out u4 B4.out).mono ?_
  rintro e u5 ⟨C5, c5, rfl, own5, bel5⟩
  have s5 := bel5.size
  have O5 := O4.out.setC bel5 (by omega) own5
  have F5 := Lib.hid (F3.out.setC own5 (by omega))
  have FL5 := Lib.hid (FL3.out.setC own5 (by omega))
  have p5 := (bel5.block bo (by omega)).trans PO4.out
  have P5l := (bel5.block bl (by omega)).trans P4.out
  have b5 := B4.out.trans (bel5.mono B4.out.size)
  have o6 := O5.farSet F5.out 2 (.slice C5 LS.length c5)
  have p6 : (u5.setCell ⟨bo, 2, none⟩ (.slice C5 LS.length c5)).heap[bo]? = some (.cells #[.slice h2.A N.w.length h2.c, .slice h2.L N.l.length h2.d, .slice C5 LS.length c5] 30 (0, 0)) := by simpa using heap_setCell_same u5 bo 2 _ _ (.slice C5 LS.length c5) p5
  have p6l : (u5.setCell ⟨bo, 2, none⟩ (.slice C5 LS.length c5)).heap[bl]? = some (.cells #[.int .i64 3, .int .i64 (ia : Nat), .int .i64 (ib : Nat), .int .i64 0] 72 (0, 0)) := (Below.heap_setCell _ _ _ _ (by show bl ≠ bo; omega)).trans P5l
  have b6 := b5.setCell (p := ⟨bo, 2, none⟩) (by show w0.heap.size ≤ bo; omega) (.slice C5 LS.length c5)
  have s6 : (u5.setCell ⟨bo, 2, none⟩ (.slice C5 LS.length c5)).heap.size = u5.heap.size := by simp
  rw [← s6] at o6 s5
  have O6 := Lib.hid o6; have P6 := Lib.hid p6; have P6L := Lib.hid p6l; have B6 := Lib.hid b6
  obtain ⟨k0, k1, k2⟩ := three_cells p5
  have k3 := frozen_of_row _ _ 2 _ _ p5
  clear own5 bel5 O5 P5l p5 b5 o6 p6 p6l b6 O4 P4 PO4 y0 y1 y2 s6
  go_upto_region 7 with (fail)
  clear k0 k1 k2 k3
  generalize u5.setCell ⟨bo, 2, none⟩ (.slice C5 LS.length c5) = u6 at *
  obtain ⟨y0, y1, y2⟩ := HKF.out _ B6.out
  obtain ⟨k0, k1, k2⟩ := three_cells P6.out
  obtain ⟨l0, l1, l2, l3⟩ := four_cells P6L.out
  have l3f := frozen_of_row _ _ 3 _ _ P6L.out
  have o7 := (O6.out.farSet FL5.out 3 (.int .i64 N.w.length))
  have p7l : (u6.setCell ⟨bl, 3, none⟩ (.int .i64 N.w.length)).heap[bl]? = some (.cells #[.int .i64 3, .int .i64 (ia : Nat), .int .i64 (ib : Nat), .int .i64 N.w.length] 72 (0, 0)) := by simpa using heap_setCell_same u6 bl 3 _ _ (.int .i64 N.w.length) P6L.out
  have p7 : (u6.setCell ⟨bl, 3, none⟩ (.int .i64 N.w.length)).heap[bo]? = _ := (Below.heap_setCell _ _ _ _ (by show bo ≠ bl; omega)).trans P6.out
  have b7 := B6.out.setCell (p := ⟨bl, 3, none⟩) (by show w0.heap.size ≤ bl; omega) (.int .i64 N.w.length)
  have s7 : (u6.setCell ⟨bl, 3, none⟩ (.int .i64 N.w.length)).heap.size = u6.heap.size := by simp
  rw [← s7] at o7 s5
  have O7 := Lib.hid o7; have P7L := Lib.hid p7l; have P7 := Lib.hid p7; have B7 := Lib.hid b7
  clear o7 p7l p7 b7 s7 O6 P6 P6L B6
  go_upto_region 12 with (fail)
  clear k0 k1 k2 l0 l1 l2 l3 l3f y0 y1 y2
  generalize u6.setCell ⟨bl, 3, none⟩ (.int .i64 N.w.length) = u7 at *
  have HSX : Hid (∀ wx, Below w0.heap.size w0 wx → wx.heap[bl]? = some (.cells #[.int .i64 3, .int .i64 (ia : Nat), .int .i64 (ib : Nat), .int .i64 N.w.length] 72 (0, 0)) → wx.cell? ⟨w.heap.size, 0, none⟩ = some (.slice (some ⟨bw, offw, none⟩) N.w.length h.c) ∧ wx.cell? ⟨bl, 1, none⟩ = some (.int .i64 (ia : Nat)) ∧ wx.cell? ⟨bl, 2, none⟩ = some (.int .i64 (ib : Nat)) ∧ wx.cell? ⟨bw, offw + ia, none⟩ = some (.slice Aa P.length ca) ∧ wx.cell? ⟨bw, offw + ib, none⟩ = some (.slice Ab Q.length cb)) := Lib.hid fun wx hx hl => by
    obtain ⟨k0, _, _⟩ := HKF.out _ hx
    obtain ⟨_, l1, l2, _⟩ := four_cells hl
    rw [HAA.out] at k0
    exact ⟨k0, l1, l2, (hx.cell (p := ⟨bw, offw + ia, none⟩) hbw').trans HWA.out, (hx.cell (p := ⟨bw, offw + ib, none⟩) hbw').trans HWB.out⟩
  have hs7 : bl < u7.heap.size := by omega
  have lo7 : lo ≤ u7.heap.size := by omega
  have K0 := Lib.hid (HSX.out u7 B7.out P7L.out)
  have kb0 := cell_of_row _ _ 0 _ _ (0, 0) P7.out
  have tok1 : True := trivial
  obtain ⟨i0, hi0, hz0, hz1, hz2⟩ := info_parts_s
  have HI := Lib.hid hi0; have HZ0 := Lib.hid hz0; have HZ1 := Lib.hid hz1; have HZ2 := Lib.hid hz2
  clear hi0 hz0 hz1 hz2
  refine wp_region_held_drew (S := fun wx => wx.cell? ⟨w.heap.size, 0, none⟩ = some (.slice (some ⟨bw, offw, none⟩) N.w.length h.c) ∧ wx.cell? ⟨bl, 1, none⟩ = some (.int .i64 (ia : Nat)) ∧ wx.cell? ⟨bl, 2, none⟩ = some (.int .i64 (ib : Nat)) ∧ wx.cell? ⟨bw, offw + ia, none⟩ = some (.slice Aa P.length ca) ∧ wx.cell? ⟨bw, offw + ib, none⟩ = some (.slice Ab Q.length cb)) (by kernel_rfl) K0.out (fun hHeld => ?_)
  refine wpAnyH_take (i := 0) (v := ?v0) rfl (by kernel_rfl) (by kernel_rfl) (by kernel_rfl) (fun _ _ _ h => h) (Or.inl ⟨by rfl, ?y0⟩) (by assumption) ?r0
  case y0 => (intro w hSw; (try dsimp only at hSw); go_simp; all_goals (with_reducible rfl))
  (try simp only [Act.put, List.setIfInBounds_toArray, List.set_cons_zero, List.set_cons_succ])
  refine wpAnyH_take (i := 2) (v := ?v2) rfl (by kernel_rfl) (by kernel_rfl) (by kernel_rfl) (fun _ _ _ h => h) (Or.inl ⟨by rfl, ?y2⟩) (by assumption) ?r2
  case y2 => (intro w hSw; (try dsimp only at hSw); go_simp; all_goals (with_reducible rfl))
  (try simp only [Act.put, List.setIfInBounds_toArray, List.set_cons_zero, List.set_cons_succ])
  refine wpAnyH_take (i := 3) (v := ?v3) rfl (by kernel_rfl) (by kernel_rfl) (by kernel_rfl) (fun _ _ _ h => h) (Or.inl ⟨by rfl, ?y3⟩) (by assumption) ?r3
  case y3 => (intro w hSw; (try dsimp only at hSw); go_simp; all_goals (with_reducible rfl))
  (try simp only [Act.put, List.setIfInBounds_toArray, List.set_cons_zero, List.set_cons_succ])
  refine wpAnyH_take (i := 4) (v := ?v4) rfl (by kernel_rfl) (by kernel_rfl) (by kernel_rfl) (fun _ _ _ h => h) (Or.inl ⟨by rfl, ?y4⟩) (by assumption) ?r4
  case y4 => (intro w hSw; (try dsimp only at hSw); go_simp; all_goals (with_reducible rfl))
  (try simp only [Act.put, List.setIfInBounds_toArray, List.set_cons_zero, List.set_cons_succ])
  refine wpAnyH_take (i := 5) (v := ?v5) rfl (by kernel_rfl) (by kernel_rfl) (by kernel_rfl) (fun _ _ _ h => h) (Or.inl ⟨by rfl, ?y5⟩) (by assumption) ?r5
  case y5 => (intro w hSw; (try dsimp only at hSw); go_simp; all_goals (with_reducible rfl))
  (try simp only [Act.put, List.setIfInBounds_toArray, List.set_cons_zero, List.set_cons_succ])
  refine wpAnyH_take (i := 6) (v := ?v6) rfl (by kernel_rfl) (by kernel_rfl) (by kernel_rfl) (fun _ _ _ h => h) (Or.inl ⟨by rfl, ?y6⟩) (by assumption) ?r6
  case y6 => (intro w hSw; (try dsimp only at hSw); go_simp; all_goals (with_reducible rfl))
  (try simp only [Act.put, List.setIfInBounds_toArray, List.set_cons_zero, List.set_cons_succ])
  refine wpAnyH_take (i := 7) (v := ?v7) rfl (by kernel_rfl) (by kernel_rfl) (by kernel_rfl) (fun _ _ _ h => h) (Or.inl ⟨by rfl, ?y7⟩) (by assumption) ?r7
  case y7 => (intro w hSw; (try dsimp only at hSw); go_simp; all_goals (with_reducible rfl))
  (try simp only [Act.put, List.setIfInBounds_toArray, List.set_cons_zero, List.set_cons_succ])
  refine wpAnyH_take (i := 8) (v := ?v8) rfl (by kernel_rfl) (by kernel_rfl) (by kernel_rfl) (fun _ _ _ h => h) (Or.inl ⟨by rfl, ?y8⟩) (by assumption) ?r8
  case y8 => (intro w hSw; (try dsimp only at hSw); go_simp; all_goals (with_reducible rfl))
  (try simp only [Act.put, List.setIfInBounds_toArray, List.set_cons_zero, List.set_cons_succ])
  refine wpAnyH_take (i := 9) (v := ?v9) rfl (by kernel_rfl) (by kernel_rfl) (by kernel_rfl) (fun _ _ _ h => h) (Or.inl ⟨by rfl, ?y9⟩) (by assumption) ?r9
  case y9 => (intro w hSw; (try dsimp only at hSw); go_simp; all_goals (with_reducible rfl))
  (try simp only [Act.put, List.setIfInBounds_toArray, List.set_cons_zero, List.set_cons_succ])
  refine wpAnyH_take (i := 10) (v := ?v10) rfl (by kernel_rfl) (by kernel_rfl) (by kernel_rfl) (fun _ _ _ h => h) (Or.inl ⟨by rfl, ?y10⟩) (by assumption) ?r10
  case y10 => (intro w hSw; (try dsimp only at hSw); go_simp; all_goals (with_reducible rfl))
  (try simp only [Act.put, List.setIfInBounds_toArray, List.set_cons_zero, List.set_cons_succ])
  refine wpAnyH_take (i := 11) (v := ?v11) rfl (by kernel_rfl) (by kernel_rfl) (by kernel_rfl) (fun _ _ _ h => h) (Or.inl ⟨by rfl, ?y11⟩) (by assumption) ?r11
  case y11 => (intro w hSw; (try dsimp only at hSw); go_simp; all_goals (with_reducible rfl))
  (try simp only [Act.put, List.setIfInBounds_toArray, List.set_cons_zero, List.set_cons_succ])
  refine wpAnyH_take (i := 12) (v := ?v12) rfl (by kernel_rfl) (by kernel_rfl) (by kernel_rfl) (fun _ _ _ h => h) (Or.inl ⟨by rfl, ?y12⟩) (by assumption) ?r12
  case y12 => (intro w hSw; (try dsimp only at hSw); go_simp; all_goals (with_reducible rfl))
  (try simp only [Act.put, List.setIfInBounds_toArray, List.set_cons_zero, List.set_cons_succ])
  refine wpAnyH_take (i := 13) (v := ?v13) rfl (by kernel_rfl) (by kernel_rfl) (by kernel_rfl) (fun _ _ _ h => h) (Or.inl ⟨by rfl, ?y13⟩) (by assumption) ?r13
  case y13 => (intro w hSw; (try dsimp only at hSw); go_simp; all_goals (with_reducible rfl))
  (try simp only [Act.put, List.setIfInBounds_toArray, List.set_cons_zero, List.set_cons_succ])
  refine wpAnyH_take (i := 14) (v := ?v14) rfl (by kernel_rfl) (by kernel_rfl) (by kernel_rfl) (fun _ _ _ h => h) (Or.inl ⟨by rfl, ?y14⟩) (by assumption) ?r14
  case y14 => (intro w hSw; (try dsimp only at hSw); go_simp; all_goals (with_reducible rfl))
  (try simp only [Act.put, List.setIfInBounds_toArray, List.set_cons_zero, List.set_cons_succ])
  refine wpAnyH_ready (rs := [1, 15]) (by kernel_rfl) (by simp) ?_
  refine AllReadyH.cons rfl (fun K hK => ?_) ?_
  go_simp
  refine hK.out _ _ K0.out (fun hHeld => ?_)
  clear hK K
  (try simp only [Act.put, List.setIfInBounds_toArray, List.set_cons_zero, List.set_cons_succ])
  refine wpAnyH_ready (rs := [15]) (by kernel_rfl) (by simp) ?_
  refine AllReadyH.cons rfl (fun K hK => ?_) ?_
  go_simp
  go_at_call 56
  refine (HJN.out u7.drew B7.out.drew).mono ?_
  rintro e u8 ⟨A6, c6, rfl, own6, bel6'⟩
  have bel6 := undrew bel6'
  have b8 := B7.out.trans (bel6.mono B7.out.size)
  have hx6 := bel6.trans ((box_below u8 (.slice A6 DP.length c6) 24).mono bel6.size)
  obtain ⟨o6, n6, bs6⟩ := push_in (A6 := A6) (c6 := c6) (dq := DP) O7.out.q rfl lo7 bel6
  have O6 := Lib.hid o6
  have N6 := Lib.hid n6
  have BS6 := Lib.hid bs6
  have kb1 := (bel6.cell (p := ⟨bo, 0, none⟩) (by show bo < _; omega)).trans kb0
  have kb2 := (hx6.cell (p := ⟨bo, 0, none⟩) (by show bo < _; omega)).trans kb0
  have K8 := Lib.hid (HSX.out u8 b8 ((bel6.block bl hs7).trans P7L.out))
  have K8a := Lib.hid (HSX.out (u8.alloc (.cells #[.slice A6 DP.length c6] 24)) (B7.out.trans (hx6.mono B7.out.size)) ((hx6.block bl hs7).trans P7L.out))
  have OW6 := Lib.hid own6
  have BE6 := Lib.hid bel6
  have HX6 := Lib.hid hx6
  clear own6 bel6 bel6' o6 n6 bs6 hx6 b8
  dsimp only
  refine hK.out _ _ K8.out (fun hHeld => ?_)
  clear hK K
  (try simp only [Act.put, List.setIfInBounds_toArray, List.set_cons_zero, List.set_cons_succ])
  refine wpAnyH_ready (rs := [16]) (by kernel_rfl) (by simp) ?_
  refine AllReadyH.cons rfl (fun K hK => ?_) ?_
  go_simp
  refine hK.out _ _ K8a.out (fun hHeld => ?_)
  clear hK K
  (try simp only [Act.put, List.setIfInBounds_toArray, List.set_cons_zero, List.set_cons_succ])
  refine wpAnyH_ready (rs := [17]) (by kernel_rfl) (by simp) ?_
  refine AllReadyH.cons rfl (fun K hK => ?_) ?_
  refine step_append_lies _ rfl _ _ _ rfl _ 24 i0 (.slice none 0 0) 1 24 Tryd.underlying22 HI.out HZ0.out HZ1.out HZ2.out rfl (by decide) _ _ _ rfl O6.out ⟨u8.heap.size, 0, none⟩ 1 1 [.slice A6 DP.length c6] rfl rfl N6.out (by simp [Value.oneCell']) (by decide) (by simp only [maxLen]; omega) (by (try dsimp only); omega) BS6.out _ rfl ?_
  intro g cap u9 hown9 hgrow9 hat9 hlt9
  obtain ⟨o9, far9⟩ := O7.out.pushW lo7 BE6.out OW6.out hown9 hgrow9 hat9
  have f9 := far9 bo (by omega) F5.out
  have fl9 := far9 bl (by omega) FL5.out
  have hk9 : ∀ b, b < u7.heap.size → (Value.slice h2.A N.w.length h2.c).ownBlock ≠ some b → u9.heap[b]? = u7.heap[b]? := fun b h1 h2 => (hgrow9.block b (Nat.lt_of_lt_of_le h1 HX6.out.size) (fun e => h2 e.symm)).trans (HX6.out.block b h1)
  have p9 := (hk9 bo (by omega) F5.out.a).trans P7.out
  have p9l := (hk9 bl hs7 FL5.out.a).trans P7L.out
  have b9 := (B7.out.trans (HX6.out.mono B7.out.size)).grown hgrow9 (Nat.le_trans B7.out.size HX6.out.size) (fun k hk => by have := (O7.out.q.outer.lt k hk).1; omega)
  have kb9 := cell_of_row _ _ 0 _ _ (0, 0) p9
  have kf9 := frozen_of_row _ _ 0 _ _ p9
  have K9 := Lib.hid (HSX.out u9 b9 p9l)
  have o10 := o9.farSet f9 0 (.slice (some ⟨g, 0, none⟩) (N.w.length + 1) cap)
  have p10 : (u9.setCell ⟨bo, 0, none⟩ (.slice (some ⟨g, 0, none⟩) (N.w.length + 1) cap)).heap[bo]? = some (.cells #[.slice (some ⟨g, 0, none⟩) (N.w.length + 1) cap, .slice h2.L N.l.length h2.d, .slice C5 LS.length c5] 30 (0, 0)) := by simpa using heap_setCell_same u9 bo 0 _ _ (.slice (some ⟨g, 0, none⟩) (N.w.length + 1) cap) p9
  have p10l : (u9.setCell ⟨bo, 0, none⟩ (.slice (some ⟨g, 0, none⟩) (N.w.length + 1) cap)).heap[bl]? = some (.cells #[.int .i64 3, .int .i64 (ia : Nat), .int .i64 (ib : Nat), .int .i64 N.w.length] 72 (0, 0)) := (Below.heap_setCell _ _ _ _ (by show bl ≠ bo; omega)).trans p9l
  have b10 := b9.setCell (p := ⟨bo, 0, none⟩) (by show w0.heap.size ≤ bo; omega) (.slice (some ⟨g, 0, none⟩) (N.w.length + 1) cap)
  have s10 : (u9.setCell ⟨bo, 0, none⟩ (.slice (some ⟨g, 0, none⟩) (N.w.length + 1) cap)).heap.size = u9.heap.size := by simp
  have K10 := Lib.hid (HSX.out _ b10 p10l)
  have HS10 : Hid (bl < (u9.setCell ⟨bo, 0, none⟩ (.slice (some ⟨g, 0, none⟩) (N.w.length + 1) cap)).heap.size) := Lib.hid (by rw [s10]; have := hgrow9.size; have := HX6.out.size; omega)
  rw [← s10, HWE.out] at o10
  rw [HWE.out] at f9 fl9
  have O10 := Lib.hid o10; have P10 := Lib.hid p10; have P10L := Lib.hid p10l; have B10 := Lib.hid b10; have F10 := Lib.hid f9; have FL10 := Lib.hid fl9
  clear hown9 hgrow9 hat9 o9 far9 f9 fl9 hk9 p9 p9l b9 o10 p10 p10l b10 s10
  refine hK.out _ _ K9.out (fun hHeld => ?_)
  clear hK K
  (try simp only [Act.put, List.setIfInBounds_toArray, List.set_cons_zero, List.set_cons_succ])
  refine wpAnyH_ready (rs := [18]) (by kernel_rfl) (by simp) ?_
  refine AllReadyH.cons rfl (fun K hK => ?_) ?_
  go_simp
  refine hK.out _ _ K9.out (fun hHeld => ?_)
  clear hK K
  (try simp only [Act.put, List.setIfInBounds_toArray, List.set_cons_zero, List.set_cons_succ])
  refine wpAnyH_ready (rs := [19]) (by kernel_rfl) (by simp) ?_
  refine AllReadyH.cons rfl (fun K hK => ?_) ?_
  go_simp
  refine hK.out _ _ K10.out (fun hHeld => ?_)
  clear hK K
  (try simp only [Act.put, List.setIfInBounds_toArray, List.set_cons_zero, List.set_cons_succ])
  refine wpAnyH_done (by kernel_rfl) ?_ _
  rotate_left
  exact AllReadyH.nil
  exact AllReadyH.nil
  exact AllReadyH.nil
  exact AllReadyH.nil
  exact AllReadyH.nil
  refine AllReadyH.cons rfl (fun K hK => ?_) ?_
  go_simp
  go_at_call 56
  refine (HJN.out u7.drew B7.out.drew).mono ?_
  rintro e u8 ⟨A6, c6, rfl, own6, bel6'⟩
  have bel6 := undrew bel6'
  have b8 := B7.out.trans (bel6.mono B7.out.size)
  have hx6 := bel6.trans ((box_below u8 (.slice A6 DP.length c6) 24).mono bel6.size)
  obtain ⟨o6, n6, bs6⟩ := push_in (A6 := A6) (c6 := c6) (dq := DP) O7.out.q rfl lo7 bel6
  have O6 := Lib.hid o6
  have N6 := Lib.hid n6
  have BS6 := Lib.hid bs6
  have kb1 := (bel6.cell (p := ⟨bo, 0, none⟩) (by show bo < _; omega)).trans kb0
  have kb2 := (hx6.cell (p := ⟨bo, 0, none⟩) (by show bo < _; omega)).trans kb0
  have K8 := Lib.hid (HSX.out u8 b8 ((bel6.block bl hs7).trans P7L.out))
  have K8a := Lib.hid (HSX.out (u8.alloc (.cells #[.slice A6 DP.length c6] 24)) (B7.out.trans (hx6.mono B7.out.size)) ((hx6.block bl hs7).trans P7L.out))
  have OW6 := Lib.hid own6
  have BE6 := Lib.hid bel6
  have HX6 := Lib.hid hx6
  clear own6 bel6 bel6' o6 n6 bs6 hx6 b8
  dsimp only
  refine hK.out _ _ K8.out (fun hHeld => ?_)
  clear hK K
  (try simp only [Act.put, List.setIfInBounds_toArray, List.set_cons_zero, List.set_cons_succ])
  refine wpAnyH_ready (rs := [1, 16]) (by kernel_rfl) (by simp) ?_
  refine AllReadyH.cons rfl (fun K hK => ?_) ?_
  go_simp
  refine hK.out _ _ K8.out (fun hHeld => ?_)
  clear hK K
  (try simp only [Act.put, List.setIfInBounds_toArray, List.set_cons_zero, List.set_cons_succ])
  refine wpAnyH_ready (rs := [16]) (by kernel_rfl) (by simp) ?_
  refine AllReadyH.cons rfl (fun K hK => ?_) ?_
  go_simp
  refine hK.out _ _ K8a.out (fun hHeld => ?_)
  clear hK K
  (try simp only [Act.put, List.setIfInBounds_toArray, List.set_cons_zero, List.set_cons_succ])
  refine wpAnyH_ready (rs := [17]) (by kernel_rfl) (by simp) ?_
  refine AllReadyH.cons rfl (fun K hK => ?_) ?_
  refine step_append_lies _ rfl _ _ _ rfl _ 24 i0 (.slice none 0 0) 1 24 Tryd.underlying22 HI.out HZ0.out HZ1.out HZ2.out rfl (by decide) _ _ _ rfl O6.out ⟨u8.heap.size, 0, none⟩ 1 1 [.slice A6 DP.length c6] rfl rfl N6.out (by simp [Value.oneCell']) (by decide) (by simp only [maxLen]; omega) (by (try dsimp only); omega) BS6.out _ rfl ?_
  intro g cap u9 hown9 hgrow9 hat9 hlt9
  obtain ⟨o9, far9⟩ := O7.out.pushW lo7 BE6.out OW6.out hown9 hgrow9 hat9
  have f9 := far9 bo (by omega) F5.out
  have fl9 := far9 bl (by omega) FL5.out
  have hk9 : ∀ b, b < u7.heap.size → (Value.slice h2.A N.w.length h2.c).ownBlock ≠ some b → u9.heap[b]? = u7.heap[b]? := fun b h1 h2 => (hgrow9.block b (Nat.lt_of_lt_of_le h1 HX6.out.size) (fun e => h2 e.symm)).trans (HX6.out.block b h1)
  have p9 := (hk9 bo (by omega) F5.out.a).trans P7.out
  have p9l := (hk9 bl hs7 FL5.out.a).trans P7L.out
  have b9 := (B7.out.trans (HX6.out.mono B7.out.size)).grown hgrow9 (Nat.le_trans B7.out.size HX6.out.size) (fun k hk => by have := (O7.out.q.outer.lt k hk).1; omega)
  have kb9 := cell_of_row _ _ 0 _ _ (0, 0) p9
  have kf9 := frozen_of_row _ _ 0 _ _ p9
  have K9 := Lib.hid (HSX.out u9 b9 p9l)
  have o10 := o9.farSet f9 0 (.slice (some ⟨g, 0, none⟩) (N.w.length + 1) cap)
  have p10 : (u9.setCell ⟨bo, 0, none⟩ (.slice (some ⟨g, 0, none⟩) (N.w.length + 1) cap)).heap[bo]? = some (.cells #[.slice (some ⟨g, 0, none⟩) (N.w.length + 1) cap, .slice h2.L N.l.length h2.d, .slice C5 LS.length c5] 30 (0, 0)) := by simpa using heap_setCell_same u9 bo 0 _ _ (.slice (some ⟨g, 0, none⟩) (N.w.length + 1) cap) p9
  have p10l : (u9.setCell ⟨bo, 0, none⟩ (.slice (some ⟨g, 0, none⟩) (N.w.length + 1) cap)).heap[bl]? = some (.cells #[.int .i64 3, .int .i64 (ia : Nat), .int .i64 (ib : Nat), .int .i64 N.w.length] 72 (0, 0)) := (Below.heap_setCell _ _ _ _ (by show bl ≠ bo; omega)).trans p9l
  have b10 := b9.setCell (p := ⟨bo, 0, none⟩) (by show w0.heap.size ≤ bo; omega) (.slice (some ⟨g, 0, none⟩) (N.w.length + 1) cap)
  have s10 : (u9.setCell ⟨bo, 0, none⟩ (.slice (some ⟨g, 0, none⟩) (N.w.length + 1) cap)).heap.size = u9.heap.size := by simp
  have K10 := Lib.hid (HSX.out _ b10 p10l)
  have HS10 : Hid (bl < (u9.setCell ⟨bo, 0, none⟩ (.slice (some ⟨g, 0, none⟩) (N.w.length + 1) cap)).heap.size) := Lib.hid (by rw [s10]; have := hgrow9.size; have := HX6.out.size; omega)
  rw [← s10, HWE.out] at o10
  rw [HWE.out] at f9 fl9
  have O10 := Lib.hid o10; have P10 := Lib.hid p10; have P10L := Lib.hid p10l; have B10 := Lib.hid b10; have F10 := Lib.hid f9; have FL10 := Lib.hid fl9
  clear hown9 hgrow9 hat9 o9 far9 f9 fl9 hk9 p9 p9l b9 o10 p10 p10l b10 s10
  refine hK.out _ _ K9.out (fun hHeld => ?_)
  clear hK K
  (try simp only [Act.put, List.setIfInBounds_toArray, List.set_cons_zero, List.set_cons_succ])
  refine wpAnyH_ready (rs := [18]) (by kernel_rfl) (by simp) ?_
  refine AllReadyH.cons rfl (fun K hK => ?_) ?_
  go_simp
  refine hK.out _ _ K9.out (fun hHeld => ?_)
  clear hK K
  (try simp only [Act.put, List.setIfInBounds_toArray, List.set_cons_zero, List.set_cons_succ])
  refine wpAnyH_ready (rs := [19]) (by kernel_rfl) (by simp) ?_
  refine AllReadyH.cons rfl (fun K hK => ?_) ?_
  go_simp
  refine hK.out _ _ K10.out (fun hHeld => ?_)
  clear hK K
  (try simp only [Act.put, List.setIfInBounds_toArray, List.set_cons_zero, List.set_cons_succ])
  refine wpAnyH_done (by kernel_rfl) ?_ _
  rotate_left
  exact AllReadyH.nil
  exact AllReadyH.nil
  exact AllReadyH.nil
  exact AllReadyH.nil
  refine AllReadyH.cons rfl (fun K hK => ?_) ?_
  go_simp
  refine hK.out _ _ K8a.out (fun hHeld => ?_)
  clear hK K
  (try simp only [Act.put, List.setIfInBounds_toArray, List.set_cons_zero, List.set_cons_succ])
  refine wpAnyH_ready (rs := [1]) (by kernel_rfl) (by simp) ?_
  refine AllReadyH.cons rfl (fun K hK => ?_) ?_
  go_simp
  refine hK.out _ _ K8a.out (fun hHeld => ?_)
  clear hK K
  (try simp only [Act.put, List.setIfInBounds_toArray, List.set_cons_zero, List.set_cons_succ])
  refine wpAnyH_ready (rs := [17]) (by kernel_rfl) (by simp) ?_
  refine AllReadyH.cons rfl (fun K hK => ?_) ?_
  refine step_append_lies _ rfl _ _ _ rfl _ 24 i0 (.slice none 0 0) 1 24 Tryd.underlying22 HI.out HZ0.out HZ1.out HZ2.out rfl (by decide) _ _ _ rfl O6.out ⟨u8.heap.size, 0, none⟩ 1 1 [.slice A6 DP.length c6] rfl rfl N6.out (by simp [Value.oneCell']) (by decide) (by simp only [maxLen]; omega) (by (try dsimp only); omega) BS6.out _ rfl ?_
  intro g cap u9 hown9 hgrow9 hat9 hlt9
  obtain ⟨o9, far9⟩ := O7.out.pushW lo7 BE6.out OW6.out hown9 hgrow9 hat9
  have f9 := far9 bo (by omega) F5.out
  have fl9 := far9 bl (by omega) FL5.out
  have hk9 : ∀ b, b < u7.heap.size → (Value.slice h2.A N.w.length h2.c).ownBlock ≠ some b → u9.heap[b]? = u7.heap[b]? := fun b h1 h2 => (hgrow9.block b (Nat.lt_of_lt_of_le h1 HX6.out.size) (fun e => h2 e.symm)).trans (HX6.out.block b h1)
  have p9 := (hk9 bo (by omega) F5.out.a).trans P7.out
  have p9l := (hk9 bl hs7 FL5.out.a).trans P7L.out
  have b9 := (B7.out.trans (HX6.out.mono B7.out.size)).grown hgrow9 (Nat.le_trans B7.out.size HX6.out.size) (fun k hk => by have := (O7.out.q.outer.lt k hk).1; omega)
  have kb9 := cell_of_row _ _ 0 _ _ (0, 0) p9
  have kf9 := frozen_of_row _ _ 0 _ _ p9
  have K9 := Lib.hid (HSX.out u9 b9 p9l)
  have o10 := o9.farSet f9 0 (.slice (some ⟨g, 0, none⟩) (N.w.length + 1) cap)
  have p10 : (u9.setCell ⟨bo, 0, none⟩ (.slice (some ⟨g, 0, none⟩) (N.w.length + 1) cap)).heap[bo]? = some (.cells #[.slice (some ⟨g, 0, none⟩) (N.w.length + 1) cap, .slice h2.L N.l.length h2.d, .slice C5 LS.length c5] 30 (0, 0)) := by simpa using heap_setCell_same u9 bo 0 _ _ (.slice (some ⟨g, 0, none⟩) (N.w.length + 1) cap) p9
  have p10l : (u9.setCell ⟨bo, 0, none⟩ (.slice (some ⟨g, 0, none⟩) (N.w.length + 1) cap)).heap[bl]? = some (.cells #[.int .i64 3, .int .i64 (ia : Nat), .int .i64 (ib : Nat), .int .i64 N.w.length] 72 (0, 0)) := (Below.heap_setCell _ _ _ _ (by show bl ≠ bo; omega)).trans p9l
  have b10 := b9.setCell (p := ⟨bo, 0, none⟩) (by show w0.heap.size ≤ bo; omega) (.slice (some ⟨g, 0, none⟩) (N.w.length + 1) cap)
  have s10 : (u9.setCell ⟨bo, 0, none⟩ (.slice (some ⟨g, 0, none⟩) (N.w.length + 1) cap)).heap.size = u9.heap.size := by simp
  have K10 := Lib.hid (HSX.out _ b10 p10l)
  have HS10 : Hid (bl < (u9.setCell ⟨bo, 0, none⟩ (.slice (some ⟨g, 0, none⟩) (N.w.length + 1) cap)).heap.size) := Lib.hid (by rw [s10]; have := hgrow9.size; have := HX6.out.size; omega)
  rw [← s10, HWE.out] at o10
  rw [HWE.out] at f9 fl9
  have O10 := Lib.hid o10; have P10 := Lib.hid p10; have P10L := Lib.hid p10l; have B10 := Lib.hid b10; have F10 := Lib.hid f9; have FL10 := Lib.hid fl9
  clear hown9 hgrow9 hat9 o9 far9 f9 fl9 hk9 p9 p9l b9 o10 p10 p10l b10 s10
  refine hK.out _ _ K9.out (fun hHeld => ?_)
  clear hK K
  (try simp only [Act.put, List.setIfInBounds_toArray, List.set_cons_zero, List.set_cons_succ])
  refine wpAnyH_ready (rs := [18]) (by kernel_rfl) (by simp) ?_
  refine AllReadyH.cons rfl (fun K hK => ?_) ?_
  go_simp
  refine hK.out _ _ K9.out (fun hHeld => ?_)
  clear hK K
  (try simp only [Act.put, List.setIfInBounds_toArray, List.set_cons_zero, List.set_cons_succ])
  refine wpAnyH_ready (rs := [19]) (by kernel_rfl) (by simp) ?_
  refine AllReadyH.cons rfl (fun K hK => ?_) ?_
  go_simp
  refine hK.out _ _ K10.out (fun hHeld => ?_)
  clear hK K
  (try simp only [Act.put, List.setIfInBounds_toArray, List.set_cons_zero, List.set_cons_succ])
  refine wpAnyH_done (by kernel_rfl) ?_ _
  rotate_left
  exact AllReadyH.nil
  exact AllReadyH.nil
  exact AllReadyH.nil
  exact AllReadyH.nil
  exact AllReadyH.nil
  exact AllReadyH.nil
  all_goals
    clear hHeld
    try clear kb0 kb1 kb2 kb9 kf9
    rw [← HWL.out]
    rw [← HWL.out] at O10 P10 P10L B10 HS10
    go_upto_region 13 with (fail)
    generalize u9.setCell ⟨bo, 0, none⟩ (.slice (some ⟨g, 0, none⟩) ws'.length cap) = u10 at *
    have hs10 := HS10.out
    have hxo := O10.out.c
    have HO10 := Lib.hid (hxo.alloc (.cells #[.int .i64 N.w.length] 2))
    have bxa : Below u10.heap.size u10 (u10.alloc (.cells #[.int .i64 N.w.length] 2)) := (Below.refl _ _).alloc (Nat.le_refl _) _
    have BXC := Lib.hid bxa
    have PZC := Lib.hid ((bxa.block bo (by omega)).trans P10.out)
    have PLC := Lib.hid ((bxa.block bl hs10).trans P10L.out)
    clear bxa hxo
    obtain ⟨k0, k1, k2⟩ := three_cells P10.out
    obtain ⟨l0, l1, l2, l3⟩ := four_cells P10L.out
    go_wp2_with (at_builtin; refine wpList_append_own_at _ rfl _ _ 24 rfl lo 2 i1 (.int .i64 0) 1 8 Tryd.underlying24 HI1.out HZ10.out HZ11.out HZ12.out rfl (by decide) _ _ _ rfl HO10.out ⟨u10.heap.size, 0, none⟩ 1 1 [.int .i64 N.w.length] rfl rfl (cell_one_new _ _ _) (by simp [Value.oneCell']) ?c3 ?c4 ?c5 ?_)
    case c3 => simp only [maxLen]; omega
    case c4 => omega
    case c5 => have := BXC.out.size; omega
    intro v11 u11 own11 gr11 _ at11
    have own11' : u11.ownsRow lo 2 1 v11 cs'.length (cs'.map (Value.int .i64)) := by
      rw [← HCE.out, List.map_append, List.length_append]; exact own11
    obtain ⟨C11, c11, rfl⟩ := own_shape own11'
    have hsz11 : (u10.alloc (.cells #[.int .i64 N.w.length] 2)).heap.size = u10.heap.size + 1 := World.size_alloc _ _
    have O11 := O10.out.pushC BXC.out own11' gr11 (by rw [hsz11]; exact at11)
    have f11 := F10.out.pushC at11 (show bo < u10.heap.size + 1 by omega)
    have p11 := (gr11.block bo (by rw [hsz11]; omega) (fun e => F10.out.c e.symm)).trans PZC.out
    have p11l := (gr11.block bl (by rw [hsz11]; omega) (fun e => FL10.out.c e.symm)).trans PLC.out
    have b11 := (B10.out.trans (BXC.out.mono B10.out.size)).grown gr11 (by have := B10.out.size; have := BXC.out.size; omega) (fun k hk => by have := (O10.out.c.lt k hk).1; omega)
    have o12 := O11.farSet f11 2 (.slice C11 cs'.length c11)
    have p12 : (u11.setCell ⟨bo, 2, none⟩ (.slice C11 cs'.length c11)).heap[bo]? = some (.cells #[.slice (some ⟨g, 0, none⟩) ws'.length cap, .slice h2.L N.l.length h2.d, .slice C11 cs'.length c11] 30 (0, 0)) := by simpa using heap_setCell_same u11 bo 2 _ _ (.slice C11 cs'.length c11) p11
    have p12l : (u11.setCell ⟨bo, 2, none⟩ (.slice C11 cs'.length c11)).heap[bl]? = some (.cells #[.int .i64 3, .int .i64 (ia : Nat), .int .i64 (ib : Nat), .int .i64 N.w.length] 72 (0, 0)) := (Below.heap_setCell _ _ _ _ (by show bl ≠ bo; omega)).trans p11l
    have b12 := b11.setCell (p := ⟨bo, 2, none⟩) (by show w0.heap.size ≤ bo; omega) (.slice C11 cs'.length c11)
    have s12 : (u11.setCell ⟨bo, 2, none⟩ (.slice C11 cs'.length c11)).heap.size = u11.heap.size := by simp
    have HS12 : Hid (bl < (u11.setCell ⟨bo, 2, none⟩ (.slice C11 cs'.length c11)).heap.size) := Lib.hid (by rw [s12]; have := gr11.size; omega)
    rw [← s12] at o12
    have O12 := Lib.hid o12; have P12 := Lib.hid p12; have P12L := Lib.hid p12l; have B12 := Lib.hid b12; have F12 := Lib.hid f11
    clear k0 k1 k2 l0 l1 l2 l3
    obtain ⟨k0, k1, k2⟩ := three_cells p11
    have k3 := frozen_of_row _ _ 2 _ _ p11
    clear own11 own11' gr11 at11 O11 f11 p11 p11l b11 o12 p12 p12l b12 s12 hsz11
    go_upto_region 14 with (fail)
    clear k0 k1 k2 k3
    generalize u11.setCell ⟨bo, 2, none⟩ (.slice C11 cs'.length c11) = u12 at *
    have hs12 := HS12.out
    obtain ⟨k0, k1, k2⟩ := three_cells P12.out
    obtain ⟨l0, l1, l2, l3⟩ := four_cells P12L.out
    have HO6 := Lib.hid (O12.out.l.alloc (.cells #[.int .i64 3, .int .i64 (ia : Nat), .int .i64 (ib : Nat), .int .i64 N.w.length] 72))
    have HNB := Lib.hid (World.news_of_block (heap_alloc_new u12 (.cells #[.int .i64 3, .int .i64 (ia : Nat), .int .i64 (ib : Nat), .int .i64 N.w.length] 72)))
    have bxa : Below u12.heap.size u12 (u12.alloc (.cells #[.int .i64 3, .int .i64 (ia : Nat), .int .i64 (ib : Nat), .int .i64 N.w.length] 72)) := (Below.refl _ _).alloc (Nat.le_refl _) _
    have BXA := Lib.hid bxa
    have pz := (bxa.block bo (by omega)).trans P12.out
    have PZ := Lib.hid pz
    clear bxa pz
    go_wp2_with (at_builtin; refine wpList_append_own_at _ rfl _ _ 28 rfl lo 72 i4 (.agg #[.int .i64 0, .int .i64 0, .int .i64 0, .int .i64 0]) 4 32 Tryd.underlying28 HI4.out HZ40.out HZ41.out HZ42.out rfl (by decide) _ _ _ rfl HO6.out ⟨u12.heap.size, 0, none⟩ 1 1 [.int .i64 3, .int .i64 (ia : Nat), .int .i64 (ib : Nat), .int .i64 N.w.length] rfl rfl HNB.out (by simp [Value.oneCell']) ?c3 ?c4 ?c5 ?_)
    case c3 => simp only [maxLen]; omega
    case c4 => omega
    case c5 => have := BXA.out.size; omega
    intro v7 u7 own7 gr7 _ at7
    have own7' : u7.ownsRow lo 72 4 v7 ls'.length ((flL ls').map (Value.int .i64)) := by
      rw [← HLE'.out, flL_app, List.map_append, List.length_append]; exact own7
    obtain ⟨L7, d7, rfl⟩ := own_shape4 own7'
    have hsz7 : (u12.alloc (.cells #[.int .i64 3, .int .i64 (ia : Nat), .int .i64 (ib : Nat), .int .i64 N.w.length] 72)).heap.size = u12.heap.size + 1 := World.size_alloc _ _
    have O7 := O12.out.pushL BXA.out own7' gr7 (by rw [hsz7]; exact at7)
    have hbo7 : bo < (u12.alloc (.cells #[.int .i64 3, .int .i64 (ia : Nat), .int .i64 (ib : Nat), .int .i64 N.w.length] 72)).heap.size := by have := BXA.out.size; omega
    have F7 := F12.out.pushL at7 (show bo < u12.heap.size + 1 by omega)
    have p7 := (gr7.block bo hbo7 (fun e => F12.out.l e.symm)).trans PZ.out
    have b7 := (B12.out.trans (BXA.out.mono B12.out.size)).grown gr7 (by have := B12.out.size; have := BXA.out.size; omega) (fun k hk => by have := (O12.out.l.lt k hk).1; omega)
    have o8 := O7.farSet F7 1 (.slice L7 ls'.length d7)
    have p8 : (u7.setCell ⟨bo, 1, none⟩ (.slice L7 ls'.length d7)).heap[bo]? = some (.cells #[.slice (some ⟨g, 0, none⟩) ws'.length cap, .slice L7 ls'.length d7, .slice C11 cs'.length c11] 30 (0, 0)) := by simpa using heap_setCell_same u7 bo 1 _ _ (.slice L7 ls'.length d7) p7
    have b8 := b7.setCell (p := ⟨bo, 1, none⟩) (by show w0.heap.size ≤ bo; omega) (.slice L7 ls'.length d7)
    have s8 : (u7.setCell ⟨bo, 1, none⟩ (.slice L7 ls'.length d7)).heap.size = u7.heap.size := by simp
    rw [← s8] at o8
    have O8 := Lib.hid o8; have P8 := Lib.hid p8; have B8 := Lib.hid b8
    have HB8 : Hid (bo < (u7.setCell ⟨bo, 1, none⟩ (.slice L7 ls'.length d7)).heap.size) := Lib.hid (by rw [s8]; have := gr7.size; omega)
    clear k0 k1 k2
    obtain ⟨k0, k1, k2⟩ := three_cells p7
    have k3 := frozen_of_row _ _ 1 _ _ p7
    clear own7 own7' gr7 at7 O7 F7 p7 b7 o8 p8 b8 s8
    go_upto_region 15 with (fail)
    clear k0 k1 k2 k3
    generalize u7.setCell ⟨bo, 1, none⟩ (.slice L7 ls'.length d7) = u8 at *
    obtain ⟨k0, k1, k2⟩ := three_cells P8.out
    have HV8 := Lib.hid (sValidNet_any ⟨(some ⟨g, 0, none⟩), cap, (upd h2.hs N.w.length (A6, c6)), L7, d7, C11, c11⟩ ⟨ws', ls', cs'⟩ u8 O8.out.rd HSW.out HSL.out HSC.out)
    rw [HX.out] at HV8
    cases b with
    | false =>
      go_wp2_with (fail)
      refine HV8.out.mono ?_
      rintro e u9 ⟨rfl, bel9⟩
      have B9 := Lib.hid (B8.out.trans (bel9.mono B8.out.size))
      clear bel9 k0 k1 k2
      have q1 := HKR.out _ B9.out
      obtain ⟨a0, a1, a2⟩ := three_cells q1
      have f0 := frozen_of_row _ _ 0 _ _ q1; have f1 := frozen_of_row _ _ 1 _ _ q1; have f2 := frozen_of_row _ _ 2 _ _ q1
      have Q1 := Lib.hid q1
      clear q1
      go_wp2
      (try simp only [Exit.inBlock, Exit.then])
      refine bodyPost_ret (results_cell_row_tmp rfl _ _ (w.heap.size + 1) _ _ (0, 0) _ rfl (set3_at Q1.out _ _ _) Tryd.underlying30 rfl (by kernel_rfl)) rfl ?_
      exact givesNB_of (own_done HB0.out B9.out (OwnN.nil u9 w0.heap.size u9.heap.size) hs0)
    | true =>
      go_wp2_with (fail)
      refine HV8.out.mono ?_
      rintro e u9 ⟨rfl, bel9⟩
      have B9 := Lib.hid (B8.out.trans (bel9.mono B8.out.size))
      have O9 := Lib.hid ((O8.out.below bel9).size.more (show w0.heap.size ≤ lo by omega) (Nat.le_refl _))
      clear k0 k1 k2
      obtain ⟨k0, k1, k2⟩ := three_cells ((bel9.block bo (by have := HB8.out; omega)).trans P8.out)
      have q1 := HKR.out _ B9.out
      obtain ⟨a0, a1, a2⟩ := three_cells q1
      have f0 := frozen_of_row _ _ 0 _ _ q1; have f1 := frozen_of_row _ _ 1 _ _ q1; have f2 := frozen_of_row _ _ 2 _ _ q1
      have Q1 := Lib.hid q1
      clear q1 bel9
      go_wp2
      (try simp only [Exit.inBlock, Exit.then])
      refine bodyPost_ret (results_cell_row_tmp rfl _ _ (w.heap.size + 1) _ _ (0, 0) _ rfl (set3_at Q1.out _ _ _) Tryd.underlying30 rfl (by kernel_rfl)) rfl ?_
      exact givesNB_of (own_done HB0.out B9.out O9.out hs0)
set_option linter.unusedSimpArgs false in
set_option maxRecDepth 100000 in
set_option maxHeartbeats 8000000 in
theorem sLinkNet_ok4 (h : NH) (N : Nt) (w : World) (r : RdN w w.heap.size h N) (hn : N.w.length ≤ 1048576) (hl : N.l.length ≤ 1048576) (hc : N.c.length ≤ 1048576) (ii jj ia ib : Nat) (LS : List Int) (hv : valN N = true) (hi : inW N.c.length (ii : Nat) = true) (hj : inW N.c.length (jj : Nat) = true) (he : (((ii : Nat) : Int) == ((jj : Nat) : Int)) = false) (hii : ii < N.c.length) (hjj : jj < N.c.length) (ea : N.c.getD ii 0 = (ia : Nat)) (eb : N.c.getD jj 0 = (ib : Nat)) (hia : ia < N.w.length) (hib : ib < N.w.length) (hLS : lessL N.c (ii : Nat) (jj : Nat) = LS) (b : Bool) (hX : valN ⟨N.w ++ [12 :: (N.w.getD ia [] ++ N.w.getD ib [])], N.l ++ [⟨4, ia, ib, N.w.length⟩], LS ++ [(N.w.length : Int)]⟩ = b) :
    Calls Tryd.prog 16 #[.agg #[.slice h.A N.w.length h.c, .slice h.L N.l.length h.d, .slice h.C N.c.length h.e], .int .i64 4, .int .i64 (ii : Nat), .int .i64 (jj : Nat)] w (GivesNB w (pickN b ⟨N.w ++ [12 :: (N.w.getD ia [] ++ N.w.getD ib [])], N.l ++ [⟨4, ia, ib, N.w.length⟩], LS ++ [(N.w.length : Int)]⟩) b) := by
  obtain ⟨w0, hw0⟩ : ∃ w0, w0 = (w.alloc (.cells #[.slice h.A N.w.length h.c, .slice h.L N.l.length h.d, .slice h.C N.c.length h.e] 30)).alloc (.cells #[.slice none 0 0, .slice none 0 0, .slice none 0 0] 30) := ⟨_, rfl⟩
  obtain ⟨hb, g0, g1, hsz⟩ := two_any' w (.cells #[.slice h.A N.w.length h.c, .slice h.L N.l.length h.d, .slice h.C N.c.length h.e] 30) (.cells #[.slice none 0 0, .slice none 0 0, .slice none 0 0] 30)
  rw [← hw0] at hb g0 g1 hsz
  have hs0 : w.heap.size + 2 ≤ w0.heap.size := by omega
  have HKF : Hid (∀ wx, Below w0.heap.size w0 wx → wx.cell? ⟨w.heap.size, 0, none⟩ = some (.slice h.A N.w.length h.c) ∧ wx.cell? ⟨w.heap.size, 1, none⟩ = some (.slice h.L N.l.length h.d) ∧ wx.cell? ⟨w.heap.size, 2, none⟩ = some (.slice h.C N.c.length h.e)) := Lib.hid fun wx hx => three_cells ((hx.block _ (by omega)).trans g0)
  have HKR : Hid (∀ wx, Below w0.heap.size w0 wx → wx.heap[w.heap.size + 1]? = some (.cells #[.slice none 0 0, .slice none 0 0, .slice none 0 0] 30 (0, 0))) := Lib.hid fun wx hx => (hx.block _ (by omega)).trans g1
  have HV := Lib.hid (sValidNet_any h N w0 ((r.below hb).more hb.size) hn hl hc)
  have HRD := Lib.hid (fun (w' : World) (hw : Below w0.heap.size w0 w') => show RdN w' w'.heap.size h N from (r.below (hb.trans (hw.mono hb.size))).more (Nat.le_trans hb.size hw.size))
  have HB0 := Lib.hid hb
  obtain ⟨y0, y1, y2⟩ := HKF.out _ (Below.refl _ w0)
  rw [hv] at HV
  have HK := Lib.hid (fun w' => kind_any 4 w')
  rw [show kindB 4 = true from rfl] at HK
  have HI := Lib.hid (fun w' => pos_any N.c.length ((ii : Nat) : Int) w')
  rw [hi] at HI
  have HJ := Lib.hid (fun w' => pos_any N.c.length ((jj : Nat) : Int) w')
  rw [hj] at HJ
  obtain ⟨hs1, hs2⟩ := valN_size hv
  have hcl := valN_conc_le hv
  have HVF : Hid (∀ q ∈ N.w, validB q = true) := Lib.hid fun q hq => formN_valid (List.all_eq_true.1 (valN_forms hv) q hq)
  have HOW := Lib.hid (fun (w' : World) (hw : Below w0.heap.size w0 w') => sOwn_any h N w' (HRD.out w' hw) (by omega) (fun q hq => by have := (valid_len (HVF.out q hq)).2.1; omega) (fun q hq => by have := (valid_len (HVF.out q hq)).1; omega) (by omega) (by omega))
  have HLE := Lib.hid (fun (w' : World) (hw : Below w0.heap.size w0 w') => sLess_any h.C N.c.length h.e N.c (ii : Nat) (jj : Nat) w' (HRD.out w' hw).2.2 hc)
  rw [hLS] at HLE
  obtain ⟨ls', hls'⟩ : ∃ l, N.l ++ [(⟨4, ia, ib, N.w.length⟩ : Lk)] = l := ⟨_, rfl⟩
  rw [hls'] at hX ⊢
  have HLE' := Lib.hid hls'
  have HSL : Hid (ls'.length ≤ 1048576) := Lib.hid (by rw [← hls', List.length_append]; simp; omega)
  have HX := Lib.hid hX
  obtain ⟨i4, hi4, hz40, hz41, hz42⟩ := info_parts_link
  have HI4 := Lib.hid hi4; have HZ40 := Lib.hid hz40; have HZ41 := Lib.hid hz41; have HZ42 := Lib.hid hz42
  clear hi4 hz40 hz41 hz42 hls'
  have hlsl : LS.length ≤ N.c.length := by rw [← hLS]; exact lessU_len _ _ _ _
  obtain ⟨bc, offc, hC, hbc, hcc⟩ := r.2.2.2 (by omega)
  have c1 := hcc ii hii
  have c2 := hcc jj hjj
  rw [ea] at c1
  rw [eb] at c2
  have HC1 := Lib.hid (fun (w' : World) (hw : Below w0.heap.size w0 w') => (((hb.trans (hw.mono hb.size)).cell (p := ⟨bc, offc + ii, none⟩) hbc).trans c1))
  have HC2 := Lib.hid (fun (w' : World) (hw : Below w0.heap.size w0 w') => (((hb.trans (hw.mono hb.size)).cell (p := ⟨bc, offc + jj, none⟩) hbc).trans c2))
  have HCC := Lib.hid hC
  obtain ⟨bw, offw, hA, hbw, hcw⟩ := r.1.2 (by omega)
  obtain ⟨Aa, ca, ka, _, ra⟩ := hcw ia hia
  obtain ⟨Ab, cb, kb, _, rb⟩ := hcw ib hib
  have hva := valid_len (HVF.out _ (getD_mem hia))
  have hvb := valid_len (HVF.out _ (getD_mem hib))
  have HJN := Lib.hid (fun (w' : World) (hw : Below w0.heap.size w0 w') => sjoined_any 12 Aa (N.w.getD ia []).length ca _ Ab (N.w.getD ib []).length cb _ w' ((ra.below (hb.trans (hw.mono hb.size))).more (Nat.le_trans hb.size hw.size)) ((rb.below (hb.trans (hw.mono hb.size))).more (Nat.le_trans hb.size hw.size)) (by omega) (by omega) (by omega) (by omega))
  have hbw' : bw < w0.heap.size := Nat.lt_of_lt_of_le hbw hb.size
  have wa := (hb.cell (p := ⟨bw, offw + ia, none⟩) hbw).trans ka
  have wb := (hb.cell (p := ⟨bw, offw + ib, none⟩) hbw).trans kb
  have HWA := Lib.hid wa; have HWB := Lib.hid wb; have HAA := Lib.hid hA
  have HLD : Hid ((12 :: (N.w.getD ia [] ++ N.w.getD ib [])).length ≤ 100) := Lib.hid (by rw [List.length_cons, List.length_append]; omega)
  clear hva hvb hA hcw ka kb ra rb wa wb
  generalize N.w.getD ia [] = P at *
  generalize N.w.getD ib [] = Q at *
  generalize 12 :: (P ++ Q) = DP at *
  obtain ⟨ws', hws'⟩ : ∃ l, N.w ++ [DP] = l := ⟨_, rfl⟩
  obtain ⟨cs', hcs'⟩ : ∃ l, LS ++ [(N.w.length : Int)] = l := ⟨_, rfl⟩
  have HWE := Lib.hid hws'; have HCE := Lib.hid hcs'
  have HWL : Hid (ws'.length = N.w.length + 1) := Lib.hid (by rw [← hws']; simp)
  have HSW : Hid (ws'.length ≤ 1048576) := Lib.hid (by rw [HWL.out]; omega)
  have HSC : Hid (cs'.length ≤ 1048576) := Lib.hid (by rw [← hcs', List.length_append]; simp; omega)
  rw [hws', hcs'] at HX
  rw [hws', hcs']
  obtain ⟨i1, hi1, hz10, hz11, hz12⟩ := info_parts info_i64
  have HI1 := Lib.hid hi1; have HZ10 := Lib.hid hz10; have HZ11 := Lib.hid hz11; have HZ12 := Lib.hid hz12
  clear hi1 hz10 hz11 hz12 hws' hcs'
  clear hb g0 g1 hsz r hv hi hj ea eb hLS hX hC hcc c1 c2
  go_enter Tryd.func16, Tryd.ntmps16
  go_wp2_with (fail)
  rw [← hw0]
  clear hw0
  refine HV.out.mono ?_
  rintro e u1 ⟨rfl, bel⟩
  have B1 := Lib.hid bel
  clear bel y0 y1 y2
  obtain ⟨y0, y1, y2⟩ := HKF.out _ B1.out
  go_wp2_with (fail)
  refine (HK.out u1).mono ?_
  rintro e w' ⟨rfl, rfl⟩
  go_wp2_with (fail)
  refine (HI.out u1).mono ?_
  rintro e w' ⟨rfl, rfl⟩
  go_wp2_with (fail)
  refine (HJ.out u1).mono ?_
  rintro e w' ⟨rfl, rfl⟩
  go_wp2_with (fail)
  refine (HOW.out u1 B1.out).mono ?_
  rintro e u2 ⟨h2, rfl, own2, bel2⟩
  -- the copy's own block
  obtain ⟨u3, hu3⟩ : ∃ u3, u3 = u2.alloc (.cells #[.slice h2.A N.w.length h2.c, .slice h2.L N.l.length h2.d, .slice h2.C N.c.length h2.e] 30) := ⟨_, rfl⟩
  have bx : Below u2.heap.size u2 u3 := by rw [hu3]; exact (Below.refl _ _).alloc (Nat.le_refl _) _
  have p3 : u3.heap[u2.heap.size]? = some (.cells #[.slice h2.A N.w.length h2.c, .slice h2.L N.l.length h2.d, .slice h2.C N.c.length h2.e] 30 (0, 0)) := by rw [hu3]; exact heap_alloc_new _ _
  have s3 : u2.heap.size < u3.heap.size := by rw [hu3]; simp
  have s1 := B1.out.size
  have s2 := bel2.size
  have B3 := Lib.hid (B1.out.trans ((bel2.trans (bx.mono s2)).mono s1))
  have O3 := Lib.hid (own2.below bx).size
  have F3 := Lib.hid (own2.far_ge (Nat.le_refl _))
  obtain ⟨bo, hbo⟩ : ∃ bo, u2.heap.size = bo := ⟨_, rfl⟩
  obtain ⟨lo, hlo⟩ : ∃ lo, u1.heap.size = lo := ⟨_, rfl⟩
  rw [hbo] at p3 s2 s3 F3
  rw [hlo] at s1 s2 O3
  have P3 := Lib.hid p3
  clear bx own2 bel2 y0 y1 y2 p3
  go_wp2_with (fail)
  (try rw [hbo])
  rw [← hu3]
  clear hu3 hbo hlo
  -- the link
  have HKX : Hid (∀ wx, Below w0.heap.size w0 wx → wx.cell? ⟨w.heap.size, 2, none⟩ = some (.slice (some ⟨bc, offc, none⟩) N.c.length h.e) ∧ wx.cell? ⟨bc, offc + ii, none⟩ = some (.int .i64 (ia : Nat)) ∧ wx.cell? ⟨bc, offc + jj, none⟩ = some (.int .i64 (ib : Nat))) := Lib.hid fun wx hx => by
    obtain ⟨_, _, k2⟩ := HKF.out _ hx
    rw [HCC.out] at k2
    exact ⟨k2, HC1.out _ hx, HC2.out _ hx⟩
  go_region_held3 (fun wx => wx.cell? ⟨w.heap.size, 2, none⟩ = some (.slice (some ⟨bc, offc, none⟩) N.c.length h.e) ∧ wx.cell? ⟨bc, offc + ii, none⟩ = some (.int .i64 (ia : Nat)) ∧ wx.cell? ⟨bc, offc + jj, none⟩ = some (.int .i64 (ib : Nat)))
    (first | exact HKX.out _ B3.out | exact HKX.out _ B3.out.drew | exact HKX.out _ (B3.out.drew.alloc B3.out.drew.size _))
    (first | fail)
  obtain ⟨u4, hu4⟩ : ∃ u4, u4 = (u3.alloc (.cells #[.int .i64 4, .int .i64 (ia : Nat), .int .i64 (ib : Nat), .int .i64 0] 72)).drew := ⟨_, rfl⟩
  rw [← hu4]
  rename_i hheld
  clear hheld
  have b34 : Below u3.heap.size u3 u4 := by rw [hu4]; exact ((Below.refl _ _).alloc (Nat.le_refl _) _).drew
  have p4 : u4.heap[u3.heap.size]? = some (.cells #[.int .i64 4, .int .i64 (ia : Nat), .int .i64 (ib : Nat), .int .i64 0] 72 (0, 0)) := by rw [hu4]; exact heap_alloc_new u3 _
  have s4 : u3.heap.size < u4.heap.size := by rw [hu4]; show _ < (u3.alloc _).heap.size; simp
  have B4 := Lib.hid (B3.out.trans (b34.mono B3.out.size))
  have po := (b34.block bo s3).trans P3.out
  have O4 := Lib.hid (O3.out.below b34).size
  have fl := O3.out.far_ge (Nat.le_refl _)
  clear hu4 b34 O3 B3 P3
  generalize u3.heap.size = bl at *
  have FL3 := Lib.hid fl
  have P4 := Lib.hid p4; have PO4 := Lib.hid po
  clear fl p4 po
  obtain ⟨y0, y1, y2⟩ := HKF.out _ B4.out
  go_wp2_with (fail)
  refine (HLE.out u4 B4.out).mono ?_
  rintro e u5 ⟨C5, c5, rfl, own5, bel5⟩
  have s5 := bel5.size
  have O5 := O4.out.setC bel5 (by omega) own5
  have F5 := Lib.hid (F3.out.setC own5 (by omega))
  have FL5 := Lib.hid (FL3.out.setC own5 (by omega))
  have p5 := (bel5.block bo (by omega)).trans PO4.out
  have P5l := (bel5.block bl (by omega)).trans P4.out
  have b5 := B4.out.trans (bel5.mono B4.out.size)
  have o6 := O5.farSet F5.out 2 (.slice C5 LS.length c5)
  have p6 : (u5.setCell ⟨bo, 2, none⟩ (.slice C5 LS.length c5)).heap[bo]? = some (.cells #[.slice h2.A N.w.length h2.c, .slice h2.L N.l.length h2.d, .slice C5 LS.length c5] 30 (0, 0)) := by simpa using heap_setCell_same u5 bo 2 _ _ (.slice C5 LS.length c5) p5
  have p6l : (u5.setCell ⟨bo, 2, none⟩ (.slice C5 LS.length c5)).heap[bl]? = some (.cells #[.int .i64 4, .int .i64 (ia : Nat), .int .i64 (ib : Nat), .int .i64 0] 72 (0, 0)) := (Below.heap_setCell _ _ _ _ (by show bl ≠ bo; omega)).trans P5l
  have b6 := b5.setCell (p := ⟨bo, 2, none⟩) (by show w0.heap.size ≤ bo; omega) (.slice C5 LS.length c5)
  have s6 : (u5.setCell ⟨bo, 2, none⟩ (.slice C5 LS.length c5)).heap.size = u5.heap.size := by simp
  rw [← s6] at o6 s5
  have O6 := Lib.hid o6; have P6 := Lib.hid p6; have P6L := Lib.hid p6l; have B6 := Lib.hid b6
  obtain ⟨k0, k1, k2⟩ := three_cells p5
  have k3 := frozen_of_row _ _ 2 _ _ p5
  clear own5 bel5 O5 P5l p5 b5 o6 p6 p6l b6 O4 P4 PO4 y0 y1 y2 s6
  go_upto_region 7 with (fail)
  clear k0 k1 k2 k3
  generalize u5.setCell ⟨bo, 2, none⟩ (.slice C5 LS.length c5) = u6 at *
  obtain ⟨y0, y1, y2⟩ := HKF.out _ B6.out
  obtain ⟨k0, k1, k2⟩ := three_cells P6.out
  obtain ⟨l0, l1, l2, l3⟩ := four_cells P6L.out
  have l3f := frozen_of_row _ _ 3 _ _ P6L.out
  have o7 := (O6.out.farSet FL5.out 3 (.int .i64 N.w.length))
  have p7l : (u6.setCell ⟨bl, 3, none⟩ (.int .i64 N.w.length)).heap[bl]? = some (.cells #[.int .i64 4, .int .i64 (ia : Nat), .int .i64 (ib : Nat), .int .i64 N.w.length] 72 (0, 0)) := by simpa using heap_setCell_same u6 bl 3 _ _ (.int .i64 N.w.length) P6L.out
  have p7 : (u6.setCell ⟨bl, 3, none⟩ (.int .i64 N.w.length)).heap[bo]? = _ := (Below.heap_setCell _ _ _ _ (by show bo ≠ bl; omega)).trans P6.out
  have b7 := B6.out.setCell (p := ⟨bl, 3, none⟩) (by show w0.heap.size ≤ bl; omega) (.int .i64 N.w.length)
  have s7 : (u6.setCell ⟨bl, 3, none⟩ (.int .i64 N.w.length)).heap.size = u6.heap.size := by simp
  rw [← s7] at o7 s5
  have O7 := Lib.hid o7; have P7L := Lib.hid p7l; have P7 := Lib.hid p7; have B7 := Lib.hid b7
  clear o7 p7l p7 b7 s7 O6 P6 P6L B6
  go_upto_region 12 with (fail)
  clear k0 k1 k2 l0 l1 l2 l3 l3f y0 y1 y2
  generalize u6.setCell ⟨bl, 3, none⟩ (.int .i64 N.w.length) = u7 at *
  have HSX : Hid (∀ wx, Below w0.heap.size w0 wx → wx.heap[bl]? = some (.cells #[.int .i64 4, .int .i64 (ia : Nat), .int .i64 (ib : Nat), .int .i64 N.w.length] 72 (0, 0)) → wx.cell? ⟨w.heap.size, 0, none⟩ = some (.slice (some ⟨bw, offw, none⟩) N.w.length h.c) ∧ wx.cell? ⟨bl, 1, none⟩ = some (.int .i64 (ia : Nat)) ∧ wx.cell? ⟨bl, 2, none⟩ = some (.int .i64 (ib : Nat)) ∧ wx.cell? ⟨bw, offw + ia, none⟩ = some (.slice Aa P.length ca) ∧ wx.cell? ⟨bw, offw + ib, none⟩ = some (.slice Ab Q.length cb)) := Lib.hid fun wx hx hl => by
    obtain ⟨k0, _, _⟩ := HKF.out _ hx
    obtain ⟨_, l1, l2, _⟩ := four_cells hl
    rw [HAA.out] at k0
    exact ⟨k0, l1, l2, (hx.cell (p := ⟨bw, offw + ia, none⟩) hbw').trans HWA.out, (hx.cell (p := ⟨bw, offw + ib, none⟩) hbw').trans HWB.out⟩
  have hs7 : bl < u7.heap.size := by omega
  have lo7 : lo ≤ u7.heap.size := by omega
  have K0 := Lib.hid (HSX.out u7 B7.out P7L.out)
  have kb0 := cell_of_row _ _ 0 _ _ (0, 0) P7.out
  have tok1 : True := trivial
  obtain ⟨i0, hi0, hz0, hz1, hz2⟩ := info_parts_s
  have HI := Lib.hid hi0; have HZ0 := Lib.hid hz0; have HZ1 := Lib.hid hz1; have HZ2 := Lib.hid hz2
  clear hi0 hz0 hz1 hz2
  refine wp_region_held_drew (S := fun wx => wx.cell? ⟨w.heap.size, 0, none⟩ = some (.slice (some ⟨bw, offw, none⟩) N.w.length h.c) ∧ wx.cell? ⟨bl, 1, none⟩ = some (.int .i64 (ia : Nat)) ∧ wx.cell? ⟨bl, 2, none⟩ = some (.int .i64 (ib : Nat)) ∧ wx.cell? ⟨bw, offw + ia, none⟩ = some (.slice Aa P.length ca) ∧ wx.cell? ⟨bw, offw + ib, none⟩ = some (.slice Ab Q.length cb)) (by kernel_rfl) K0.out (fun hHeld => ?_)
  refine wpAnyH_take (i := 0) (v := ?v0) rfl (by kernel_rfl) (by kernel_rfl) (by kernel_rfl) (fun _ _ _ h => h) (Or.inl ⟨by rfl, ?y0⟩) (by assumption) ?r0
  case y0 => (intro w hSw; (try dsimp only at hSw); go_simp; all_goals (with_reducible rfl))
  (try simp only [Act.put, List.setIfInBounds_toArray, List.set_cons_zero, List.set_cons_succ])
  refine wpAnyH_take (i := 2) (v := ?v2) rfl (by kernel_rfl) (by kernel_rfl) (by kernel_rfl) (fun _ _ _ h => h) (Or.inl ⟨by rfl, ?y2⟩) (by assumption) ?r2
  case y2 => (intro w hSw; (try dsimp only at hSw); go_simp; all_goals (with_reducible rfl))
  (try simp only [Act.put, List.setIfInBounds_toArray, List.set_cons_zero, List.set_cons_succ])
  refine wpAnyH_take (i := 3) (v := ?v3) rfl (by kernel_rfl) (by kernel_rfl) (by kernel_rfl) (fun _ _ _ h => h) (Or.inl ⟨by rfl, ?y3⟩) (by assumption) ?r3
  case y3 => (intro w hSw; (try dsimp only at hSw); go_simp; all_goals (with_reducible rfl))
  (try simp only [Act.put, List.setIfInBounds_toArray, List.set_cons_zero, List.set_cons_succ])
  refine wpAnyH_take (i := 4) (v := ?v4) rfl (by kernel_rfl) (by kernel_rfl) (by kernel_rfl) (fun _ _ _ h => h) (Or.inl ⟨by rfl, ?y4⟩) (by assumption) ?r4
  case y4 => (intro w hSw; (try dsimp only at hSw); go_simp; all_goals (with_reducible rfl))
  (try simp only [Act.put, List.setIfInBounds_toArray, List.set_cons_zero, List.set_cons_succ])
  refine wpAnyH_take (i := 5) (v := ?v5) rfl (by kernel_rfl) (by kernel_rfl) (by kernel_rfl) (fun _ _ _ h => h) (Or.inl ⟨by rfl, ?y5⟩) (by assumption) ?r5
  case y5 => (intro w hSw; (try dsimp only at hSw); go_simp; all_goals (with_reducible rfl))
  (try simp only [Act.put, List.setIfInBounds_toArray, List.set_cons_zero, List.set_cons_succ])
  refine wpAnyH_take (i := 6) (v := ?v6) rfl (by kernel_rfl) (by kernel_rfl) (by kernel_rfl) (fun _ _ _ h => h) (Or.inl ⟨by rfl, ?y6⟩) (by assumption) ?r6
  case y6 => (intro w hSw; (try dsimp only at hSw); go_simp; all_goals (with_reducible rfl))
  (try simp only [Act.put, List.setIfInBounds_toArray, List.set_cons_zero, List.set_cons_succ])
  refine wpAnyH_take (i := 7) (v := ?v7) rfl (by kernel_rfl) (by kernel_rfl) (by kernel_rfl) (fun _ _ _ h => h) (Or.inl ⟨by rfl, ?y7⟩) (by assumption) ?r7
  case y7 => (intro w hSw; (try dsimp only at hSw); go_simp; all_goals (with_reducible rfl))
  (try simp only [Act.put, List.setIfInBounds_toArray, List.set_cons_zero, List.set_cons_succ])
  refine wpAnyH_take (i := 8) (v := ?v8) rfl (by kernel_rfl) (by kernel_rfl) (by kernel_rfl) (fun _ _ _ h => h) (Or.inl ⟨by rfl, ?y8⟩) (by assumption) ?r8
  case y8 => (intro w hSw; (try dsimp only at hSw); go_simp; all_goals (with_reducible rfl))
  (try simp only [Act.put, List.setIfInBounds_toArray, List.set_cons_zero, List.set_cons_succ])
  refine wpAnyH_take (i := 9) (v := ?v9) rfl (by kernel_rfl) (by kernel_rfl) (by kernel_rfl) (fun _ _ _ h => h) (Or.inl ⟨by rfl, ?y9⟩) (by assumption) ?r9
  case y9 => (intro w hSw; (try dsimp only at hSw); go_simp; all_goals (with_reducible rfl))
  (try simp only [Act.put, List.setIfInBounds_toArray, List.set_cons_zero, List.set_cons_succ])
  refine wpAnyH_take (i := 10) (v := ?v10) rfl (by kernel_rfl) (by kernel_rfl) (by kernel_rfl) (fun _ _ _ h => h) (Or.inl ⟨by rfl, ?y10⟩) (by assumption) ?r10
  case y10 => (intro w hSw; (try dsimp only at hSw); go_simp; all_goals (with_reducible rfl))
  (try simp only [Act.put, List.setIfInBounds_toArray, List.set_cons_zero, List.set_cons_succ])
  refine wpAnyH_take (i := 11) (v := ?v11) rfl (by kernel_rfl) (by kernel_rfl) (by kernel_rfl) (fun _ _ _ h => h) (Or.inl ⟨by rfl, ?y11⟩) (by assumption) ?r11
  case y11 => (intro w hSw; (try dsimp only at hSw); go_simp; all_goals (with_reducible rfl))
  (try simp only [Act.put, List.setIfInBounds_toArray, List.set_cons_zero, List.set_cons_succ])
  refine wpAnyH_take (i := 12) (v := ?v12) rfl (by kernel_rfl) (by kernel_rfl) (by kernel_rfl) (fun _ _ _ h => h) (Or.inl ⟨by rfl, ?y12⟩) (by assumption) ?r12
  case y12 => (intro w hSw; (try dsimp only at hSw); go_simp; all_goals (with_reducible rfl))
  (try simp only [Act.put, List.setIfInBounds_toArray, List.set_cons_zero, List.set_cons_succ])
  refine wpAnyH_take (i := 13) (v := ?v13) rfl (by kernel_rfl) (by kernel_rfl) (by kernel_rfl) (fun _ _ _ h => h) (Or.inl ⟨by rfl, ?y13⟩) (by assumption) ?r13
  case y13 => (intro w hSw; (try dsimp only at hSw); go_simp; all_goals (with_reducible rfl))
  (try simp only [Act.put, List.setIfInBounds_toArray, List.set_cons_zero, List.set_cons_succ])
  refine wpAnyH_take (i := 14) (v := ?v14) rfl (by kernel_rfl) (by kernel_rfl) (by kernel_rfl) (fun _ _ _ h => h) (Or.inl ⟨by rfl, ?y14⟩) (by assumption) ?r14
  case y14 => (intro w hSw; (try dsimp only at hSw); go_simp; all_goals (with_reducible rfl))
  (try simp only [Act.put, List.setIfInBounds_toArray, List.set_cons_zero, List.set_cons_succ])
  refine wpAnyH_ready (rs := [1, 15]) (by kernel_rfl) (by simp) ?_
  refine AllReadyH.cons rfl (fun K hK => ?_) ?_
  go_simp
  refine hK.out _ _ K0.out (fun hHeld => ?_)
  clear hK K
  (try simp only [Act.put, List.setIfInBounds_toArray, List.set_cons_zero, List.set_cons_succ])
  refine wpAnyH_ready (rs := [15]) (by kernel_rfl) (by simp) ?_
  refine AllReadyH.cons rfl (fun K hK => ?_) ?_
  go_simp
  go_at_call 56
  refine (HJN.out u7.drew B7.out.drew).mono ?_
  rintro e u8 ⟨A6, c6, rfl, own6, bel6'⟩
  have bel6 := undrew bel6'
  have b8 := B7.out.trans (bel6.mono B7.out.size)
  have hx6 := bel6.trans ((box_below u8 (.slice A6 DP.length c6) 24).mono bel6.size)
  obtain ⟨o6, n6, bs6⟩ := push_in (A6 := A6) (c6 := c6) (dq := DP) O7.out.q rfl lo7 bel6
  have O6 := Lib.hid o6
  have N6 := Lib.hid n6
  have BS6 := Lib.hid bs6
  have kb1 := (bel6.cell (p := ⟨bo, 0, none⟩) (by show bo < _; omega)).trans kb0
  have kb2 := (hx6.cell (p := ⟨bo, 0, none⟩) (by show bo < _; omega)).trans kb0
  have K8 := Lib.hid (HSX.out u8 b8 ((bel6.block bl hs7).trans P7L.out))
  have K8a := Lib.hid (HSX.out (u8.alloc (.cells #[.slice A6 DP.length c6] 24)) (B7.out.trans (hx6.mono B7.out.size)) ((hx6.block bl hs7).trans P7L.out))
  have OW6 := Lib.hid own6
  have BE6 := Lib.hid bel6
  have HX6 := Lib.hid hx6
  clear own6 bel6 bel6' o6 n6 bs6 hx6 b8
  dsimp only
  refine hK.out _ _ K8.out (fun hHeld => ?_)
  clear hK K
  (try simp only [Act.put, List.setIfInBounds_toArray, List.set_cons_zero, List.set_cons_succ])
  refine wpAnyH_ready (rs := [16]) (by kernel_rfl) (by simp) ?_
  refine AllReadyH.cons rfl (fun K hK => ?_) ?_
  go_simp
  refine hK.out _ _ K8a.out (fun hHeld => ?_)
  clear hK K
  (try simp only [Act.put, List.setIfInBounds_toArray, List.set_cons_zero, List.set_cons_succ])
  refine wpAnyH_ready (rs := [17]) (by kernel_rfl) (by simp) ?_
  refine AllReadyH.cons rfl (fun K hK => ?_) ?_
  refine step_append_lies _ rfl _ _ _ rfl _ 24 i0 (.slice none 0 0) 1 24 Tryd.underlying22 HI.out HZ0.out HZ1.out HZ2.out rfl (by decide) _ _ _ rfl O6.out ⟨u8.heap.size, 0, none⟩ 1 1 [.slice A6 DP.length c6] rfl rfl N6.out (by simp [Value.oneCell']) (by decide) (by simp only [maxLen]; omega) (by (try dsimp only); omega) BS6.out _ rfl ?_
  intro g cap u9 hown9 hgrow9 hat9 hlt9
  obtain ⟨o9, far9⟩ := O7.out.pushW lo7 BE6.out OW6.out hown9 hgrow9 hat9
  have f9 := far9 bo (by omega) F5.out
  have fl9 := far9 bl (by omega) FL5.out
  have hk9 : ∀ b, b < u7.heap.size → (Value.slice h2.A N.w.length h2.c).ownBlock ≠ some b → u9.heap[b]? = u7.heap[b]? := fun b h1 h2 => (hgrow9.block b (Nat.lt_of_lt_of_le h1 HX6.out.size) (fun e => h2 e.symm)).trans (HX6.out.block b h1)
  have p9 := (hk9 bo (by omega) F5.out.a).trans P7.out
  have p9l := (hk9 bl hs7 FL5.out.a).trans P7L.out
  have b9 := (B7.out.trans (HX6.out.mono B7.out.size)).grown hgrow9 (Nat.le_trans B7.out.size HX6.out.size) (fun k hk => by have := (O7.out.q.outer.lt k hk).1; omega)
  have kb9 := cell_of_row _ _ 0 _ _ (0, 0) p9
  have kf9 := frozen_of_row _ _ 0 _ _ p9
  have K9 := Lib.hid (HSX.out u9 b9 p9l)
  have o10 := o9.farSet f9 0 (.slice (some ⟨g, 0, none⟩) (N.w.length + 1) cap)
  have p10 : (u9.setCell ⟨bo, 0, none⟩ (.slice (some ⟨g, 0, none⟩) (N.w.length + 1) cap)).heap[bo]? = some (.cells #[.slice (some ⟨g, 0, none⟩) (N.w.length + 1) cap, .slice h2.L N.l.length h2.d, .slice C5 LS.length c5] 30 (0, 0)) := by simpa using heap_setCell_same u9 bo 0 _ _ (.slice (some ⟨g, 0, none⟩) (N.w.length + 1) cap) p9
  have p10l : (u9.setCell ⟨bo, 0, none⟩ (.slice (some ⟨g, 0, none⟩) (N.w.length + 1) cap)).heap[bl]? = some (.cells #[.int .i64 4, .int .i64 (ia : Nat), .int .i64 (ib : Nat), .int .i64 N.w.length] 72 (0, 0)) := (Below.heap_setCell _ _ _ _ (by show bl ≠ bo; omega)).trans p9l
  have b10 := b9.setCell (p := ⟨bo, 0, none⟩) (by show w0.heap.size ≤ bo; omega) (.slice (some ⟨g, 0, none⟩) (N.w.length + 1) cap)
  have s10 : (u9.setCell ⟨bo, 0, none⟩ (.slice (some ⟨g, 0, none⟩) (N.w.length + 1) cap)).heap.size = u9.heap.size := by simp
  have K10 := Lib.hid (HSX.out _ b10 p10l)
  have HS10 : Hid (bl < (u9.setCell ⟨bo, 0, none⟩ (.slice (some ⟨g, 0, none⟩) (N.w.length + 1) cap)).heap.size) := Lib.hid (by rw [s10]; have := hgrow9.size; have := HX6.out.size; omega)
  rw [← s10, HWE.out] at o10
  rw [HWE.out] at f9 fl9
  have O10 := Lib.hid o10; have P10 := Lib.hid p10; have P10L := Lib.hid p10l; have B10 := Lib.hid b10; have F10 := Lib.hid f9; have FL10 := Lib.hid fl9
  clear hown9 hgrow9 hat9 o9 far9 f9 fl9 hk9 p9 p9l b9 o10 p10 p10l b10 s10
  refine hK.out _ _ K9.out (fun hHeld => ?_)
  clear hK K
  (try simp only [Act.put, List.setIfInBounds_toArray, List.set_cons_zero, List.set_cons_succ])
  refine wpAnyH_ready (rs := [18]) (by kernel_rfl) (by simp) ?_
  refine AllReadyH.cons rfl (fun K hK => ?_) ?_
  go_simp
  refine hK.out _ _ K9.out (fun hHeld => ?_)
  clear hK K
  (try simp only [Act.put, List.setIfInBounds_toArray, List.set_cons_zero, List.set_cons_succ])
  refine wpAnyH_ready (rs := [19]) (by kernel_rfl) (by simp) ?_
  refine AllReadyH.cons rfl (fun K hK => ?_) ?_
  go_simp
  refine hK.out _ _ K10.out (fun hHeld => ?_)
  clear hK K
  (try simp only [Act.put, List.setIfInBounds_toArray, List.set_cons_zero, List.set_cons_succ])
  refine wpAnyH_done (by kernel_rfl) ?_ _
  rotate_left
  exact AllReadyH.nil
  exact AllReadyH.nil
  exact AllReadyH.nil
  exact AllReadyH.nil
  exact AllReadyH.nil
  refine AllReadyH.cons rfl (fun K hK => ?_) ?_
  go_simp
  go_at_call 56
  refine (HJN.out u7.drew B7.out.drew).mono ?_
  rintro e u8 ⟨A6, c6, rfl, own6, bel6'⟩
  have bel6 := undrew bel6'
  have b8 := B7.out.trans (bel6.mono B7.out.size)
  have hx6 := bel6.trans ((box_below u8 (.slice A6 DP.length c6) 24).mono bel6.size)
  obtain ⟨o6, n6, bs6⟩ := push_in (A6 := A6) (c6 := c6) (dq := DP) O7.out.q rfl lo7 bel6
  have O6 := Lib.hid o6
  have N6 := Lib.hid n6
  have BS6 := Lib.hid bs6
  have kb1 := (bel6.cell (p := ⟨bo, 0, none⟩) (by show bo < _; omega)).trans kb0
  have kb2 := (hx6.cell (p := ⟨bo, 0, none⟩) (by show bo < _; omega)).trans kb0
  have K8 := Lib.hid (HSX.out u8 b8 ((bel6.block bl hs7).trans P7L.out))
  have K8a := Lib.hid (HSX.out (u8.alloc (.cells #[.slice A6 DP.length c6] 24)) (B7.out.trans (hx6.mono B7.out.size)) ((hx6.block bl hs7).trans P7L.out))
  have OW6 := Lib.hid own6
  have BE6 := Lib.hid bel6
  have HX6 := Lib.hid hx6
  clear own6 bel6 bel6' o6 n6 bs6 hx6 b8
  dsimp only
  refine hK.out _ _ K8.out (fun hHeld => ?_)
  clear hK K
  (try simp only [Act.put, List.setIfInBounds_toArray, List.set_cons_zero, List.set_cons_succ])
  refine wpAnyH_ready (rs := [1, 16]) (by kernel_rfl) (by simp) ?_
  refine AllReadyH.cons rfl (fun K hK => ?_) ?_
  go_simp
  refine hK.out _ _ K8.out (fun hHeld => ?_)
  clear hK K
  (try simp only [Act.put, List.setIfInBounds_toArray, List.set_cons_zero, List.set_cons_succ])
  refine wpAnyH_ready (rs := [16]) (by kernel_rfl) (by simp) ?_
  refine AllReadyH.cons rfl (fun K hK => ?_) ?_
  go_simp
  refine hK.out _ _ K8a.out (fun hHeld => ?_)
  clear hK K
  (try simp only [Act.put, List.setIfInBounds_toArray, List.set_cons_zero, List.set_cons_succ])
  refine wpAnyH_ready (rs := [17]) (by kernel_rfl) (by simp) ?_
  refine AllReadyH.cons rfl (fun K hK => ?_) ?_
  refine step_append_lies _ rfl _ _ _ rfl _ 24 i0 (.slice none 0 0) 1 24 Tryd.underlying22 HI.out HZ0.out HZ1.out HZ2.out rfl (by decide) _ _ _ rfl O6.out ⟨u8.heap.size, 0, none⟩ 1 1 [.slice A6 DP.length c6] rfl rfl N6.out (by simp [Value.oneCell']) (by decide) (by simp only [maxLen]; omega) (by (try dsimp only); omega) BS6.out _ rfl ?_
  intro g cap u9 hown9 hgrow9 hat9 hlt9
  obtain ⟨o9, far9⟩ := O7.out.pushW lo7 BE6.out OW6.out hown9 hgrow9 hat9
  have f9 := far9 bo (by omega) F5.out
  have fl9 := far9 bl (by omega) FL5.out
  have hk9 : ∀ b, b < u7.heap.size → (Value.slice h2.A N.w.length h2.c).ownBlock ≠ some b → u9.heap[b]? = u7.heap[b]? := fun b h1 h2 => (hgrow9.block b (Nat.lt_of_lt_of_le h1 HX6.out.size) (fun e => h2 e.symm)).trans (HX6.out.block b h1)
  have p9 := (hk9 bo (by omega) F5.out.a).trans P7.out
  have p9l := (hk9 bl hs7 FL5.out.a).trans P7L.out
  have b9 := (B7.out.trans (HX6.out.mono B7.out.size)).grown hgrow9 (Nat.le_trans B7.out.size HX6.out.size) (fun k hk => by have := (O7.out.q.outer.lt k hk).1; omega)
  have kb9 := cell_of_row _ _ 0 _ _ (0, 0) p9
  have kf9 := frozen_of_row _ _ 0 _ _ p9
  have K9 := Lib.hid (HSX.out u9 b9 p9l)
  have o10 := o9.farSet f9 0 (.slice (some ⟨g, 0, none⟩) (N.w.length + 1) cap)
  have p10 : (u9.setCell ⟨bo, 0, none⟩ (.slice (some ⟨g, 0, none⟩) (N.w.length + 1) cap)).heap[bo]? = some (.cells #[.slice (some ⟨g, 0, none⟩) (N.w.length + 1) cap, .slice h2.L N.l.length h2.d, .slice C5 LS.length c5] 30 (0, 0)) := by simpa using heap_setCell_same u9 bo 0 _ _ (.slice (some ⟨g, 0, none⟩) (N.w.length + 1) cap) p9
  have p10l : (u9.setCell ⟨bo, 0, none⟩ (.slice (some ⟨g, 0, none⟩) (N.w.length + 1) cap)).heap[bl]? = some (.cells #[.int .i64 4, .int .i64 (ia : Nat), .int .i64 (ib : Nat), .int .i64 N.w.length] 72 (0, 0)) := (Below.heap_setCell _ _ _ _ (by show bl ≠ bo; omega)).trans p9l
  have b10 := b9.setCell (p := ⟨bo, 0, none⟩) (by show w0.heap.size ≤ bo; omega) (.slice (some ⟨g, 0, none⟩) (N.w.length + 1) cap)
  have s10 : (u9.setCell ⟨bo, 0, none⟩ (.slice (some ⟨g, 0, none⟩) (N.w.length + 1) cap)).heap.size = u9.heap.size := by simp
  have K10 := Lib.hid (HSX.out _ b10 p10l)
  have HS10 : Hid (bl < (u9.setCell ⟨bo, 0, none⟩ (.slice (some ⟨g, 0, none⟩) (N.w.length + 1) cap)).heap.size) := Lib.hid (by rw [s10]; have := hgrow9.size; have := HX6.out.size; omega)
  rw [← s10, HWE.out] at o10
  rw [HWE.out] at f9 fl9
  have O10 := Lib.hid o10; have P10 := Lib.hid p10; have P10L := Lib.hid p10l; have B10 := Lib.hid b10; have F10 := Lib.hid f9; have FL10 := Lib.hid fl9
  clear hown9 hgrow9 hat9 o9 far9 f9 fl9 hk9 p9 p9l b9 o10 p10 p10l b10 s10
  refine hK.out _ _ K9.out (fun hHeld => ?_)
  clear hK K
  (try simp only [Act.put, List.setIfInBounds_toArray, List.set_cons_zero, List.set_cons_succ])
  refine wpAnyH_ready (rs := [18]) (by kernel_rfl) (by simp) ?_
  refine AllReadyH.cons rfl (fun K hK => ?_) ?_
  go_simp
  refine hK.out _ _ K9.out (fun hHeld => ?_)
  clear hK K
  (try simp only [Act.put, List.setIfInBounds_toArray, List.set_cons_zero, List.set_cons_succ])
  refine wpAnyH_ready (rs := [19]) (by kernel_rfl) (by simp) ?_
  refine AllReadyH.cons rfl (fun K hK => ?_) ?_
  go_simp
  refine hK.out _ _ K10.out (fun hHeld => ?_)
  clear hK K
  (try simp only [Act.put, List.setIfInBounds_toArray, List.set_cons_zero, List.set_cons_succ])
  refine wpAnyH_done (by kernel_rfl) ?_ _
  rotate_left
  exact AllReadyH.nil
  exact AllReadyH.nil
  exact AllReadyH.nil
  exact AllReadyH.nil
  refine AllReadyH.cons rfl (fun K hK => ?_) ?_
  go_simp
  refine hK.out _ _ K8a.out (fun hHeld => ?_)
  clear hK K
  (try simp only [Act.put, List.setIfInBounds_toArray, List.set_cons_zero, List.set_cons_succ])
  refine wpAnyH_ready (rs := [1]) (by kernel_rfl) (by simp) ?_
  refine AllReadyH.cons rfl (fun K hK => ?_) ?_
  go_simp
  refine hK.out _ _ K8a.out (fun hHeld => ?_)
  clear hK K
  (try simp only [Act.put, List.setIfInBounds_toArray, List.set_cons_zero, List.set_cons_succ])
  refine wpAnyH_ready (rs := [17]) (by kernel_rfl) (by simp) ?_
  refine AllReadyH.cons rfl (fun K hK => ?_) ?_
  refine step_append_lies _ rfl _ _ _ rfl _ 24 i0 (.slice none 0 0) 1 24 Tryd.underlying22 HI.out HZ0.out HZ1.out HZ2.out rfl (by decide) _ _ _ rfl O6.out ⟨u8.heap.size, 0, none⟩ 1 1 [.slice A6 DP.length c6] rfl rfl N6.out (by simp [Value.oneCell']) (by decide) (by simp only [maxLen]; omega) (by (try dsimp only); omega) BS6.out _ rfl ?_
  intro g cap u9 hown9 hgrow9 hat9 hlt9
  obtain ⟨o9, far9⟩ := O7.out.pushW lo7 BE6.out OW6.out hown9 hgrow9 hat9
  have f9 := far9 bo (by omega) F5.out
  have fl9 := far9 bl (by omega) FL5.out
  have hk9 : ∀ b, b < u7.heap.size → (Value.slice h2.A N.w.length h2.c).ownBlock ≠ some b → u9.heap[b]? = u7.heap[b]? := fun b h1 h2 => (hgrow9.block b (Nat.lt_of_lt_of_le h1 HX6.out.size) (fun e => h2 e.symm)).trans (HX6.out.block b h1)
  have p9 := (hk9 bo (by omega) F5.out.a).trans P7.out
  have p9l := (hk9 bl hs7 FL5.out.a).trans P7L.out
  have b9 := (B7.out.trans (HX6.out.mono B7.out.size)).grown hgrow9 (Nat.le_trans B7.out.size HX6.out.size) (fun k hk => by have := (O7.out.q.outer.lt k hk).1; omega)
  have kb9 := cell_of_row _ _ 0 _ _ (0, 0) p9
  have kf9 := frozen_of_row _ _ 0 _ _ p9
  have K9 := Lib.hid (HSX.out u9 b9 p9l)
  have o10 := o9.farSet f9 0 (.slice (some ⟨g, 0, none⟩) (N.w.length + 1) cap)
  have p10 : (u9.setCell ⟨bo, 0, none⟩ (.slice (some ⟨g, 0, none⟩) (N.w.length + 1) cap)).heap[bo]? = some (.cells #[.slice (some ⟨g, 0, none⟩) (N.w.length + 1) cap, .slice h2.L N.l.length h2.d, .slice C5 LS.length c5] 30 (0, 0)) := by simpa using heap_setCell_same u9 bo 0 _ _ (.slice (some ⟨g, 0, none⟩) (N.w.length + 1) cap) p9
  have p10l : (u9.setCell ⟨bo, 0, none⟩ (.slice (some ⟨g, 0, none⟩) (N.w.length + 1) cap)).heap[bl]? = some (.cells #[.int .i64 4, .int .i64 (ia : Nat), .int .i64 (ib : Nat), .int .i64 N.w.length] 72 (0, 0)) := (Below.heap_setCell _ _ _ _ (by show bl ≠ bo; omega)).trans p9l
  have b10 := b9.setCell (p := ⟨bo, 0, none⟩) (by show w0.heap.size ≤ bo; omega) (.slice (some ⟨g, 0, none⟩) (N.w.length + 1) cap)
  have s10 : (u9.setCell ⟨bo, 0, none⟩ (.slice (some ⟨g, 0, none⟩) (N.w.length + 1) cap)).heap.size = u9.heap.size := by simp
  have K10 := Lib.hid (HSX.out _ b10 p10l)
  have HS10 : Hid (bl < (u9.setCell ⟨bo, 0, none⟩ (.slice (some ⟨g, 0, none⟩) (N.w.length + 1) cap)).heap.size) := Lib.hid (by rw [s10]; have := hgrow9.size; have := HX6.out.size; omega)
  rw [← s10, HWE.out] at o10
  rw [HWE.out] at f9 fl9
  have O10 := Lib.hid o10; have P10 := Lib.hid p10; have P10L := Lib.hid p10l; have B10 := Lib.hid b10; have F10 := Lib.hid f9; have FL10 := Lib.hid fl9
  clear hown9 hgrow9 hat9 o9 far9 f9 fl9 hk9 p9 p9l b9 o10 p10 p10l b10 s10
  refine hK.out _ _ K9.out (fun hHeld => ?_)
  clear hK K
  (try simp only [Act.put, List.setIfInBounds_toArray, List.set_cons_zero, List.set_cons_succ])
  refine wpAnyH_ready (rs := [18]) (by kernel_rfl) (by simp) ?_
  refine AllReadyH.cons rfl (fun K hK => ?_) ?_
  go_simp
  refine hK.out _ _ K9.out (fun hHeld => ?_)
  clear hK K
  (try simp only [Act.put, List.setIfInBounds_toArray, List.set_cons_zero, List.set_cons_succ])
  refine wpAnyH_ready (rs := [19]) (by kernel_rfl) (by simp) ?_
  refine AllReadyH.cons rfl (fun K hK => ?_) ?_
  go_simp
  refine hK.out _ _ K10.out (fun hHeld => ?_)
  clear hK K
  (try simp only [Act.put, List.setIfInBounds_toArray, List.set_cons_zero, List.set_cons_succ])
  refine wpAnyH_done (by kernel_rfl) ?_ _
  rotate_left
  exact AllReadyH.nil
  exact AllReadyH.nil
  exact AllReadyH.nil
  exact AllReadyH.nil
  exact AllReadyH.nil
  exact AllReadyH.nil
  all_goals
    clear hHeld
    try clear kb0 kb1 kb2 kb9 kf9
    rw [← HWL.out]
    rw [← HWL.out] at O10 P10 P10L B10 HS10
    go_upto_region 13 with (fail)
    generalize u9.setCell ⟨bo, 0, none⟩ (.slice (some ⟨g, 0, none⟩) ws'.length cap) = u10 at *
    have hs10 := HS10.out
    have hxo := O10.out.c
    have HO10 := Lib.hid (hxo.alloc (.cells #[.int .i64 N.w.length] 2))
    have bxa : Below u10.heap.size u10 (u10.alloc (.cells #[.int .i64 N.w.length] 2)) := (Below.refl _ _).alloc (Nat.le_refl _) _
    have BXC := Lib.hid bxa
    have PZC := Lib.hid ((bxa.block bo (by omega)).trans P10.out)
    have PLC := Lib.hid ((bxa.block bl hs10).trans P10L.out)
    clear bxa hxo
    obtain ⟨k0, k1, k2⟩ := three_cells P10.out
    obtain ⟨l0, l1, l2, l3⟩ := four_cells P10L.out
    go_wp2_with (at_builtin; refine wpList_append_own_at _ rfl _ _ 24 rfl lo 2 i1 (.int .i64 0) 1 8 Tryd.underlying24 HI1.out HZ10.out HZ11.out HZ12.out rfl (by decide) _ _ _ rfl HO10.out ⟨u10.heap.size, 0, none⟩ 1 1 [.int .i64 N.w.length] rfl rfl (cell_one_new _ _ _) (by simp [Value.oneCell']) ?c3 ?c4 ?c5 ?_)
    case c3 => simp only [maxLen]; omega
    case c4 => omega
    case c5 => have := BXC.out.size; omega
    intro v11 u11 own11 gr11 _ at11
    have own11' : u11.ownsRow lo 2 1 v11 cs'.length (cs'.map (Value.int .i64)) := by
      rw [← HCE.out, List.map_append, List.length_append]; exact own11
    obtain ⟨C11, c11, rfl⟩ := own_shape own11'
    have hsz11 : (u10.alloc (.cells #[.int .i64 N.w.length] 2)).heap.size = u10.heap.size + 1 := World.size_alloc _ _
    have O11 := O10.out.pushC BXC.out own11' gr11 (by rw [hsz11]; exact at11)
    have f11 := F10.out.pushC at11 (show bo < u10.heap.size + 1 by omega)
    have p11 := (gr11.block bo (by rw [hsz11]; omega) (fun e => F10.out.c e.symm)).trans PZC.out
    have p11l := (gr11.block bl (by rw [hsz11]; omega) (fun e => FL10.out.c e.symm)).trans PLC.out
    have b11 := (B10.out.trans (BXC.out.mono B10.out.size)).grown gr11 (by have := B10.out.size; have := BXC.out.size; omega) (fun k hk => by have := (O10.out.c.lt k hk).1; omega)
    have o12 := O11.farSet f11 2 (.slice C11 cs'.length c11)
    have p12 : (u11.setCell ⟨bo, 2, none⟩ (.slice C11 cs'.length c11)).heap[bo]? = some (.cells #[.slice (some ⟨g, 0, none⟩) ws'.length cap, .slice h2.L N.l.length h2.d, .slice C11 cs'.length c11] 30 (0, 0)) := by simpa using heap_setCell_same u11 bo 2 _ _ (.slice C11 cs'.length c11) p11
    have p12l : (u11.setCell ⟨bo, 2, none⟩ (.slice C11 cs'.length c11)).heap[bl]? = some (.cells #[.int .i64 4, .int .i64 (ia : Nat), .int .i64 (ib : Nat), .int .i64 N.w.length] 72 (0, 0)) := (Below.heap_setCell _ _ _ _ (by show bl ≠ bo; omega)).trans p11l
    have b12 := b11.setCell (p := ⟨bo, 2, none⟩) (by show w0.heap.size ≤ bo; omega) (.slice C11 cs'.length c11)
    have s12 : (u11.setCell ⟨bo, 2, none⟩ (.slice C11 cs'.length c11)).heap.size = u11.heap.size := by simp
    have HS12 : Hid (bl < (u11.setCell ⟨bo, 2, none⟩ (.slice C11 cs'.length c11)).heap.size) := Lib.hid (by rw [s12]; have := gr11.size; omega)
    rw [← s12] at o12
    have O12 := Lib.hid o12; have P12 := Lib.hid p12; have P12L := Lib.hid p12l; have B12 := Lib.hid b12; have F12 := Lib.hid f11
    clear k0 k1 k2 l0 l1 l2 l3
    obtain ⟨k0, k1, k2⟩ := three_cells p11
    have k3 := frozen_of_row _ _ 2 _ _ p11
    clear own11 own11' gr11 at11 O11 f11 p11 p11l b11 o12 p12 p12l b12 s12 hsz11
    go_upto_region 14 with (fail)
    clear k0 k1 k2 k3
    generalize u11.setCell ⟨bo, 2, none⟩ (.slice C11 cs'.length c11) = u12 at *
    have hs12 := HS12.out
    obtain ⟨k0, k1, k2⟩ := three_cells P12.out
    obtain ⟨l0, l1, l2, l3⟩ := four_cells P12L.out
    have HO6 := Lib.hid (O12.out.l.alloc (.cells #[.int .i64 4, .int .i64 (ia : Nat), .int .i64 (ib : Nat), .int .i64 N.w.length] 72))
    have HNB := Lib.hid (World.news_of_block (heap_alloc_new u12 (.cells #[.int .i64 4, .int .i64 (ia : Nat), .int .i64 (ib : Nat), .int .i64 N.w.length] 72)))
    have bxa : Below u12.heap.size u12 (u12.alloc (.cells #[.int .i64 4, .int .i64 (ia : Nat), .int .i64 (ib : Nat), .int .i64 N.w.length] 72)) := (Below.refl _ _).alloc (Nat.le_refl _) _
    have BXA := Lib.hid bxa
    have pz := (bxa.block bo (by omega)).trans P12.out
    have PZ := Lib.hid pz
    clear bxa pz
    go_wp2_with (at_builtin; refine wpList_append_own_at _ rfl _ _ 28 rfl lo 72 i4 (.agg #[.int .i64 0, .int .i64 0, .int .i64 0, .int .i64 0]) 4 32 Tryd.underlying28 HI4.out HZ40.out HZ41.out HZ42.out rfl (by decide) _ _ _ rfl HO6.out ⟨u12.heap.size, 0, none⟩ 1 1 [.int .i64 4, .int .i64 (ia : Nat), .int .i64 (ib : Nat), .int .i64 N.w.length] rfl rfl HNB.out (by simp [Value.oneCell']) ?c3 ?c4 ?c5 ?_)
    case c3 => simp only [maxLen]; omega
    case c4 => omega
    case c5 => have := BXA.out.size; omega
    intro v7 u7 own7 gr7 _ at7
    have own7' : u7.ownsRow lo 72 4 v7 ls'.length ((flL ls').map (Value.int .i64)) := by
      rw [← HLE'.out, flL_app, List.map_append, List.length_append]; exact own7
    obtain ⟨L7, d7, rfl⟩ := own_shape4 own7'
    have hsz7 : (u12.alloc (.cells #[.int .i64 4, .int .i64 (ia : Nat), .int .i64 (ib : Nat), .int .i64 N.w.length] 72)).heap.size = u12.heap.size + 1 := World.size_alloc _ _
    have O7 := O12.out.pushL BXA.out own7' gr7 (by rw [hsz7]; exact at7)
    have hbo7 : bo < (u12.alloc (.cells #[.int .i64 4, .int .i64 (ia : Nat), .int .i64 (ib : Nat), .int .i64 N.w.length] 72)).heap.size := by have := BXA.out.size; omega
    have F7 := F12.out.pushL at7 (show bo < u12.heap.size + 1 by omega)
    have p7 := (gr7.block bo hbo7 (fun e => F12.out.l e.symm)).trans PZ.out
    have b7 := (B12.out.trans (BXA.out.mono B12.out.size)).grown gr7 (by have := B12.out.size; have := BXA.out.size; omega) (fun k hk => by have := (O12.out.l.lt k hk).1; omega)
    have o8 := O7.farSet F7 1 (.slice L7 ls'.length d7)
    have p8 : (u7.setCell ⟨bo, 1, none⟩ (.slice L7 ls'.length d7)).heap[bo]? = some (.cells #[.slice (some ⟨g, 0, none⟩) ws'.length cap, .slice L7 ls'.length d7, .slice C11 cs'.length c11] 30 (0, 0)) := by simpa using heap_setCell_same u7 bo 1 _ _ (.slice L7 ls'.length d7) p7
    have b8 := b7.setCell (p := ⟨bo, 1, none⟩) (by show w0.heap.size ≤ bo; omega) (.slice L7 ls'.length d7)
    have s8 : (u7.setCell ⟨bo, 1, none⟩ (.slice L7 ls'.length d7)).heap.size = u7.heap.size := by simp
    rw [← s8] at o8
    have O8 := Lib.hid o8; have P8 := Lib.hid p8; have B8 := Lib.hid b8
    have HB8 : Hid (bo < (u7.setCell ⟨bo, 1, none⟩ (.slice L7 ls'.length d7)).heap.size) := Lib.hid (by rw [s8]; have := gr7.size; omega)
    clear k0 k1 k2
    obtain ⟨k0, k1, k2⟩ := three_cells p7
    have k3 := frozen_of_row _ _ 1 _ _ p7
    clear own7 own7' gr7 at7 O7 F7 p7 b7 o8 p8 b8 s8
    go_upto_region 15 with (fail)
    clear k0 k1 k2 k3
    generalize u7.setCell ⟨bo, 1, none⟩ (.slice L7 ls'.length d7) = u8 at *
    obtain ⟨k0, k1, k2⟩ := three_cells P8.out
    have HV8 := Lib.hid (sValidNet_any ⟨(some ⟨g, 0, none⟩), cap, (upd h2.hs N.w.length (A6, c6)), L7, d7, C11, c11⟩ ⟨ws', ls', cs'⟩ u8 O8.out.rd HSW.out HSL.out HSC.out)
    rw [HX.out] at HV8
    cases b with
    | false =>
      go_wp2_with (fail)
      refine HV8.out.mono ?_
      rintro e u9 ⟨rfl, bel9⟩
      have B9 := Lib.hid (B8.out.trans (bel9.mono B8.out.size))
      clear bel9 k0 k1 k2
      have q1 := HKR.out _ B9.out
      obtain ⟨a0, a1, a2⟩ := three_cells q1
      have f0 := frozen_of_row _ _ 0 _ _ q1; have f1 := frozen_of_row _ _ 1 _ _ q1; have f2 := frozen_of_row _ _ 2 _ _ q1
      have Q1 := Lib.hid q1
      clear q1
      go_wp2
      (try simp only [Exit.inBlock, Exit.then])
      refine bodyPost_ret (results_cell_row_tmp rfl _ _ (w.heap.size + 1) _ _ (0, 0) _ rfl (set3_at Q1.out _ _ _) Tryd.underlying30 rfl (by kernel_rfl)) rfl ?_
      exact givesNB_of (own_done HB0.out B9.out (OwnN.nil u9 w0.heap.size u9.heap.size) hs0)
    | true =>
      go_wp2_with (fail)
      refine HV8.out.mono ?_
      rintro e u9 ⟨rfl, bel9⟩
      have B9 := Lib.hid (B8.out.trans (bel9.mono B8.out.size))
      have O9 := Lib.hid ((O8.out.below bel9).size.more (show w0.heap.size ≤ lo by omega) (Nat.le_refl _))
      clear k0 k1 k2
      obtain ⟨k0, k1, k2⟩ := three_cells ((bel9.block bo (by have := HB8.out; omega)).trans P8.out)
      have q1 := HKR.out _ B9.out
      obtain ⟨a0, a1, a2⟩ := three_cells q1
      have f0 := frozen_of_row _ _ 0 _ _ q1; have f1 := frozen_of_row _ _ 1 _ _ q1; have f2 := frozen_of_row _ _ 2 _ _ q1
      have Q1 := Lib.hid q1
      clear q1 bel9
      go_wp2
      (try simp only [Exit.inBlock, Exit.then])
      refine bodyPost_ret (results_cell_row_tmp rfl _ _ (w.heap.size + 1) _ _ (0, 0) _ rfl (set3_at Q1.out _ _ _) Tryd.underlying30 rfl (by kernel_rfl)) rfl ?_
      exact givesNB_of (own_done HB0.out B9.out O9.out hs0)
theorem pickN_eq {b : Bool} {X Y : Nt} (h : b = valN X) (hY : Y = if b = true then X else Nt.nil) : Y = pickN b X := by subst h; exact hY
/-- LinkNet of the model. -/
theorem sLinkNet_any (h : NH) (N : Nt) (k i j : Int) (w : World) (r : RdN w w.heap.size h N) (hn : N.w.length ≤ 1048576) (hl : N.l.length ≤ 1048576) (hc : N.c.length ≤ 1048576) :
    Calls Tryd.prog 16 #[.agg #[.slice h.A N.w.length h.c, .slice h.L N.l.length h.d, .slice h.C N.c.length h.e], .int .i64 k, .int .i64 i, .int .i64 j] w (GivesNB w (lnV N k i j) (lnB N k i j)) := by
  have no : lnB N k i j = false → Calls Tryd.prog 16 #[.agg #[.slice h.A N.w.length h.c, .slice h.L N.l.length h.d, .slice h.C N.c.length h.e], .int .i64 k, .int .i64 i, .int .i64 j] w (GivesNB w Nt.nil false) → Calls Tryd.prog 16 #[.agg #[.slice h.A N.w.length h.c, .slice h.L N.l.length h.d, .slice h.C N.c.length h.e], .int .i64 k, .int .i64 i, .int .i64 j] w (GivesNB w (lnV N k i j) (lnB N k i j)) := fun e c => by
    rw [lnV_no e, e]; exact c
  cases hv : valN N with
  | false => exact no (by unfold lnB; rw [hv]; rfl) (sLinkNet_nv h N w r hn hl hc k i j hv)
  | true =>
  cases hk : kindB k with
  | false => exact no (by unfold lnB; rw [hv, hk]; rfl) (sLinkNet_nk h N w r hn hl hc k i j hv hk)
  | true =>
  cases hi : inW N.c.length i with
  | false => exact no (by unfold lnB; rw [hv, hk, hi]; rfl) (sLinkNet_ni h N w r hn hl hc k i j hv hk hi)
  | true =>
  cases hj : inW N.c.length j with
  | false => exact no (by unfold lnB; rw [hv, hk, hi, hj]; rfl) (sLinkNet_nj h N w r hn hl hc k i j hv hk hi hj)
  | true =>
  cases he : (i == j) with
  | true => exact no (by unfold lnB; rw [hv, hk, hi, hj, he]; rfl) (sLinkNet_ne h N w r hn hl hc k i j hv hk hi hj he)
  | false =>
  obtain ⟨_, hii, ei⟩ := inW_yes hi
  obtain ⟨_, hjj, ej⟩ := inW_yes hj
  have wa := all_at (d := 0) (valN_concl hv) hii
  have wb := all_at (d := 0) (valN_concl hv) hjj
  obtain ⟨_, hia, ea⟩ := inW_yes wa
  obtain ⟨_, hib, eb⟩ := inW_yes wb
  have hB := lnB_is hv hk hi hj he
  have hV : lnV N k i j = pickN (lnB N k i j) (lkN N k i j) := rfl
  rw [hV, hB]
  generalize hii' : i.toNat = ii at *
  generalize hjj' : j.toNat = jj at *
  generalize (N.c.getD ii 0).toNat = ia at *
  generalize (N.c.getD jj 0).toNat = ib at *
  subst ei ej
  have h3 : k = 2 ∨ k = 3 ∨ k = 4 := by have := of_decide_eq_true hk; omega
  rcases h3 with rfl | rfl | rfl
  · have hX : lkN N 2 (ii : Nat) (jj : Nat) = ⟨N.w, N.l ++ [⟨2, ia, ib, 0⟩], lessL N.c (ii : Nat) (jj : Nat)⟩ := by
      unfold lkN; rw [if_pos rfl, Int.toNat_natCast, Int.toNat_natCast, ea, eb]
    rw [hX]
    exact sLinkNet_ok2 h N w r hn hl hc ii jj ia ib _ hv hi hj he hii hjj ea eb hia hib rfl _ rfl
  · have hX : lkN N 3 (ii : Nat) (jj : Nat) = ⟨N.w ++ [11 :: (N.w.getD ia [] ++ N.w.getD ib [])], N.l ++ [⟨3, ia, ib, N.w.length⟩], lessL N.c (ii : Nat) (jj : Nat) ++ [(N.w.length : Int)]⟩ := by
      unfold lkN; rw [if_neg (by decide), if_neg (by decide), Int.toNat_natCast, Int.toNat_natCast, ea, eb]; rfl
    rw [hX]
    exact sLinkNet_ok3 h N w r hn hl hc ii jj ia ib _ hv hi hj he hii hjj ea eb hia hib rfl _ rfl
  · have hX : lkN N 4 (ii : Nat) (jj : Nat) = ⟨N.w ++ [12 :: (N.w.getD ia [] ++ N.w.getD ib [])], N.l ++ [⟨4, ia, ib, N.w.length⟩], lessL N.c (ii : Nat) (jj : Nat) ++ [(N.w.length : Int)]⟩ := by
      unfold lkN; rw [if_neg (by decide), if_pos rfl, Int.toNat_natCast, Int.toNat_natCast, ea, eb]; rfl
    rw [hX]
    exact sLinkNet_ok4 h N w r hn hl hc ii jj ia ib _ hv hi hj he hii hjj ea eb hia hib rfl _ rfl
end Go.Proofs.YtdcommmefehlgaaDoor
