/- The program's UnionNet. Made by mkunp.py. -/
import Derived.Test.YtdcommmefehlgaaDoorQPgK
import Derived.Test.YtdcommmefehlgaaDoorQPgG
import Derived.Test.YtdcommmefehlgaaDoorNetT
import Derived.Test.YtdcommmefehlgaaDoorUnM
import Derived.Deep.DeepCutAuto
import Derived.Test.YtdcommmefehlgaaDoorTk
namespace Go.Proofs.YtdcommmefehlgaaDoor
set_option linter.unusedSimpArgs false
set_option linter.unusedVariables false
open Go.ChangeAt Go.ChangeShapes Go.RowKit Go.WideShapes
open List (setIfInBounds_toArray set_cons_zero set_cons_succ getElem_toArray getElem_cons_succ getElem_cons_zero)

theorem box_trio (w : World) (o p q : Obj) : Below w.heap.size w (((w.alloc o).alloc p).alloc q) ∧ (((w.alloc o).alloc p).alloc q).heap[w.heap.size]? = some o ∧ (((w.alloc o).alloc p).alloc q).heap[w.heap.size + 1]? = some p ∧ (((w.alloc o).alloc p).alloc q).heap[w.heap.size + 2]? = some q ∧ (((w.alloc o).alloc p).alloc q).heap.size = w.heap.size + 3 := by
  obtain ⟨h1, h2, h3, h4⟩ := two_any' w o p
  generalize (w.alloc o).alloc p = v at *
  have hb : Below v.heap.size v (v.alloc q) := (Below.refl _ _).alloc (Nat.le_refl _) _
  have hn : (v.alloc q).heap[w.heap.size + 2]? = some q := by rw [show w.heap.size + 2 = v.heap.size by omega]; exact heap_alloc_new _ _
  exact ⟨h1.trans (hb.mono h1.size), (hb.block _ (by omega)).trans h2, (hb.block _ (by omega)).trans h3, hn, by simp; omega⟩
/-- What UnionNet holds where ways meet: a net in the box of 'union'. -/
def UnSt (w3 : World) (bx : Nat) (M : Nt) (wx : World) : Prop := ∃ h' : NH, OwnN wx w3.heap.size wx.heap.size h' M ∧ FarN h' M bx ∧ wx.heap[bx]? = some (.cells #[.slice h'.A M.w.length h'.c, .slice h'.L M.l.length h'.d, .slice h'.C M.c.length h'.e] 30 (0, 0)) ∧ Below w3.heap.size w3 wx
theorem markL_at_in (s n m : Nat) (h : s + n ≤ m) : (markL s n).all (inW m) = true := by
  rw [List.all_eq_true]
  intro z hz
  unfold markL at hz
  obtain ⟨t, ht, rfl⟩ := List.mem_map.1 hz
  have := List.mem_range.1 ht
  unfold inW
  exact decide_eq_true (by omega)
theorem un_len1 (A B : Nt) : (⟨A.w ++ List.replicate B.w.length [], A.l ++ List.replicate B.l.length Lk.nil, A.c⟩ : Nt).w.length = A.w.length + B.w.length ∧ (⟨A.w ++ List.replicate B.w.length [], A.l ++ List.replicate B.l.length Lk.nil, A.c⟩ : Nt).l.length = A.l.length + B.l.length := by simp
theorem un_done {w w0 u : World} {N : Nt} {h : NH} (hb : Below w.heap.size w w0) (b4 : Below w0.heap.size w0 u) (o : OwnN u w0.heap.size u.heap.size h N) (hs : w.heap.size + 3 ≤ w0.heap.size) :
    CopiedN w N (.returned (.agg #[.slice h.A N.w.length h.c, .slice h.L N.l.length h.d, .slice h.C N.c.length h.e])) (((u.setCell ⟨w.heap.size + 2, 0, none⟩ (.slice h.A N.w.length h.c)).setCell ⟨w.heap.size + 2, 1, none⟩ (.slice h.L N.l.length h.d)).setCell ⟨w.heap.size + 2, 2, none⟩ (.slice h.C N.c.length h.e)) :=
  ⟨h, rfl, (own_setN (own_setN (own_setN o (by omega) _) (by omega) _) (by omega) _).more (by omega) (by simp), set3_below (hb.trans (b4.mono hb.size)) (show w.heap.size ≤ w.heap.size + 2 by omega) _ _ _⟩
set_option maxRecDepth 100000 in
set_option maxHeartbeats 8000000 in
theorem un_na (hA hB : NH) (A B : Nt) (w : World) (rA : RdN w w.heap.size hA A) (rB : RdN w w.heap.size hB B) (smA : SmallN A) (smB : SmallN B) (ht : Arit w) (hu : Dual w) (hvA : valN A = false) :
    Calls Tryd.prog 12 #[.agg #[.slice hA.A A.w.length hA.c, .slice hA.L A.l.length hA.d, .slice hA.C A.c.length hA.e], .agg #[.slice hB.A B.w.length hB.c, .slice hB.L B.l.length hB.d, .slice hB.C B.c.length hB.e]] w (GivesNB w Nt.nil false) := by
  obtain ⟨w3, hw3⟩ : ∃ w3, w3 = ((w.alloc (.cells #[.slice hA.A A.w.length hA.c, .slice hA.L A.l.length hA.d, .slice hA.C A.c.length hA.e] 30)).alloc (.cells #[.slice hB.A B.w.length hB.c, .slice hB.L B.l.length hB.d, .slice hB.C B.c.length hB.e] 30)).alloc (.cells #[.slice none 0 0, .slice none 0 0, .slice none 0 0] 30) := ⟨_, rfl⟩
  obtain ⟨hb, g0, g1, g2, hsz⟩ := box_trio w (.cells #[.slice hA.A A.w.length hA.c, .slice hA.L A.l.length hA.d, .slice hA.C A.c.length hA.e] 30) (.cells #[.slice hB.A B.w.length hB.c, .slice hB.L B.l.length hB.d, .slice hB.C B.c.length hB.e] 30) (.cells #[.slice none 0 0, .slice none 0 0, .slice none 0 0] 30)
  rw [← hw3] at hb g0 g1 g2 hsz
  have hs0 : w.heap.size + 3 ≤ w3.heap.size := by omega
  have HKA := Lib.hid (fun (wx : World) (hx : Below w3.heap.size w3 wx) => three_cells ((hx.block w.heap.size (by omega)).trans g0))
  have HKB := Lib.hid (fun (wx : World) (hx : Below w3.heap.size w3 wx) => three_cells ((hx.block (w.heap.size + 1) (by omega)).trans g1))
  have HK2 := Lib.hid (fun (wx : World) (hx : Below w3.heap.size w3 wx) => (hx.block (w.heap.size + 2) (by omega)).trans g2)
  have HB0 := Lib.hid hb
  have HTD := Lib.hid (fun (w' : World) (hw : Below w3.heap.size w3 w') => And.intro ((ht.below hb ht.lt).below hw (ht.below hb ht.lt).lt) ((hu.below hb hu.lt).below hw (hu.below hb hu.lt).lt))
  have HVA := Lib.hid (validNet_impl hA A w3 ((rA.below hb).more hb.size) smA (HTD.out w3 (Below.refl _ _)).1 (HTD.out w3 (Below.refl _ _)).2)
  have HVB := Lib.hid (fun (wx : World) (hx : Below w3.heap.size w3 wx) => validNet_impl hB B wx (((rB.below hb).more hb.size |>.below hx).more hx.size) smB (HTD.out wx hx).1 (HTD.out wx hx).2)
  obtain ⟨y0, y1, y2⟩ := HKA.out _ (Below.refl _ w3)
  obtain ⟨z0, z1, z2⟩ := HKB.out _ (Below.refl _ w3)
  rw [hvA] at HVA
  clear hb g0 g1 g2 hsz rA rB smA smB ht hu hvA
  go_enter Tryd.func12, Tryd.ntmps12
  go_wp2_with (fail)
  rw [← hw3]
  clear hw3
  refine HVA.out.mono ?_
  rintro e u1 ⟨rfl, bel⟩
  have B1 := Lib.hid bel
  clear bel y0 y1 y2 z0 z1 z2
  obtain ⟨y0, y1, y2⟩ := HKA.out _ B1.out
  obtain ⟨z0, z1, z2⟩ := HKB.out _ B1.out
  clear y0 y1 y2 z0 z1 z2
  have HO := Lib.hid (OwnN.nil u1 w3.heap.size u1.heap.size)
  have q1 := HK2.out _ B1.out
  obtain ⟨a0, a1, a2⟩ := three_cells q1
  have f0 := frozen_of_row _ _ 0 _ _ q1; have f1 := frozen_of_row _ _ 1 _ _ q1; have f2 := frozen_of_row _ _ 2 _ _ q1
  have Q1 := Lib.hid q1
  clear q1
  go_wp2
  (try simp only [Exit.inBlock, Exit.then])
  refine bodyPost_ret (results_cell_row_tmp rfl _ _ (w.heap.size + 2) _ _ (0, 0) _ rfl (set3_at Q1.out _ _ _) Tryd.underlying30 rfl (by kernel_rfl)) rfl ?_
  exact givesNB_of (un_done HB0.out B1.out HO.out hs0)
set_option maxRecDepth 100000 in
set_option maxHeartbeats 8000000 in
theorem un_nb (hA hB : NH) (A B : Nt) (w : World) (rA : RdN w w.heap.size hA A) (rB : RdN w w.heap.size hB B) (smA : SmallN A) (smB : SmallN B) (ht : Arit w) (hu : Dual w) (hvA : valN A = true) (hvB : valN B = false) :
    Calls Tryd.prog 12 #[.agg #[.slice hA.A A.w.length hA.c, .slice hA.L A.l.length hA.d, .slice hA.C A.c.length hA.e], .agg #[.slice hB.A B.w.length hB.c, .slice hB.L B.l.length hB.d, .slice hB.C B.c.length hB.e]] w (GivesNB w Nt.nil false) := by
  obtain ⟨w3, hw3⟩ : ∃ w3, w3 = ((w.alloc (.cells #[.slice hA.A A.w.length hA.c, .slice hA.L A.l.length hA.d, .slice hA.C A.c.length hA.e] 30)).alloc (.cells #[.slice hB.A B.w.length hB.c, .slice hB.L B.l.length hB.d, .slice hB.C B.c.length hB.e] 30)).alloc (.cells #[.slice none 0 0, .slice none 0 0, .slice none 0 0] 30) := ⟨_, rfl⟩
  obtain ⟨hb, g0, g1, g2, hsz⟩ := box_trio w (.cells #[.slice hA.A A.w.length hA.c, .slice hA.L A.l.length hA.d, .slice hA.C A.c.length hA.e] 30) (.cells #[.slice hB.A B.w.length hB.c, .slice hB.L B.l.length hB.d, .slice hB.C B.c.length hB.e] 30) (.cells #[.slice none 0 0, .slice none 0 0, .slice none 0 0] 30)
  rw [← hw3] at hb g0 g1 g2 hsz
  have hs0 : w.heap.size + 3 ≤ w3.heap.size := by omega
  have HKA := Lib.hid (fun (wx : World) (hx : Below w3.heap.size w3 wx) => three_cells ((hx.block w.heap.size (by omega)).trans g0))
  have HKB := Lib.hid (fun (wx : World) (hx : Below w3.heap.size w3 wx) => three_cells ((hx.block (w.heap.size + 1) (by omega)).trans g1))
  have HK2 := Lib.hid (fun (wx : World) (hx : Below w3.heap.size w3 wx) => (hx.block (w.heap.size + 2) (by omega)).trans g2)
  have HB0 := Lib.hid hb
  have HTD := Lib.hid (fun (w' : World) (hw : Below w3.heap.size w3 w') => And.intro ((ht.below hb ht.lt).below hw (ht.below hb ht.lt).lt) ((hu.below hb hu.lt).below hw (hu.below hb hu.lt).lt))
  have HVA := Lib.hid (validNet_impl hA A w3 ((rA.below hb).more hb.size) smA (HTD.out w3 (Below.refl _ _)).1 (HTD.out w3 (Below.refl _ _)).2)
  have HVB := Lib.hid (fun (wx : World) (hx : Below w3.heap.size w3 wx) => validNet_impl hB B wx (((rB.below hb).more hb.size |>.below hx).more hx.size) smB (HTD.out wx hx).1 (HTD.out wx hx).2)
  obtain ⟨y0, y1, y2⟩ := HKA.out _ (Below.refl _ w3)
  obtain ⟨z0, z1, z2⟩ := HKB.out _ (Below.refl _ w3)
  rw [hvA] at HVA
  simp only [hvB] at HVB
  clear hb g0 g1 g2 hsz rA rB smA smB ht hu hvA hvB
  go_enter Tryd.func12, Tryd.ntmps12
  go_wp2_with (fail)
  rw [← hw3]
  clear hw3
  refine HVA.out.mono ?_
  rintro e u1 ⟨rfl, bel⟩
  have B1 := Lib.hid bel
  clear bel y0 y1 y2 z0 z1 z2
  obtain ⟨y0, y1, y2⟩ := HKA.out _ B1.out
  obtain ⟨z0, z1, z2⟩ := HKB.out _ B1.out
  go_wp2_with (fail)
  refine (HVB.out u1 B1.out).mono ?_
  rintro e u2 ⟨rfl, bel⟩
  have B2 := Lib.hid (B1.out.trans (bel.mono B1.out.size))
  clear bel y0 y1 y2 z0 z1 z2
  have HO := Lib.hid (OwnN.nil u2 w3.heap.size u2.heap.size)
  have q1 := HK2.out _ B2.out
  obtain ⟨a0, a1, a2⟩ := three_cells q1
  have f0 := frozen_of_row _ _ 0 _ _ q1; have f1 := frozen_of_row _ _ 1 _ _ q1; have f2 := frozen_of_row _ _ 2 _ _ q1
  have Q1 := Lib.hid q1
  clear q1
  go_wp2
  (try simp only [Exit.inBlock, Exit.then])
  refine bodyPost_ret (results_cell_row_tmp rfl _ _ (w.heap.size + 2) _ _ (0, 0) _ rfl (set3_at Q1.out _ _ _) Tryd.underlying30 rfl (by kernel_rfl)) rfl ?_
  exact givesNB_of (un_done HB0.out B2.out HO.out hs0)
set_option maxRecDepth 100000 in
set_option maxHeartbeats 8000000 in
theorem un_ok (hA hB : NH) (A B : Nt) (w : World) (rA : RdN w w.heap.size hA A) (rB : RdN w w.heap.size hB B) (smA : SmallN A) (smB : SmallN B) (ht : Arit w) (hu : Dual w) (hvA : valN A = true) (hvB : valN B = true) (b : Bool) (hX : valN (unS A B) = b) :
    Calls Tryd.prog 12 #[.agg #[.slice hA.A A.w.length hA.c, .slice hA.L A.l.length hA.d, .slice hA.C A.c.length hA.e], .agg #[.slice hB.A B.w.length hB.c, .slice hB.L B.l.length hB.d, .slice hB.C B.c.length hB.e]] w (GivesNB w (pickN b (unS A B)) b) := by
  obtain ⟨w3, hw3⟩ : ∃ w3, w3 = ((w.alloc (.cells #[.slice hA.A A.w.length hA.c, .slice hA.L A.l.length hA.d, .slice hA.C A.c.length hA.e] 30)).alloc (.cells #[.slice hB.A B.w.length hB.c, .slice hB.L B.l.length hB.d, .slice hB.C B.c.length hB.e] 30)).alloc (.cells #[.slice none 0 0, .slice none 0 0, .slice none 0 0] 30) := ⟨_, rfl⟩
  obtain ⟨hb, g0, g1, g2, hsz⟩ := box_trio w (.cells #[.slice hA.A A.w.length hA.c, .slice hA.L A.l.length hA.d, .slice hA.C A.c.length hA.e] 30) (.cells #[.slice hB.A B.w.length hB.c, .slice hB.L B.l.length hB.d, .slice hB.C B.c.length hB.e] 30) (.cells #[.slice none 0 0, .slice none 0 0, .slice none 0 0] 30)
  rw [← hw3] at hb g0 g1 g2 hsz
  have hs0 : w.heap.size + 3 ≤ w3.heap.size := by omega
  have HKA := Lib.hid (fun (wx : World) (hx : Below w3.heap.size w3 wx) => three_cells ((hx.block w.heap.size (by omega)).trans g0))
  have HKB := Lib.hid (fun (wx : World) (hx : Below w3.heap.size w3 wx) => three_cells ((hx.block (w.heap.size + 1) (by omega)).trans g1))
  have HK2 := Lib.hid (fun (wx : World) (hx : Below w3.heap.size w3 wx) => (hx.block (w.heap.size + 2) (by omega)).trans g2)
  have HB0 := Lib.hid hb
  have HTD := Lib.hid (fun (w' : World) (hw : Below w3.heap.size w3 w') => And.intro ((ht.below hb ht.lt).below hw (ht.below hb ht.lt).lt) ((hu.below hb hu.lt).below hw (hu.below hb hu.lt).lt))
  have HVA := Lib.hid (validNet_impl hA A w3 ((rA.below hb).more hb.size) smA (HTD.out w3 (Below.refl _ _)).1 (HTD.out w3 (Below.refl _ _)).2)
  have HVB := Lib.hid (fun (wx : World) (hx : Below w3.heap.size w3 wx) => validNet_impl hB B wx (((rB.below hb).more hb.size |>.below hx).more hx.size) smB (HTD.out wx hx).1 (HTD.out wx hx).2)
  obtain ⟨y0, y1, y2⟩ := HKA.out _ (Below.refl _ w3)
  obtain ⟨z0, z1, z2⟩ := HKB.out _ (Below.refl _ w3)
  rw [hvA] at HVA
  simp only [hvB] at HVB
  obtain ⟨sA1, sA2⟩ := valN_size hvA
  obtain ⟨sB1, sB2⟩ := valN_size hvB
  have sA3 := valN_conc_le hvA
  have HRA := Lib.hid (show RdN w3 w3.heap.size hA A from (rA.below hb).more hb.size)
  have HRB := Lib.hid (show RdN w3 w3.heap.size hB B from (rB.below hb).more hb.size)
  have HVA' := Lib.hid hvA; have HVB' := Lib.hid hvB
  have hNR : ∀ wx : World, Calls Tryd.prog 43 #[.int .i64 ((A.w.length : Int) + (B.w.length : Int)), .int .i64 ((A.l.length : Int) + (B.l.length : Int))] wx (CopiedN wx (roomN (A.w.length + B.w.length) (A.l.length + B.l.length))) := fun wx => by
    have := netWithRoom_any (A.w.length + B.w.length) (A.l.length + B.l.length) wx (by omega) (by omega)
    rwa [Int.natCast_add, Int.natCast_add] at this
  have HNR := Lib.hid hNR
  have hlr : (roomN (A.w.length + B.w.length) (A.l.length + B.l.length)).w.length = A.w.length + B.w.length ∧ (roomN (A.w.length + B.w.length) (A.l.length + B.l.length)).l.length = A.l.length + B.l.length ∧ (roomN (A.w.length + B.w.length) (A.l.length + B.l.length)).c.length = 0 := by simp [roomN]
  have HPCA := Lib.hid (plc_first hvA B.w.length B.l.length)
  have HPCB := Lib.hid ((plc_second A B).trans (unN_is hvB))
  have hl1 := un_len1 A B
  obtain ⟨T0, hT0⟩ : ∃ T, roomN (A.w.length + B.w.length) (A.l.length + B.l.length) = T := ⟨_, rfl⟩
  obtain ⟨T1, hT1⟩ : ∃ T, (⟨A.w ++ List.replicate B.w.length [], A.l ++ List.replicate B.l.length Lk.nil, A.c⟩ : Nt) = T := ⟨_, rfl⟩
  have hc1 : T1.c.length = A.c.length := by rw [← hT1]
  rw [hT0] at HNR hlr HPCA
  rw [hT1] at HPCA HPCB hl1
  obtain ⟨lw0, ll0, lc0⟩ := hlr
  obtain ⟨lw1, ll1⟩ := hl1
  have HL0 := Lib.hid (And.intro lw0 (And.intro ll0 lc0)); have HL1 := Lib.hid (And.intro lw1 (And.intro ll1 hc1))
  have HSMX : Hid (SmallN (unS A B)) := Lib.hid (unS_small hvA hvB)
  have HX := Lib.hid hX
  generalize unS A B = X at *
  clear lw0 ll0 lc0 lw1 ll1 hc1 hT0 hT1 hX hNR
  clear hb g0 g1 g2 hsz rA rB smA smB ht hu hvA hvB
  go_enter Tryd.func12, Tryd.ntmps12
  go_wp2_with (fail)
  rw [← hw3]
  clear hw3
  refine HVA.out.mono ?_
  rintro e u1 ⟨rfl, bel⟩
  have B1 := Lib.hid bel
  clear bel y0 y1 y2 z0 z1 z2
  obtain ⟨y0, y1, y2⟩ := HKA.out _ B1.out
  obtain ⟨z0, z1, z2⟩ := HKB.out _ B1.out
  go_wp2_with (fail)
  refine (HVB.out u1 B1.out).mono ?_
  rintro e u2 ⟨rfl, bel⟩
  have B2 := Lib.hid (B1.out.trans (bel.mono B1.out.size))
  clear bel y0 y1 y2 z0 z1 z2
  obtain ⟨y0, y1, y2⟩ := HKA.out _ B2.out
  obtain ⟨z0, z1, z2⟩ := HKB.out _ B2.out
  go_wp2_with (fail)
  refine (HNR.out u2).mono ?_
  rintro e u3 ⟨hR, rfl, oR, bR⟩
  obtain ⟨u4, hu4⟩ : ∃ u4, u4 = u3.alloc (.cells #[.slice hR.A T0.w.length hR.c, .slice hR.L T0.l.length hR.d, .slice hR.C T0.c.length hR.e] 30) := ⟨_, rfl⟩
  have bx4 := al hu4
  have gx := an hu4
  have hs2 := B2.out.size; have hs3 := bR.size
  have B4 := Lib.hid (B2.out.trans ((bR.trans (bx4.mono bR.size)).mono B2.out.size))
  have hfar := oR.far_ge (Nat.le_refl _)
  have oR4 := ((oR.below bx4).size).more hs2 (Nat.le_refl _)
  obtain ⟨bx, hbx⟩ : ∃ b, u3.heap.size = b := ⟨_, rfl⟩
  rw [hbx] at gx hfar hs3
  have HBX3 : Hid (w3.heap.size ≤ bx) := Lib.hid (by omega)
  have HU4 := Lib.hid hu4; have HBXX := Lib.hid hbx
  have XZ := Lib.hid gx; have FZ := Lib.hid hfar; have OZ := Lib.hid oR4; have BZ := B4
  clear oR bR bx4 gx hfar oR4 hu4 hbx y0 y1 y2 z0 z1 z2
  go_upto_region 4 with (fail)
  rw [← HU4.out, HBXX.out]
  go_cut [] (fun wx => UnSt w3 bx T1 wx)
  case first =>
    have HPCA0 := HPCA
    have FB_0 := Lib.hid (Below.refl u4.heap.size u4)
    have FO_0 := Lib.hid OZ.out
    have FX_0 := Lib.hid XZ.out
    have HFAR := FZ
    have HSB : Hid (bx < u4.heap.size) := Lib.hid (Array.getElem?_eq_some_iff.1 XZ.out).1
    have HSW : Hid (∀ wx : World, Below w3.heap.size w3 wx → wx.cell? ⟨w.heap.size, 0, none⟩ = some (.slice hA.A A.w.length hA.c) ∧ wx.cell? ⟨w.heap.size, 1, none⟩ = some (.slice hA.L A.l.length hA.d) ∧ wx.cell? ⟨w.heap.size, 2, none⟩ = some (.slice hA.C A.c.length hA.e) ∧ wx.cell? ⟨w.heap.size + 1, 0, none⟩ = some (.slice hB.A B.w.length hB.c) ∧ wx.cell? ⟨w.heap.size + 1, 1, none⟩ = some (.slice hB.L B.l.length hB.d) ∧ wx.cell? ⟨w.heap.size + 1, 2, none⟩ = some (.slice hB.C B.c.length hB.e)) := Lib.hid fun wx hx => by
      obtain ⟨y0, y1, y2⟩ := HKA.out wx hx
      obtain ⟨z0, z1, z2⟩ := HKB.out wx hx
      exact ⟨y0, y1, y2, z0, z1, z2⟩
    have HSX : Hid (∀ wx : World, Below u4.heap.size u4 wx → wx.cell? ⟨w.heap.size, 0, none⟩ = some (.slice hA.A A.w.length hA.c) ∧ wx.cell? ⟨w.heap.size, 1, none⟩ = some (.slice hA.L A.l.length hA.d) ∧ wx.cell? ⟨w.heap.size, 2, none⟩ = some (.slice hA.C A.c.length hA.e) ∧ wx.cell? ⟨w.heap.size + 1, 0, none⟩ = some (.slice hB.A B.w.length hB.c) ∧ wx.cell? ⟨w.heap.size + 1, 1, none⟩ = some (.slice hB.L B.l.length hB.d) ∧ wx.cell? ⟨w.heap.size + 1, 2, none⟩ = some (.slice hB.C B.c.length hB.e)) := Lib.hid fun wx hx => HSW.out wx (BZ.out.trans (hx.mono BZ.out.size))
    have HNW := Lib.hid (fun wx : World => numbersFrom_any 0 A.w.length wx (by omega) (by omega))
    have HNL := Lib.hid (fun wx : World => numbersFrom_any 0 A.l.length wx (by omega) (by omega))
    have HPL := Lib.hid (fun (wx : World) (AW : Option Addr) (cW : Nat) (AL : Option Addr) (cL : Nat) (o : OwnN wx w3.heap.size wx.heap.size hR T0) (hx : Below u4.heap.size u4 wx) (rW : RdI wx wx.heap.size AW (markL 0 A.w.length).length (markL 0 A.w.length)) (fW : 0 < (markL 0 A.w.length).length → ∀ b off, AW = some ⟨b, off, none⟩ → FarN hR T0 b) (rL : RdI wx wx.heap.size AL (markL 0 A.l.length).length (markL 0 A.l.length)) (fL : 0 < (markL 0 A.l.length).length → ∀ b off, AL = some ⟨b, off, none⟩ → FarN hR T0 b) => by
      have h3 := placed_any w3 wx hR T0 hA A AW AL cW cL (markL 0 A.w.length) (markL 0 A.l.length) o (BZ.out.trans (hx.mono BZ.out.size)) HRA.out rW fW rL fL HVA'.out (markL_len _ _) (by rw [HL0.out.1]; exact markL_at_in 0 _ _ (by omega)) (markL_len _ _) (by rw [HL0.out.2.1]; exact markL_at_in 0 _ _ (by omega)) (by rw [HL0.out.1]; omega) (by rw [HL0.out.2.1]; omega) (by rw [HL0.out.2.2]; omega)
      rw [HPCA.out] at h3
      exact h3)
    refine wp_region_held_drew (S := fun wx => wx.cell? ⟨w.heap.size, 0, none⟩ = some (.slice hA.A A.w.length hA.c) ∧ wx.cell? ⟨w.heap.size, 1, none⟩ = some (.slice hA.L A.l.length hA.d) ∧ wx.cell? ⟨w.heap.size, 2, none⟩ = some (.slice hA.C A.c.length hA.e) ∧ wx.cell? ⟨w.heap.size + 1, 0, none⟩ = some (.slice hB.A B.w.length hB.c) ∧ wx.cell? ⟨w.heap.size + 1, 1, none⟩ = some (.slice hB.L B.l.length hB.d) ∧ wx.cell? ⟨w.heap.size + 1, 2, none⟩ = some (.slice hB.C B.c.length hB.e)) (by kernel_rfl) (HSX.out _ (Below.refl _ _).drew) (fun hHeld => ?_)
    obtain ⟨wq1, hwq1⟩ : ∃ w', w' = u4.drew := ⟨_, rfl⟩
    rw [← hwq1] at hHeld ⊢
    have bq1 : Below u4.heap.size u4 wq1 := by rw [hwq1]; exact (Below.refl _ _).drew
    clear hwq1
    have FB_q2 := Lib.hid ((FB_0.out).trans ((bq1).mono (FB_0.out).size))
    have FO_q3 := Lib.hid (((FO_0.out).below (bq1)).size)
    have FX_q4 := Lib.hid (((bq1).block _ (Array.getElem?_eq_some_iff.1 (FX_0.out)).1).trans (FX_0.out))
    clear FB_0 FO_0 FX_0
    refine tk (i := 1) (h := ?_)
    (try simp only [Act.put, setIfInBounds_toArray, set_cons_zero, set_cons_succ, getElem_toArray, getElem_cons_succ, getElem_cons_zero])
    refine tk (i := 2) (h := ?_)
    (try simp only [Act.put, setIfInBounds_toArray, set_cons_zero, set_cons_succ, getElem_toArray, getElem_cons_succ, getElem_cons_zero])
    refine tk (i := 6) (h := ?_)
    (try simp only [Act.put, setIfInBounds_toArray, set_cons_zero, set_cons_succ, getElem_toArray, getElem_cons_succ, getElem_cons_zero])
    refine tk (i := 3) (h := ?_)
    (try simp only [Act.put, setIfInBounds_toArray, set_cons_zero, set_cons_succ, getElem_toArray, getElem_cons_succ, getElem_cons_zero])
    refine tk (i := 7) (h := ?_)
    (try simp only [Act.put, setIfInBounds_toArray, set_cons_zero, set_cons_succ, getElem_toArray, getElem_cons_succ, getElem_cons_zero])
    refine tk (i := 4) (h := ?_)
    (try simp only [Act.put, setIfInBounds_toArray, set_cons_zero, set_cons_succ, getElem_toArray, getElem_cons_succ, getElem_cons_zero])
    refine tk (i := 8) (h := ?_)
    (try simp only [Act.put, setIfInBounds_toArray, set_cons_zero, set_cons_succ, getElem_toArray, getElem_cons_succ, getElem_cons_zero])
    refine wpAnyH_ready (rs := [0, 5]) (by kernel_rfl) (by simp) ?_
    refine AllReadyH.cons rfl (fun K hK => ?_) ?_
    · obtain ⟨q0, q1, q2⟩ := three_cells FX_q4.out
      go_simp
      clear q0 q1 q2
      refine hK.out _ _ (hHeld) (fun hHeld => ?_)
      clear hK K
      (try simp only [Act.put, setIfInBounds_toArray, set_cons_zero, set_cons_succ, getElem_toArray, getElem_cons_succ, getElem_cons_zero])
      refine t1 (i := 5) (h := fun K hK => ?_)
      go_simp
      have FPq12 := FO_q3
      refine (HNW.out wq1).mono ?_
      rintro e wq12 ⟨AW, cAW, rfl, oq12, belq12⟩
      dsimp only
      have FB_q13 := Lib.hid ((FB_q2.out).trans ((belq12).mono (FB_q2.out).size))
      have FO_q14 := Lib.hid (((FO_q3.out).below (belq12)).size)
      have FX_q15 := Lib.hid (((belq12).block _ (Array.getElem?_eq_some_iff.1 (FX_q4.out)).1).trans (FX_q4.out))
      clear FB_q2 FO_q3 FX_q4
      have FFFW := Lib.hid (far_new FPq12.out oq12)
      have FW_q12 := Lib.hid (RdI.of_own oq12)
      clear oq12 belq12 FPq12
      refine hK.out _ _ (HSX.out _ FB_q13.out) (fun hHeld => ?_)
      clear hK K
      (try simp only [Act.put, setIfInBounds_toArray, set_cons_zero, set_cons_succ, getElem_toArray, getElem_cons_succ, getElem_cons_zero])
      refine t1 (i := 9) (h := fun K hK => ?_)
      go_simp
      have FPq16 := FO_q14
      refine (HNL.out wq12).mono ?_
      rintro e wq16 ⟨AL, cAL, rfl, oq16, belq16⟩
      dsimp only
      have FB_q17 := Lib.hid ((FB_q13.out).trans ((belq16).mono (FB_q13.out).size))
      have FO_q18 := Lib.hid (((FO_q14.out).below (belq16)).size)
      have FX_q19 := Lib.hid (((belq16).block _ (Array.getElem?_eq_some_iff.1 (FX_q15.out)).1).trans (FX_q15.out))
      have FW_q20 := Lib.hid (((FW_q12.out).below (belq16)).more (belq16).size)
      clear FB_q13 FO_q14 FX_q15 FW_q12
      have FFFL := Lib.hid (far_new FPq16.out oq16)
      have FL_q16 := Lib.hid (RdI.of_own oq16)
      clear oq16 belq16 FPq16
      refine hK.out _ _ (HSX.out _ FB_q17.out) (fun hHeld => ?_)
      clear hK K
      (try simp only [Act.put, setIfInBounds_toArray, set_cons_zero, set_cons_succ, getElem_toArray, getElem_cons_succ, getElem_cons_zero])
      refine t1 (i := 10) (h := fun K hK => ?_)
      go_simp
      refine (HPL.out wq16 AW cAW AL cAL FO_q18.out FB_q17.out FW_q20.out FFFW.out FL_q16.out FFFL.out).mono ?_
      rintro e u7 ⟨h7, rfl, o7, b7, s7, k7⟩
      dsimp only
      have FBX := Nat.lt_of_lt_of_le HSB.out FB_q17.out.size
      obtain ⟨far7, x7⟩ := k7 bx FBX HFAR.out
      have HX7 := Lib.hid (x7.trans FX_q19.out)
      have HO7 := Lib.hid o7; have HB7 := Lib.hid b7; have HF7 := Lib.hid far7
      have S7 := Lib.hid (HSW.out u7 b7)
      clear o7 b7 s7 k7 FBX far7 x7
      refine hK.out _ _ (S7.out) (fun hHeld => ?_)
      clear hK K
      (try simp only [Act.put, setIfInBounds_toArray, set_cons_zero, set_cons_succ, getElem_toArray, getElem_cons_succ, getElem_cons_zero])
      refine t1 (i := 11) (h := fun K hK => ?_)
      obtain ⟨a0, a1, a2⟩ := three_cells HX7.out
      have f0 := frozen_of_row _ _ 0 _ _ HX7.out; have f1 := frozen_of_row _ _ 1 _ _ HX7.out; have f2 := frozen_of_row _ _ 2 _ _ HX7.out
      have H8 := Lib.hid (set3_at HX7.out (.slice h7.A T1.w.length h7.c) (.slice h7.L T1.l.length h7.d) (.slice h7.C T1.c.length h7.e))
      have HO8 := Lib.hid (((HO7.out.farSet HF7.out 0 (.slice h7.A T1.w.length h7.c)).farSet HF7.out 1 (.slice h7.L T1.l.length h7.d)).farSet HF7.out 2 (.slice h7.C T1.c.length h7.e))
      have HB8 := Lib.hid (set3_below HB7.out (show w3.heap.size ≤ bx from HBX3.out) (.slice h7.A T1.w.length h7.c) (.slice h7.L T1.l.length h7.d) (.slice h7.C T1.c.length h7.e))
      have S8 := Lib.hid (HSW.out _ HB8.out)
      go_simp
      clear a0 a1 a2 f0 f1 f2
      refine hK.out _ _ (S8.out) (fun hHeld => ?_)
      clear hK K
      (try simp only [Act.put, setIfInBounds_toArray, set_cons_zero, set_cons_succ, getElem_toArray, getElem_cons_succ, getElem_cons_zero])
      refine wpAnyH_done (by kernel_rfl) ?_ _
      go_wp2_with (fail)
      go_meet
      exact ⟨h7, by have := HO8.out; simpa using this, HF7.out, H8.out, HB8.out⟩
    refine AllReadyH.cons rfl (fun K hK => ?_) ?_
    · go_simp
      have FPq21 := FO_q3
      refine (HNW.out wq1).mono ?_
      rintro e wq21 ⟨AW, cAW, rfl, oq21, belq21⟩
      dsimp only
      have FB_q22 := Lib.hid ((FB_q2.out).trans ((belq21).mono (FB_q2.out).size))
      have FO_q23 := Lib.hid (((FO_q3.out).below (belq21)).size)
      have FX_q24 := Lib.hid (((belq21).block _ (Array.getElem?_eq_some_iff.1 (FX_q4.out)).1).trans (FX_q4.out))
      clear FB_q2 FO_q3 FX_q4
      have FFFW := Lib.hid (far_new FPq21.out oq21)
      have FW_q21 := Lib.hid (RdI.of_own oq21)
      clear oq21 belq21 FPq21
      refine hK.out _ _ (HSX.out _ FB_q22.out) (fun hHeld => ?_)
      clear hK K
      (try simp only [Act.put, setIfInBounds_toArray, set_cons_zero, set_cons_succ, getElem_toArray, getElem_cons_succ, getElem_cons_zero])
      refine wpAnyH_ready (rs := [0, 9]) (by kernel_rfl) (by simp) ?_
      refine AllReadyH.cons rfl (fun K hK => ?_) ?_
      · obtain ⟨q0, q1, q2⟩ := three_cells FX_q24.out
        go_simp
        clear q0 q1 q2
        refine hK.out _ _ (hHeld) (fun hHeld => ?_)
        clear hK K
        (try simp only [Act.put, setIfInBounds_toArray, set_cons_zero, set_cons_succ, getElem_toArray, getElem_cons_succ, getElem_cons_zero])
        refine t1 (i := 9) (h := fun K hK => ?_)
        go_simp
        have FPq25 := FO_q23
        refine (HNL.out wq21).mono ?_
        rintro e wq25 ⟨AL, cAL, rfl, oq25, belq25⟩
        dsimp only
        have FB_q26 := Lib.hid ((FB_q22.out).trans ((belq25).mono (FB_q22.out).size))
        have FO_q27 := Lib.hid (((FO_q23.out).below (belq25)).size)
        have FX_q28 := Lib.hid (((belq25).block _ (Array.getElem?_eq_some_iff.1 (FX_q24.out)).1).trans (FX_q24.out))
        have FW_q29 := Lib.hid (((FW_q21.out).below (belq25)).more (belq25).size)
        clear FB_q22 FO_q23 FX_q24 FW_q21
        have FFFL := Lib.hid (far_new FPq25.out oq25)
        have FL_q25 := Lib.hid (RdI.of_own oq25)
        clear oq25 belq25 FPq25
        refine hK.out _ _ (HSX.out _ FB_q26.out) (fun hHeld => ?_)
        clear hK K
        (try simp only [Act.put, setIfInBounds_toArray, set_cons_zero, set_cons_succ, getElem_toArray, getElem_cons_succ, getElem_cons_zero])
        refine t1 (i := 10) (h := fun K hK => ?_)
        go_simp
        refine (HPL.out wq25 AW cAW AL cAL FO_q27.out FB_q26.out FW_q29.out FFFW.out FL_q25.out FFFL.out).mono ?_
        rintro e u7 ⟨h7, rfl, o7, b7, s7, k7⟩
        dsimp only
        have FBX := Nat.lt_of_lt_of_le HSB.out FB_q26.out.size
        obtain ⟨far7, x7⟩ := k7 bx FBX HFAR.out
        have HX7 := Lib.hid (x7.trans FX_q28.out)
        have HO7 := Lib.hid o7; have HB7 := Lib.hid b7; have HF7 := Lib.hid far7
        have S7 := Lib.hid (HSW.out u7 b7)
        clear o7 b7 s7 k7 FBX far7 x7
        refine hK.out _ _ (S7.out) (fun hHeld => ?_)
        clear hK K
        (try simp only [Act.put, setIfInBounds_toArray, set_cons_zero, set_cons_succ, getElem_toArray, getElem_cons_succ, getElem_cons_zero])
        refine t1 (i := 11) (h := fun K hK => ?_)
        obtain ⟨a0, a1, a2⟩ := three_cells HX7.out
        have f0 := frozen_of_row _ _ 0 _ _ HX7.out; have f1 := frozen_of_row _ _ 1 _ _ HX7.out; have f2 := frozen_of_row _ _ 2 _ _ HX7.out
        have H8 := Lib.hid (set3_at HX7.out (.slice h7.A T1.w.length h7.c) (.slice h7.L T1.l.length h7.d) (.slice h7.C T1.c.length h7.e))
        have HO8 := Lib.hid (((HO7.out.farSet HF7.out 0 (.slice h7.A T1.w.length h7.c)).farSet HF7.out 1 (.slice h7.L T1.l.length h7.d)).farSet HF7.out 2 (.slice h7.C T1.c.length h7.e))
        have HB8 := Lib.hid (set3_below HB7.out (show w3.heap.size ≤ bx from HBX3.out) (.slice h7.A T1.w.length h7.c) (.slice h7.L T1.l.length h7.d) (.slice h7.C T1.c.length h7.e))
        have S8 := Lib.hid (HSW.out _ HB8.out)
        go_simp
        clear a0 a1 a2 f0 f1 f2
        refine hK.out _ _ (S8.out) (fun hHeld => ?_)
        clear hK K
        (try simp only [Act.put, setIfInBounds_toArray, set_cons_zero, set_cons_succ, getElem_toArray, getElem_cons_succ, getElem_cons_zero])
        refine wpAnyH_done (by kernel_rfl) ?_ _
        go_wp2_with (fail)
        go_meet
        exact ⟨h7, by have := HO8.out; simpa using this, HF7.out, H8.out, HB8.out⟩
      refine AllReadyH.cons rfl (fun K hK => ?_) ?_
      · go_simp
        have FPq30 := FO_q23
        refine (HNL.out wq21).mono ?_
        rintro e wq30 ⟨AL, cAL, rfl, oq30, belq30⟩
        dsimp only
        have FB_q31 := Lib.hid ((FB_q22.out).trans ((belq30).mono (FB_q22.out).size))
        have FO_q32 := Lib.hid (((FO_q23.out).below (belq30)).size)
        have FX_q33 := Lib.hid (((belq30).block _ (Array.getElem?_eq_some_iff.1 (FX_q24.out)).1).trans (FX_q24.out))
        have FW_q34 := Lib.hid (((FW_q21.out).below (belq30)).more (belq30).size)
        clear FB_q22 FO_q23 FX_q24 FW_q21
        have FFFL := Lib.hid (far_new FPq30.out oq30)
        have FL_q30 := Lib.hid (RdI.of_own oq30)
        clear oq30 belq30 FPq30
        refine hK.out _ _ (HSX.out _ FB_q31.out) (fun hHeld => ?_)
        clear hK K
        (try simp only [Act.put, setIfInBounds_toArray, set_cons_zero, set_cons_succ, getElem_toArray, getElem_cons_succ, getElem_cons_zero])
        refine t1 (i := 0) (h := fun K hK => ?_)
        obtain ⟨q0, q1, q2⟩ := three_cells FX_q33.out
        go_simp
        clear q0 q1 q2
        refine hK.out _ _ (hHeld) (fun hHeld => ?_)
        clear hK K
        (try simp only [Act.put, setIfInBounds_toArray, set_cons_zero, set_cons_succ, getElem_toArray, getElem_cons_succ, getElem_cons_zero])
        refine t1 (i := 10) (h := fun K hK => ?_)
        go_simp
        refine (HPL.out wq30 AW cAW AL cAL FO_q32.out FB_q31.out FW_q34.out FFFW.out FL_q30.out FFFL.out).mono ?_
        rintro e u7 ⟨h7, rfl, o7, b7, s7, k7⟩
        dsimp only
        have FBX := Nat.lt_of_lt_of_le HSB.out FB_q31.out.size
        obtain ⟨far7, x7⟩ := k7 bx FBX HFAR.out
        have HX7 := Lib.hid (x7.trans FX_q33.out)
        have HO7 := Lib.hid o7; have HB7 := Lib.hid b7; have HF7 := Lib.hid far7
        have S7 := Lib.hid (HSW.out u7 b7)
        clear o7 b7 s7 k7 FBX far7 x7
        refine hK.out _ _ (S7.out) (fun hHeld => ?_)
        clear hK K
        (try simp only [Act.put, setIfInBounds_toArray, set_cons_zero, set_cons_succ, getElem_toArray, getElem_cons_succ, getElem_cons_zero])
        refine t1 (i := 11) (h := fun K hK => ?_)
        obtain ⟨a0, a1, a2⟩ := three_cells HX7.out
        have f0 := frozen_of_row _ _ 0 _ _ HX7.out; have f1 := frozen_of_row _ _ 1 _ _ HX7.out; have f2 := frozen_of_row _ _ 2 _ _ HX7.out
        have H8 := Lib.hid (set3_at HX7.out (.slice h7.A T1.w.length h7.c) (.slice h7.L T1.l.length h7.d) (.slice h7.C T1.c.length h7.e))
        have HO8 := Lib.hid (((HO7.out.farSet HF7.out 0 (.slice h7.A T1.w.length h7.c)).farSet HF7.out 1 (.slice h7.L T1.l.length h7.d)).farSet HF7.out 2 (.slice h7.C T1.c.length h7.e))
        have HB8 := Lib.hid (set3_below HB7.out (show w3.heap.size ≤ bx from HBX3.out) (.slice h7.A T1.w.length h7.c) (.slice h7.L T1.l.length h7.d) (.slice h7.C T1.c.length h7.e))
        have S8 := Lib.hid (HSW.out _ HB8.out)
        go_simp
        clear a0 a1 a2 f0 f1 f2
        refine hK.out _ _ (S8.out) (fun hHeld => ?_)
        clear hK K
        (try simp only [Act.put, setIfInBounds_toArray, set_cons_zero, set_cons_succ, getElem_toArray, getElem_cons_succ, getElem_cons_zero])
        refine wpAnyH_done (by kernel_rfl) ?_ _
        go_wp2_with (fail)
        go_meet
        exact ⟨h7, by have := HO8.out; simpa using this, HF7.out, H8.out, HB8.out⟩
      exact AllReadyH.nil
    exact AllReadyH.nil
  case rest =>
    obtain ⟨hZ, PO, PF, PX, PB⟩ := hcut
    clear OZ XZ FZ BZ B4
    have XZ := Lib.hid PX; have FZ := Lib.hid PF; have OZ := Lib.hid PO; have BZ := Lib.hid PB
    clear PO PF PX PB
    go_upto_region 5 with (fail)
    go_cut [] (fun wx => UnSt w3 bx X wx)
    case first =>
      have FB_0 := Lib.hid (Below.refl wc.heap.size wc)
      have FO_0 := Lib.hid OZ.out
      have FX_0 := Lib.hid XZ.out
      have HFAR := FZ
      have HSB : Hid (bx < wc.heap.size) := Lib.hid (Array.getElem?_eq_some_iff.1 XZ.out).1
      have HSW : Hid (∀ wx : World, Below w3.heap.size w3 wx → wx.cell? ⟨w.heap.size, 0, none⟩ = some (.slice hA.A A.w.length hA.c) ∧ wx.cell? ⟨w.heap.size, 1, none⟩ = some (.slice hA.L A.l.length hA.d) ∧ wx.cell? ⟨w.heap.size, 2, none⟩ = some (.slice hA.C A.c.length hA.e) ∧ wx.cell? ⟨w.heap.size + 1, 0, none⟩ = some (.slice hB.A B.w.length hB.c) ∧ wx.cell? ⟨w.heap.size + 1, 1, none⟩ = some (.slice hB.L B.l.length hB.d) ∧ wx.cell? ⟨w.heap.size + 1, 2, none⟩ = some (.slice hB.C B.c.length hB.e)) := Lib.hid fun wx hx => by
        obtain ⟨y0, y1, y2⟩ := HKA.out wx hx
        obtain ⟨z0, z1, z2⟩ := HKB.out wx hx
        exact ⟨y0, y1, y2, z0, z1, z2⟩
      have HSX : Hid (∀ wx : World, Below wc.heap.size wc wx → wx.cell? ⟨w.heap.size, 0, none⟩ = some (.slice hA.A A.w.length hA.c) ∧ wx.cell? ⟨w.heap.size, 1, none⟩ = some (.slice hA.L A.l.length hA.d) ∧ wx.cell? ⟨w.heap.size, 2, none⟩ = some (.slice hA.C A.c.length hA.e) ∧ wx.cell? ⟨w.heap.size + 1, 0, none⟩ = some (.slice hB.A B.w.length hB.c) ∧ wx.cell? ⟨w.heap.size + 1, 1, none⟩ = some (.slice hB.L B.l.length hB.d) ∧ wx.cell? ⟨w.heap.size + 1, 2, none⟩ = some (.slice hB.C B.c.length hB.e)) := Lib.hid fun wx hx => HSW.out wx (BZ.out.trans (hx.mono BZ.out.size))
      have HNW := Lib.hid (fun wx : World => numbersFrom_any A.w.length B.w.length wx (by omega) (by omega))
      have HNL := Lib.hid (fun wx : World => numbersFrom_any A.l.length B.l.length wx (by omega) (by omega))
      have HPL := Lib.hid (fun (wx : World) (AW : Option Addr) (cW : Nat) (AL : Option Addr) (cL : Nat) (o : OwnN wx w3.heap.size wx.heap.size hZ T1) (hx : Below wc.heap.size wc wx) (rW : RdI wx wx.heap.size AW (markL A.w.length B.w.length).length (markL A.w.length B.w.length)) (fW : 0 < (markL A.w.length B.w.length).length → ∀ b off, AW = some ⟨b, off, none⟩ → FarN hZ T1 b) (rL : RdI wx wx.heap.size AL (markL A.l.length B.l.length).length (markL A.l.length B.l.length)) (fL : 0 < (markL A.l.length B.l.length).length → ∀ b off, AL = some ⟨b, off, none⟩ → FarN hZ T1 b) => by
        have h3 := placed_any w3 wx hZ T1 hB B AW AL cW cL (markL A.w.length B.w.length) (markL A.l.length B.l.length) o (BZ.out.trans (hx.mono BZ.out.size)) HRB.out rW fW rL fL HVB'.out (markL_len _ _) (by rw [HL1.out.1]; exact markL_at_in _ _ _ (by omega)) (markL_len _ _) (by rw [HL1.out.2.1]; exact markL_at_in _ _ _ (by omega)) (by rw [HL1.out.1]; omega) (by rw [HL1.out.2.1]; omega) (by rw [HL1.out.2.2]; omega)
        rw [HPCB.out] at h3
        exact h3)
      refine wp_region_held_drew (S := fun wx => wx.cell? ⟨w.heap.size, 0, none⟩ = some (.slice hA.A A.w.length hA.c) ∧ wx.cell? ⟨w.heap.size, 1, none⟩ = some (.slice hA.L A.l.length hA.d) ∧ wx.cell? ⟨w.heap.size, 2, none⟩ = some (.slice hA.C A.c.length hA.e) ∧ wx.cell? ⟨w.heap.size + 1, 0, none⟩ = some (.slice hB.A B.w.length hB.c) ∧ wx.cell? ⟨w.heap.size + 1, 1, none⟩ = some (.slice hB.L B.l.length hB.d) ∧ wx.cell? ⟨w.heap.size + 1, 2, none⟩ = some (.slice hB.C B.c.length hB.e)) (by kernel_rfl) (HSX.out _ (Below.refl _ _).drew) (fun hHeld => ?_)
      obtain ⟨wp1, hwp1⟩ : ∃ w', w' = wc.drew := ⟨_, rfl⟩
      rw [← hwp1] at hHeld ⊢
      have bp1 : Below wc.heap.size wc wp1 := by rw [hwp1]; exact (Below.refl _ _).drew
      clear hwp1
      have FB_p2 := Lib.hid ((FB_0.out).trans ((bp1).mono (FB_0.out).size))
      have FO_p3 := Lib.hid (((FO_0.out).below (bp1)).size)
      have FX_p4 := Lib.hid (((bp1).block _ (Array.getElem?_eq_some_iff.1 (FX_0.out)).1).trans (FX_0.out))
      clear FB_0 FO_0 FX_0
      refine tk (i := 1) (h := ?_)
      (try simp only [Act.put, setIfInBounds_toArray, set_cons_zero, set_cons_succ, getElem_toArray, getElem_cons_succ, getElem_cons_zero])
      refine tk (i := 2) (h := ?_)
      (try simp only [Act.put, setIfInBounds_toArray, set_cons_zero, set_cons_succ, getElem_toArray, getElem_cons_succ, getElem_cons_zero])
      refine tk (i := 5) (h := ?_)
      (try simp only [Act.put, setIfInBounds_toArray, set_cons_zero, set_cons_succ, getElem_toArray, getElem_cons_succ, getElem_cons_zero])
      refine tk (i := 9) (h := ?_)
      (try simp only [Act.put, setIfInBounds_toArray, set_cons_zero, set_cons_succ, getElem_toArray, getElem_cons_succ, getElem_cons_zero])
      refine tk (i := 12) (h := ?_)
      (try simp only [Act.put, setIfInBounds_toArray, set_cons_zero, set_cons_succ, getElem_toArray, getElem_cons_succ, getElem_cons_zero])
      refine tk (i := 3) (h := ?_)
      (try simp only [Act.put, setIfInBounds_toArray, set_cons_zero, set_cons_succ, getElem_toArray, getElem_cons_succ, getElem_cons_zero])
      refine tk (i := 6) (h := ?_)
      (try simp only [Act.put, setIfInBounds_toArray, set_cons_zero, set_cons_succ, getElem_toArray, getElem_cons_succ, getElem_cons_zero])
      refine tk (i := 10) (h := ?_)
      (try simp only [Act.put, setIfInBounds_toArray, set_cons_zero, set_cons_succ, getElem_toArray, getElem_cons_succ, getElem_cons_zero])
      refine tk (i := 13) (h := ?_)
      (try simp only [Act.put, setIfInBounds_toArray, set_cons_zero, set_cons_succ, getElem_toArray, getElem_cons_succ, getElem_cons_zero])
      refine tk (i := 4) (h := ?_)
      (try simp only [Act.put, setIfInBounds_toArray, set_cons_zero, set_cons_succ, getElem_toArray, getElem_cons_succ, getElem_cons_zero])
      refine tk (i := 7) (h := ?_)
      (try simp only [Act.put, setIfInBounds_toArray, set_cons_zero, set_cons_succ, getElem_toArray, getElem_cons_succ, getElem_cons_zero])
      refine tk (i := 11) (h := ?_)
      (try simp only [Act.put, setIfInBounds_toArray, set_cons_zero, set_cons_succ, getElem_toArray, getElem_cons_succ, getElem_cons_zero])
      refine tk (i := 14) (h := ?_)
      (try simp only [Act.put, setIfInBounds_toArray, set_cons_zero, set_cons_succ, getElem_toArray, getElem_cons_succ, getElem_cons_zero])
      refine wpAnyH_ready (rs := [0, 8]) (by kernel_rfl) (by simp) ?_
      refine AllReadyH.cons rfl (fun K hK => ?_) ?_
      · obtain ⟨q0, q1, q2⟩ := three_cells FX_p4.out
        go_simp
        clear q0 q1 q2
        refine hK.out _ _ (hHeld) (fun hHeld => ?_)
        clear hK K
        (try simp only [Act.put, setIfInBounds_toArray, set_cons_zero, set_cons_succ, getElem_toArray, getElem_cons_succ, getElem_cons_zero])
        refine t1 (i := 8) (h := fun K hK => ?_)
        go_simp
        have FPp18 := FO_p3
        refine (HNW.out wp1).mono ?_
        rintro e wp18 ⟨AW, cAW, rfl, op18, belp18⟩
        dsimp only
        have FB_p19 := Lib.hid ((FB_p2.out).trans ((belp18).mono (FB_p2.out).size))
        have FO_p20 := Lib.hid (((FO_p3.out).below (belp18)).size)
        have FX_p21 := Lib.hid (((belp18).block _ (Array.getElem?_eq_some_iff.1 (FX_p4.out)).1).trans (FX_p4.out))
        clear FB_p2 FO_p3 FX_p4
        have FFFW := Lib.hid (far_new FPp18.out op18)
        have FW_p18 := Lib.hid (RdI.of_own op18)
        clear op18 belp18 FPp18
        refine hK.out _ _ (HSX.out _ FB_p19.out) (fun hHeld => ?_)
        clear hK K
        (try simp only [Act.put, setIfInBounds_toArray, set_cons_zero, set_cons_succ, getElem_toArray, getElem_cons_succ, getElem_cons_zero])
        refine t1 (i := 15) (h := fun K hK => ?_)
        go_simp
        have FPp22 := FO_p20
        refine (HNL.out wp18).mono ?_
        rintro e wp22 ⟨AL, cAL, rfl, op22, belp22⟩
        dsimp only
        have FB_p23 := Lib.hid ((FB_p19.out).trans ((belp22).mono (FB_p19.out).size))
        have FO_p24 := Lib.hid (((FO_p20.out).below (belp22)).size)
        have FX_p25 := Lib.hid (((belp22).block _ (Array.getElem?_eq_some_iff.1 (FX_p21.out)).1).trans (FX_p21.out))
        have FW_p26 := Lib.hid (((FW_p18.out).below (belp22)).more (belp22).size)
        clear FB_p19 FO_p20 FX_p21 FW_p18
        have FFFL := Lib.hid (far_new FPp22.out op22)
        have FL_p22 := Lib.hid (RdI.of_own op22)
        clear op22 belp22 FPp22
        refine hK.out _ _ (HSX.out _ FB_p23.out) (fun hHeld => ?_)
        clear hK K
        (try simp only [Act.put, setIfInBounds_toArray, set_cons_zero, set_cons_succ, getElem_toArray, getElem_cons_succ, getElem_cons_zero])
        refine t1 (i := 16) (h := fun K hK => ?_)
        go_simp
        refine (HPL.out wp22 AW cAW AL cAL FO_p24.out FB_p23.out FW_p26.out FFFW.out FL_p22.out FFFL.out).mono ?_
        rintro e u7 ⟨h7, rfl, o7, b7, s7, k7⟩
        dsimp only
        have FBX := Nat.lt_of_lt_of_le HSB.out FB_p23.out.size
        obtain ⟨far7, x7⟩ := k7 bx FBX HFAR.out
        have HX7 := Lib.hid (x7.trans FX_p25.out)
        have HO7 := Lib.hid o7; have HB7 := Lib.hid b7; have HF7 := Lib.hid far7
        have S7 := Lib.hid (HSW.out u7 b7)
        clear o7 b7 s7 k7 FBX far7 x7
        refine hK.out _ _ (S7.out) (fun hHeld => ?_)
        clear hK K
        (try simp only [Act.put, setIfInBounds_toArray, set_cons_zero, set_cons_succ, getElem_toArray, getElem_cons_succ, getElem_cons_zero])
        refine t1 (i := 17) (h := fun K hK => ?_)
        obtain ⟨a0, a1, a2⟩ := three_cells HX7.out
        have f0 := frozen_of_row _ _ 0 _ _ HX7.out; have f1 := frozen_of_row _ _ 1 _ _ HX7.out; have f2 := frozen_of_row _ _ 2 _ _ HX7.out
        have H8 := Lib.hid (set3_at HX7.out (.slice h7.A X.w.length h7.c) (.slice h7.L X.l.length h7.d) (.slice h7.C X.c.length h7.e))
        have HO8 := Lib.hid (((HO7.out.farSet HF7.out 0 (.slice h7.A X.w.length h7.c)).farSet HF7.out 1 (.slice h7.L X.l.length h7.d)).farSet HF7.out 2 (.slice h7.C X.c.length h7.e))
        have HB8 := Lib.hid (set3_below HB7.out (show w3.heap.size ≤ bx from HBX3.out) (.slice h7.A X.w.length h7.c) (.slice h7.L X.l.length h7.d) (.slice h7.C X.c.length h7.e))
        have S8 := Lib.hid (HSW.out _ HB8.out)
        go_simp
        clear a0 a1 a2 f0 f1 f2
        refine hK.out _ _ (S8.out) (fun hHeld => ?_)
        clear hK K
        (try simp only [Act.put, setIfInBounds_toArray, set_cons_zero, set_cons_succ, getElem_toArray, getElem_cons_succ, getElem_cons_zero])
        refine wpAnyH_done (by kernel_rfl) ?_ _
        go_wp2_with (fail)
        go_meet
        exact ⟨h7, by have := HO8.out; simpa using this, HF7.out, H8.out, HB8.out⟩
      refine AllReadyH.cons rfl (fun K hK => ?_) ?_
      · go_simp
        have FPp27 := FO_p3
        refine (HNW.out wp1).mono ?_
        rintro e wp27 ⟨AW, cAW, rfl, op27, belp27⟩
        dsimp only
        have FB_p28 := Lib.hid ((FB_p2.out).trans ((belp27).mono (FB_p2.out).size))
        have FO_p29 := Lib.hid (((FO_p3.out).below (belp27)).size)
        have FX_p30 := Lib.hid (((belp27).block _ (Array.getElem?_eq_some_iff.1 (FX_p4.out)).1).trans (FX_p4.out))
        clear FB_p2 FO_p3 FX_p4
        have FFFW := Lib.hid (far_new FPp27.out op27)
        have FW_p27 := Lib.hid (RdI.of_own op27)
        clear op27 belp27 FPp27
        refine hK.out _ _ (HSX.out _ FB_p28.out) (fun hHeld => ?_)
        clear hK K
        (try simp only [Act.put, setIfInBounds_toArray, set_cons_zero, set_cons_succ, getElem_toArray, getElem_cons_succ, getElem_cons_zero])
        refine wpAnyH_ready (rs := [0, 15]) (by kernel_rfl) (by simp) ?_
        refine AllReadyH.cons rfl (fun K hK => ?_) ?_
        · obtain ⟨q0, q1, q2⟩ := three_cells FX_p30.out
          go_simp
          clear q0 q1 q2
          refine hK.out _ _ (hHeld) (fun hHeld => ?_)
          clear hK K
          (try simp only [Act.put, setIfInBounds_toArray, set_cons_zero, set_cons_succ, getElem_toArray, getElem_cons_succ, getElem_cons_zero])
          refine t1 (i := 15) (h := fun K hK => ?_)
          go_simp
          have FPp31 := FO_p29
          refine (HNL.out wp27).mono ?_
          rintro e wp31 ⟨AL, cAL, rfl, op31, belp31⟩
          dsimp only
          have FB_p32 := Lib.hid ((FB_p28.out).trans ((belp31).mono (FB_p28.out).size))
          have FO_p33 := Lib.hid (((FO_p29.out).below (belp31)).size)
          have FX_p34 := Lib.hid (((belp31).block _ (Array.getElem?_eq_some_iff.1 (FX_p30.out)).1).trans (FX_p30.out))
          have FW_p35 := Lib.hid (((FW_p27.out).below (belp31)).more (belp31).size)
          clear FB_p28 FO_p29 FX_p30 FW_p27
          have FFFL := Lib.hid (far_new FPp31.out op31)
          have FL_p31 := Lib.hid (RdI.of_own op31)
          clear op31 belp31 FPp31
          refine hK.out _ _ (HSX.out _ FB_p32.out) (fun hHeld => ?_)
          clear hK K
          (try simp only [Act.put, setIfInBounds_toArray, set_cons_zero, set_cons_succ, getElem_toArray, getElem_cons_succ, getElem_cons_zero])
          refine t1 (i := 16) (h := fun K hK => ?_)
          go_simp
          refine (HPL.out wp31 AW cAW AL cAL FO_p33.out FB_p32.out FW_p35.out FFFW.out FL_p31.out FFFL.out).mono ?_
          rintro e u7 ⟨h7, rfl, o7, b7, s7, k7⟩
          dsimp only
          have FBX := Nat.lt_of_lt_of_le HSB.out FB_p32.out.size
          obtain ⟨far7, x7⟩ := k7 bx FBX HFAR.out
          have HX7 := Lib.hid (x7.trans FX_p34.out)
          have HO7 := Lib.hid o7; have HB7 := Lib.hid b7; have HF7 := Lib.hid far7
          have S7 := Lib.hid (HSW.out u7 b7)
          clear o7 b7 s7 k7 FBX far7 x7
          refine hK.out _ _ (S7.out) (fun hHeld => ?_)
          clear hK K
          (try simp only [Act.put, setIfInBounds_toArray, set_cons_zero, set_cons_succ, getElem_toArray, getElem_cons_succ, getElem_cons_zero])
          refine t1 (i := 17) (h := fun K hK => ?_)
          obtain ⟨a0, a1, a2⟩ := three_cells HX7.out
          have f0 := frozen_of_row _ _ 0 _ _ HX7.out; have f1 := frozen_of_row _ _ 1 _ _ HX7.out; have f2 := frozen_of_row _ _ 2 _ _ HX7.out
          have H8 := Lib.hid (set3_at HX7.out (.slice h7.A X.w.length h7.c) (.slice h7.L X.l.length h7.d) (.slice h7.C X.c.length h7.e))
          have HO8 := Lib.hid (((HO7.out.farSet HF7.out 0 (.slice h7.A X.w.length h7.c)).farSet HF7.out 1 (.slice h7.L X.l.length h7.d)).farSet HF7.out 2 (.slice h7.C X.c.length h7.e))
          have HB8 := Lib.hid (set3_below HB7.out (show w3.heap.size ≤ bx from HBX3.out) (.slice h7.A X.w.length h7.c) (.slice h7.L X.l.length h7.d) (.slice h7.C X.c.length h7.e))
          have S8 := Lib.hid (HSW.out _ HB8.out)
          go_simp
          clear a0 a1 a2 f0 f1 f2
          refine hK.out _ _ (S8.out) (fun hHeld => ?_)
          clear hK K
          (try simp only [Act.put, setIfInBounds_toArray, set_cons_zero, set_cons_succ, getElem_toArray, getElem_cons_succ, getElem_cons_zero])
          refine wpAnyH_done (by kernel_rfl) ?_ _
          go_wp2_with (fail)
          go_meet
          exact ⟨h7, by have := HO8.out; simpa using this, HF7.out, H8.out, HB8.out⟩
        refine AllReadyH.cons rfl (fun K hK => ?_) ?_
        · go_simp
          have FPp36 := FO_p29
          refine (HNL.out wp27).mono ?_
          rintro e wp36 ⟨AL, cAL, rfl, op36, belp36⟩
          dsimp only
          have FB_p37 := Lib.hid ((FB_p28.out).trans ((belp36).mono (FB_p28.out).size))
          have FO_p38 := Lib.hid (((FO_p29.out).below (belp36)).size)
          have FX_p39 := Lib.hid (((belp36).block _ (Array.getElem?_eq_some_iff.1 (FX_p30.out)).1).trans (FX_p30.out))
          have FW_p40 := Lib.hid (((FW_p27.out).below (belp36)).more (belp36).size)
          clear FB_p28 FO_p29 FX_p30 FW_p27
          have FFFL := Lib.hid (far_new FPp36.out op36)
          have FL_p36 := Lib.hid (RdI.of_own op36)
          clear op36 belp36 FPp36
          refine hK.out _ _ (HSX.out _ FB_p37.out) (fun hHeld => ?_)
          clear hK K
          (try simp only [Act.put, setIfInBounds_toArray, set_cons_zero, set_cons_succ, getElem_toArray, getElem_cons_succ, getElem_cons_zero])
          refine t1 (i := 0) (h := fun K hK => ?_)
          obtain ⟨q0, q1, q2⟩ := three_cells FX_p39.out
          go_simp
          clear q0 q1 q2
          refine hK.out _ _ (hHeld) (fun hHeld => ?_)
          clear hK K
          (try simp only [Act.put, setIfInBounds_toArray, set_cons_zero, set_cons_succ, getElem_toArray, getElem_cons_succ, getElem_cons_zero])
          refine t1 (i := 16) (h := fun K hK => ?_)
          go_simp
          refine (HPL.out wp36 AW cAW AL cAL FO_p38.out FB_p37.out FW_p40.out FFFW.out FL_p36.out FFFL.out).mono ?_
          rintro e u7 ⟨h7, rfl, o7, b7, s7, k7⟩
          dsimp only
          have FBX := Nat.lt_of_lt_of_le HSB.out FB_p37.out.size
          obtain ⟨far7, x7⟩ := k7 bx FBX HFAR.out
          have HX7 := Lib.hid (x7.trans FX_p39.out)
          have HO7 := Lib.hid o7; have HB7 := Lib.hid b7; have HF7 := Lib.hid far7
          have S7 := Lib.hid (HSW.out u7 b7)
          clear o7 b7 s7 k7 FBX far7 x7
          refine hK.out _ _ (S7.out) (fun hHeld => ?_)
          clear hK K
          (try simp only [Act.put, setIfInBounds_toArray, set_cons_zero, set_cons_succ, getElem_toArray, getElem_cons_succ, getElem_cons_zero])
          refine t1 (i := 17) (h := fun K hK => ?_)
          obtain ⟨a0, a1, a2⟩ := three_cells HX7.out
          have f0 := frozen_of_row _ _ 0 _ _ HX7.out; have f1 := frozen_of_row _ _ 1 _ _ HX7.out; have f2 := frozen_of_row _ _ 2 _ _ HX7.out
          have H8 := Lib.hid (set3_at HX7.out (.slice h7.A X.w.length h7.c) (.slice h7.L X.l.length h7.d) (.slice h7.C X.c.length h7.e))
          have HO8 := Lib.hid (((HO7.out.farSet HF7.out 0 (.slice h7.A X.w.length h7.c)).farSet HF7.out 1 (.slice h7.L X.l.length h7.d)).farSet HF7.out 2 (.slice h7.C X.c.length h7.e))
          have HB8 := Lib.hid (set3_below HB7.out (show w3.heap.size ≤ bx from HBX3.out) (.slice h7.A X.w.length h7.c) (.slice h7.L X.l.length h7.d) (.slice h7.C X.c.length h7.e))
          have S8 := Lib.hid (HSW.out _ HB8.out)
          go_simp
          clear a0 a1 a2 f0 f1 f2
          refine hK.out _ _ (S8.out) (fun hHeld => ?_)
          clear hK K
          (try simp only [Act.put, setIfInBounds_toArray, set_cons_zero, set_cons_succ, getElem_toArray, getElem_cons_succ, getElem_cons_zero])
          refine wpAnyH_done (by kernel_rfl) ?_ _
          go_wp2_with (fail)
          go_meet
          exact ⟨h7, by have := HO8.out; simpa using this, HF7.out, H8.out, HB8.out⟩
        exact AllReadyH.nil
      exact AllReadyH.nil
    case rest =>
      obtain ⟨h9, PO, PF, PX, PB⟩ := hcut
      have X9 := Lib.hid PX; have O9 := Lib.hid PO; have B9 := Lib.hid PB
      clear PO PF PX PB XZ OZ FZ BZ
      obtain ⟨k0, k1, k2⟩ := three_cells X9.out
      cases b with
      | false =>
        have HV9 := Lib.hid (checked_no h9 X wc O9.out.rd HSMX.out (HTD.out wc B9.out).1 (HTD.out wc B9.out).2 HX.out)
        go_wp2_with (fail)
        refine HV9.out.mono ?_
        rintro e u10 ⟨rfl, bel⟩
        have B10 := Lib.hid (B9.out.trans (bel.mono B9.out.size))
        clear bel k0 k1 k2
        have q1 := HK2.out _ B10.out
        obtain ⟨a0, a1, a2⟩ := three_cells q1
        have f0 := frozen_of_row _ _ 0 _ _ q1; have f1 := frozen_of_row _ _ 1 _ _ q1; have f2 := frozen_of_row _ _ 2 _ _ q1
        have Q1 := Lib.hid q1
        clear q1
        go_wp2
        (try simp only [Exit.inBlock, Exit.then])
        refine bodyPost_ret (results_cell_row_tmp rfl _ _ (w.heap.size + 2) _ _ (0, 0) _ rfl (set3_at Q1.out _ _ _) Tryd.underlying30 rfl (by kernel_rfl)) rfl ?_
        exact givesNB_of (un_done HB0.out B10.out (OwnN.nil u10 w3.heap.size u10.heap.size) hs0)
      | true =>
        have HV9 := Lib.hid (checked_yes h9 X wc O9.out.rd HSMX.out (HTD.out wc B9.out).1 (HTD.out wc B9.out).2 HX.out)
        go_wp2_with (fail)
        refine HV9.out.mono ?_
        rintro e u10 ⟨rfl, bel⟩
        have B10 := Lib.hid (B9.out.trans (bel.mono B9.out.size))
        have O10 := Lib.hid ((O9.out.below bel).size)
        clear bel k0 k1 k2
        have q1 := HK2.out _ B10.out
        obtain ⟨a0, a1, a2⟩ := three_cells q1
        have f0 := frozen_of_row _ _ 0 _ _ q1; have f1 := frozen_of_row _ _ 1 _ _ q1; have f2 := frozen_of_row _ _ 2 _ _ q1
        have Q1 := Lib.hid q1
        clear q1
        go_wp2
        (try simp only [Exit.inBlock, Exit.then])
        refine bodyPost_ret (results_cell_row_tmp rfl _ _ (w.heap.size + 2) _ _ (0, 0) _ rfl (set3_at Q1.out _ _ _) Tryd.underlying30 rfl (by kernel_rfl)) rfl ?_
        exact givesNB_of (un_done HB0.out B10.out O10.out hs0)
/-- UnionNet of the program. -/
theorem unionNet_impl (hA hB : NH) (A B : Nt) (w : World) (rA : RdN w w.heap.size hA A) (rB : RdN w w.heap.size hB B) (smA : SmallN A) (smB : SmallN B) (ht : Arit w) (hu : Dual w) :
    Calls Tryd.prog 12 #[.agg #[.slice hA.A A.w.length hA.c, .slice hA.L A.l.length hA.d, .slice hA.C A.c.length hA.e], .agg #[.slice hB.A B.w.length hB.c, .slice hB.L B.l.length hB.d, .slice hB.C B.c.length hB.e]] w (GivesNB w (unV A B) (unB A B)) := by
  cases hvA : valN A with
  | false =>
    have e : unB A B = false := by unfold unB; rw [hvA]; rfl
    rw [unV_no e, e]
    exact un_na hA hB A B w rA rB smA smB ht hu hvA
  | true =>
    cases hvB : valN B with
    | false =>
      have e : unB A B = false := by unfold unB; rw [hvA, hvB]; rfl
      rw [unV_no e, e]
      exact un_nb hA hB A B w rA rB smA smB ht hu hvA hvB
    | true =>
      have e : unB A B = valN (unS A B) := by rw [unB_is hvA hvB, unN_is hvB]
      have e2 : unV A B = pickN (unB A B) (unS A B) := rfl
      rw [e2, e]
      exact un_ok hA hB A B w rA rB smA smB ht hu hvA hvB _ rfl
end Go.Proofs.YtdcommmefehlgaaDoor
