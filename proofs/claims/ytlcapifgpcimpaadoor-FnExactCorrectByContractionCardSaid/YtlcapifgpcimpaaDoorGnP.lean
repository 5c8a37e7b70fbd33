/- GraphOfNet: the graph of a net; the program's. Made by mkgnp.py. -/
import Derived.Test.YtlcapifgpcimpaaDoorSgM
import Derived.Test.YtlcapifgpcimpaaDoorEgA
import Derived.Deep.RegionHeldLaw
import Derived.Deep.DeepCutAuto
import Derived.BigQuiet
namespace Go.Proofs.YtlcapifgpcimpaaDoor
set_option linter.unusedSimpArgs false
set_option linter.unusedVariables false
open Go.ChangeAt Go.ChangeShapes Go.RowKit Go.WideShapes

/-- The edge of an arc. -/
def edA (N : Nt) (a : Ac) : Ed := ⟨a.f, a.t, if (N.l.getD a.t.toNat Lk.nil).k = 4 then a.t else -1⟩
/-- The edges of the first j arcs. -/
def gnU (N : Nt) (ar : List Ac) (j : Nat) : List Ed := (ar.take j).map (edA N)
theorem gnU_zero (N : Nt) (ar : List Ac) : gnU N ar 0 = [] := rfl
theorem gnU_len (N : Nt) (ar : List Ac) (j : Nat) : (gnU N ar j).length ≤ ar.length := by unfold gnU; rw [List.length_map, List.length_take]; omega
theorem gnU_succ {N : Nt} {ar : List Ac} {j : Nat} (h : j < ar.length) : gnU N ar (j + 1) = gnU N ar j ++ [edA N (ar.getD j Ac.nil)] := by
  unfold gnU
  rw [List.take_add_one, List.map_append]
  simp [List.getD, h]
/-- The graph of a net. -/
def gnV (N : Nt) : Gr := if valN N = true then ⟨N.l.length, gnU N (arcsU N N.w.length) (arcsU N N.w.length).length⟩ else Gr.nil
theorem gnV_yes {N : Nt} (h : valN N = true) : gnV N = ⟨N.l.length, gnU N (arcsU N N.w.length) (arcsU N N.w.length).length⟩ := by unfold gnV; rw [if_pos h]
theorem gnV_no {N : Nt} (h : valN N = false) : gnV N = Gr.nil := by unfold gnV; rw [if_neg (by rw [h]; decide)]
theorem arcs_in {N : Nt} {k : Nat} {a : Ac} (h : a ∈ arcsU N k) : 0 ≤ a.t ∧ a.t < N.l.length := by
  unfold arcsU at h
  obtain ⟨x, hx, rfl⟩ := List.mem_map.1 h
  have h1 := (List.mem_filter.1 hx).2
  have h2 := lxN_in inL N (x : Int)
  have h3 : ¬ lxN inL N (x : Int) = -1 := by simpa using h1
  show 0 ≤ lxN inL N (x : Int) ∧ lxN inL N (x : Int) < _
  omega
theorem gnV_len (N : Nt) : (gnV N).e.length ≤ 48 := by
  cases h : valN N with
  | true =>
    rw [gnV_yes h]
    have h1 := (valN_size h).1
    have h2 := arcsU_len N N.w.length
    have h3 := gnU_len N (arcsU N N.w.length) (arcsU N N.w.length).length
    show (gnU _ _ _).length ≤ 48
    omega
  | false => rw [gnV_no h]; exact Nat.zero_le _
theorem gnV_small (N : Nt) : SmallG (gnV N) := ⟨Nat.le_trans (gnV_len N) (by decide), trivial, trivial, trivial⟩
theorem two_boxN (w : World) (o p : Obj) : Below w.heap.size w ((w.alloc o).alloc p) ∧ ((w.alloc o).alloc p).heap[w.heap.size]? = some o ∧ ((w.alloc o).alloc p).heap[w.heap.size + 1]? = some p ∧ ((w.alloc o).alloc p).heap.size = w.heap.size + 1 + 1 := by
  have h1 : (w.alloc o).heap.size = w.heap.size + 1 := by simp
  refine ⟨((Below.refl _ _).alloc (Nat.le_refl _) _).alloc (by simp) _, ?_, ?_, by simp⟩
  · exact (((Below.refl _ (w.alloc o)).alloc (Nat.le_refl _) p).block _ (by omega)).trans (heap_alloc_new _ _)
  · rw [← h1]; exact heap_alloc_new _ _
/-- A graph in the box bx, its row in memory of its own behind w5, where the box was there already. -/
structure GnSt (bx : Nat) (w5 wr : World) (h : GH) (G : Gr) : Prop where
  lt : bx < w5.heap.size
  box : wr.heap[bx]? = some (.cells #[.int .i64 G.n, .slice h.A G.e.length h.c] 30 (0, 0))
  own : wr.ownsRow w5.heap.size 52 3 (.slice h.A G.e.length h.c) G.e.length ((flE G.e).map (Value.int .i64))
  kept : Kept bx (bx + 1) w5 wr
section
variable {bx : Nat} {w5 wr wa w9 w' : World} {h : GH} {G : Gr}
theorem GnSt.start {nd : Int} (hlt : bx < w5.heap.size) (hb : w5.heap[bx]? = some (.cells #[.int .i64 nd, .slice none 0 0] 30 (0, 0))) : GnSt bx w5 w5 ⟨none, 0⟩ ⟨nd, []⟩ :=
  ⟨hlt, hb, World.ownsRow_nil _ _ _ _, Kept.refl _ _ _⟩
theorem GnSt.lt' (s : GnSt bx w5 wr h G) : bx < wr.heap.size := Nat.lt_of_lt_of_le s.lt s.kept.size
theorem GnSt.below (s : GnSt bx w5 wr h G) (hb : Below wr.heap.size wr w') : GnSt bx w5 w' h G :=
  ⟨s.lt, (hb.block _ s.lt').trans s.box, own_same s.own fun k e => hb.block k (s.own.lt k e).2, s.kept.trans (Kept.of_below hb _ _)⟩
theorem GnSt.cell (s : GnSt bx w5 wr h G) {p : Addr} (hp : p.block < w5.heap.size) (hn : p.block ≠ bx) : wr.cell? p = w5.cell? p := World.cell?_of_block (s.kept.block _ hp (by omega))
theorem GnSt.grown {v : Value} {x : Ed} (s : GnSt bx w5 wa h G) (own' : w9.ownsRow w5.heap.size 52 3 v (G.e.length + 1) ((flE G.e).map (Value.int .i64) ++ [.int .i64 x.a, .int .i64 x.b, .int .i64 x.p])) (hg : wa.grownBy w9 (Value.slice h.A G.e.length h.c).ownBlock) :
    ∃ A c, v = .slice A (G.e.length + 1) c ∧ w9.heap[bx]? = some (.cells #[.int .i64 G.n, .slice h.A G.e.length h.c] 30 (0, 0)) ∧
      GnSt bx w5 (w9.setCell ⟨bx, 1, none⟩ (.slice A (G.e.length + 1) c)) ⟨A, c⟩ ⟨G.n, G.e ++ [x]⟩ := by
  obtain ⟨A, c, rfl⟩ := own_shapeE own'
  have hbox := (hg.block _ s.lt' (fun e => by have := (s.own.lt _ e.symm).1; have := s.lt; omega)).trans s.box
  refine ⟨A, c, rfl, hbox, s.lt, ?_, ?_, ?_⟩
  · have := heap_setCell_same w9 bx 1 _ _ (.slice A (G.e.length + 1) c) hbox
    show _ = some (Obj.cells #[.int .i64 G.n, .slice A (G.e ++ [x]).length c] _ _)
    rw [List.length_append]
    simpa using this
  · show World.ownsRow _ _ _ _ (.slice A (G.e ++ [x]).length c) (G.e ++ [x]).length ((flE (G.e ++ [x])).map (Value.int .i64))
    rw [List.length_append, flE_app, List.map_append]
    exact own_same own' fun k e => heap_setCell_other _ _ _ _ (by show k ≠ bx; have := (own'.lt k e).1; have := s.lt; omega)
  · have h9 : Kept bx (bx + 1) w5 w9 := ⟨hg.os.trans s.kept.os, hg.tape.trans s.kept.tape, hg.output.trans s.kept.output, Nat.le_trans s.kept.size hg.size,
      fun k hk hr => (hg.block k (Nat.lt_of_lt_of_le hk s.kept.size) (fun e => by have := (s.own.lt _ e.symm).1; omega)).trans (s.kept.block k hk hr)⟩
    exact ⟨h9.os, h9.tape, h9.output, by simpa using h9.size, fun k hk hr => (heap_setCell_other _ _ _ _ (by show k ≠ bx; omega)).trans (h9.block k hk hr)⟩
end
theorem givesGB_nil {w w' : World} (h : Below w.heap.size w w') : GivesGB w Gr.nil false (.returned (.tuple #[.agg #[.int .i64 0, .slice none 0 0], .bool false])) w' := ⟨⟨none, 0⟩, rfl, ⟨World.ownsRow_nil _ _ _ _, fun k hk => by cases hk⟩, h⟩
set_option maxRecDepth 100000 in
set_option maxHeartbeats 1000000 in
theorem graphOfNet_impl (h : NH) (N : Nt) (w : World) (r : RdN w w.heap.size h N) (sm : SmallN N) (ht : Arit w) (hu : Dual w) :
    Calls Tryd.prog 10 #[.agg #[.slice h.A N.w.length h.c, .slice h.L N.l.length h.d, .slice h.C N.c.length h.e]] w (GivesGB w (gnV N) (valN N)) := by
  obtain ⟨i3, hi3, hz3, hs3, hb3⟩ := info_partsE
  have HI := Lib.hid hi3; have HZ0 := Lib.hid hz3; have HZ1 := Lib.hid hs3; have HZ2 := Lib.hid hb3
  obtain ⟨w2, hw2⟩ : ∃ w2, w2 = (w.alloc (.cells #[.slice h.A N.w.length h.c, .slice h.L N.l.length h.d, .slice h.C N.c.length h.e] 35)).alloc (.cells #[.int .i64 0, .slice none 0 0] 30) := ⟨_, rfl⟩
  obtain ⟨hb, p0, p1, hsz⟩ := two_boxN w (.cells #[.slice h.A N.w.length h.c, .slice h.L N.l.length h.d, .slice h.C N.c.length h.e] 35) (.cells #[.int .i64 0, .slice none 0 0] 30)
  rw [← hw2] at hb p0 p1 hsz
  have HK := Lib.hid (fun (wx : World) (hx : Below w2.heap.size w2 wx) => And.intro (three_cells ((hx.block w.heap.size (by omega)).trans p0)) ((hx.block (w.heap.size + 1) (by omega)).trans p1))
  have HV := Lib.hid (validNet_impl h N w2 ((r.below hb).more hb.size) sm (ht.below hb ht.lt) (hu.below hb hu.lt))
  have HR := Lib.hid (fun (wx : World) (hx : Below w2.heap.size w2 wx) => show RdN wx wx.heap.size h N from (r.below (hb.trans (hx.mono hb.size))).more (Nat.le_trans hb.size hx.size))
  have HB := Lib.hid hb
  have HS2 : Hid (w2.heap.size = w.heap.size + 1 + 1) := Lib.hid hsz
  obtain ⟨y0, y1, y2⟩ := (HK.out _ (Below.refl _ _)).1
  clear hb p0 p1 hsz ht hu hi3 hz3 hs3 hb3
  cases hv : valN N with
  | false =>
    rw [hv] at HV
    rw [gnV_no hv]
    clear hv r
    go_enter Tryd.func10, Tryd.ntmps10
    go_wp2_with (fail)
    rw [← hw2]
    clear hw2
    refine HV.out.mono ?_
    rintro e w3 ⟨rfl, bel3⟩
    have q1 := (HK.out _ bel3).2
    obtain ⟨a0, a1⟩ := twE_cells q1
    have f0 := frozen_of_row _ _ 0 _ _ q1; have f1 := frozen_of_row _ _ 1 _ _ q1
    have HQ := Lib.hid (set2E_at q1 (.int .i64 0) (.slice none 0 0))
    have B3 := Lib.hid (HB.out.trans (bel3.mono HB.out.size))
    clear bel3 q1 y0 y1 y2
    go_wp2
    (try simp only [Exit.inBlock, Exit.then])
    refine bodyPost_ret (resCT rfl _ _ (w.heap.size + 1) _ _ (0, 0) _ rfl HQ.out Tryd.underlying30 rfl (by kernel_rfl)) rfl ?_
    exact givesGB_nil ((B3.out.setCell (p := ⟨w.heap.size + 1, 0, none⟩) (by show w.heap.size ≤ w.heap.size + 1; omega) _).setCell (p := ⟨w.heap.size + 1, 1, none⟩) (by show w.heap.size ≤ w.heap.size + 1; omega) _)
  | true =>
    rw [hv] at HV
    rw [gnV_yes hv]
    have HA := Lib.hid (fun (wx : World) (hx : Below w2.heap.size w2 wx) => arcsOf_any h N wx hv (HR.out _ hx))
    have HAI := Lib.hid (fun (a : Ac) (ha : a ∈ arcsU N N.w.length) => arcs_in ha)
    have hal : (arcsU N N.w.length).length ≤ 48 := by have h1 := (valN_size hv).1; have h2 := arcsU_len N N.w.length; omega
    have HAL := Lib.hid hal
    have hll := (valN_size hv).2
    clear hv hal r
    generalize arcsU N N.w.length = ar at *
    go_enter Tryd.func10, Tryd.ntmps10
    go_wp2_with (fail)
    rw [← hw2]
    clear hw2
    refine HV.out.mono ?_
    rintro e w3 ⟨rfl, bel3⟩
    have B3 := Lib.hid bel3
    clear bel3 y0 y1 y2 HV
    obtain ⟨y0, y1, y2⟩ := (HK.out _ B3.out).1
    go_upto_region 4 with (fail)
    obtain ⟨w4, hw4⟩ : ∃ w4, w4 = w3.alloc (.cells #[.int .i64 N.l.length, .slice none 0 0] 30) := ⟨_, rfl⟩
    have hb4 : Below w3.heap.size w3 w4 := by rw [hw4]; exact (Below.refl _ _).alloc (Nat.le_refl _) _
    have hg4 : w4.heap[w3.heap.size]? = some (.cells #[.int .i64 N.l.length, .slice none 0 0] 30 (0, 0)) := by rw [hw4]; exact heap_alloc_new _ _
    have hl4 : w3.heap.size < w4.heap.size := by rw [hw4]; simp
    rw [← hw4]
    have B4 := Lib.hid (B3.out.trans (hb4.mono B3.out.size))
    have HG4 := Lib.hid hg4; have HL4 := Lib.hid hl4
    clear hw4 y0 y1 y2 hg4 hb4 hl4
    obtain ⟨y0, y1, y2⟩ := (HK.out _ B4.out).1
    go_wp2_with (fail)
    refine (HA.out _ B4.out).mono ?_
    rintro e w5 ⟨A5, c5, rfl, own5, bel5⟩
    have B5 := Lib.hid (B4.out.trans (bel5.mono B4.out.size))
    have R5 := Lib.hid (RdA.of_own own5)
    have HST0 := Lib.hid (GnSt.start (nd := (N.l.length : Int)) (Nat.lt_of_lt_of_le HL4.out bel5.size) ((bel5.block _ HL4.out).trans HG4.out))
    have HL3 : Hid (w.heap.size + 1 < w3.heap.size) := Lib.hid (by have := HS2.out; have := B3.out.size; omega)
    have HAB : Hid (∀ q, (Value.slice A5 ar.length c5).ownBlock = some q → w4.heap.size ≤ q) := Lib.hid fun q e => (own5.lt q e).1
    have HSH : Hid (∀ b off, A5 = some ⟨b, off, none⟩ → 0 < ar.length → w4.heap.size ≤ b) := Lib.hid fun b off e hn => by
      obtain ⟨g, cap, hv, hlo, hhi⟩ := own5.form hn
      injection hv with e1 e2 e3
      rw [e] at e1
      injection e1 with e1
      injection e1 with e1
      omega
    clear bel5 own5 y0 y1 y2
    go_wp2
    go_loopw [19] (fun i wr => ∃ (j : Nat) (hh : GH), j ≤ ar.length ∧ i = .int .i64 j ∧ GnSt w3.heap.size w5 wr hh ⟨N.l.length, gnU N ar j⟩) (fun i _ => ar.length - (intOf i).toNat)
    case atStart => exact ⟨0, ⟨none, 0⟩, Nat.zero_le _, rfl, HST0.out⟩
    case round =>
      obtain ⟨j, hh, hj, rfl, hST⟩ := hrel
      have HST := Lib.hid hST
      clear hST HST0
      by_cases hlt : j < ar.length
      · obtain ⟨bA, oA, rfl, hbA, hcA⟩ := R5.out.at (by omega)
        obtain ⟨x0, x1, x2⟩ := hcA j hlt
        have hbn : bA ≠ w3.heap.size := by have := HSH.out bA oA rfl (by omega); have := HL4.out; omega
        have x0 := (HST.out.cell (p := ⟨bA, oA + j * 3, none⟩) hbA hbn).trans x0
        have x1 := (HST.out.cell (p := ⟨bA, oA + j * 3 + 1, none⟩) hbA hbn).trans x1
        have x2 := (HST.out.cell (p := ⟨bA, oA + j * 3 + 2, none⟩) hbA hbn).trans x2
        have hin := HAI.out (ar.getD j Ac.nil) (by simp [List.getD, hlt])
        have HTK := Lib.hid (gnU_succ (N := N) hlt)
        have HLEN : Hid ((gnU N ar j).length ≤ 48) := Lib.hid (Nat.le_trans (gnU_len N ar j) HAL.out)
        obtain ⟨⟨aw, af, at'⟩, ha⟩ : ∃ a, ar.getD j Ac.nil = a := ⟨_, rfl⟩
        rw [ha] at x0 x1 x2 hin HTK
        clear ha hcA hbn
        dsimp only at x0 x1 x2 hin
        obtain ⟨tn, rfl⟩ : ∃ tn : Nat, at' = tn := ⟨at'.toNat, by omega⟩
        have htn : tn < N.l.length := by omega
        have hji : (j : Int) < (ar.length : Int) := by omega
        have hti : (tn : Int) < (N.l.length : Int) := by omega
        clear hin
        go_upto_region 8 with (fail)
        obtain ⟨wA, hwA⟩ : ∃ u, u = (wr.alloc (.cells #[.int .i64 aw, .int .i64 af, .int .i64 tn] 59)).alloc (.cells #[.int .i64 af, .int .i64 tn, .int .i64 (-1)] 52) := ⟨_, rfl⟩
        obtain ⟨bA1, g0, g1, hsA⟩ := two_boxN wr (.cells #[.int .i64 aw, .int .i64 af, .int .i64 tn] 59) (.cells #[.int .i64 af, .int .i64 tn, .int .i64 (-1)] 52)
        rw [← hwA] at bA1 g0 g1 hsA ⊢
        have HBA := Lib.hid bA1
        have HG0 := Lib.hid g0; have HG1 := Lib.hid g1
        have HSA := Lib.hid hsA
        clear hwA bA1 g0 g1 hsA x0 x1 x2
        have SA := HST.out.below HBA.out
        have HWR : Hid (w5.heap.size ≤ wr.heap.size) := Lib.hid HST.out.kept.size
        have HOW : Hid (∀ k, (Value.slice hh.A (gnU N ar j).length hh.c).ownBlock = some k → k < wr.heap.size) := Lib.hid fun k e => (HST.out.own.lt k e).2
        have HSTA := Lib.hid SA
        clear SA HST
        have HL5 : Hid (w.heap.size < w5.heap.size ∧ w.heap.size ≠ w3.heap.size) := Lib.hid ⟨by have := HL3.out; have := B5.out.size; have := HS2.out; omega, by have := HL3.out; omega⟩
        obtain ⟨z0, z1, z2⟩ := (HK.out _ B5.out).1
        have y1 := (HSTA.out.cell (p := ⟨w.heap.size, 1, none⟩) HL5.out.1 HL5.out.2).trans z1
        clear z0 z1 z2
        obtain ⟨bL, oL, hLe, hbL, hcL⟩ := (HR.out _ (Below.refl _ _)).2.1.at (show 0 < N.l.length by omega)
        have k0 := (hcL tn htn).1
        have k0 := (B5.out.cell (p := ⟨bL, oL + tn * 4, none⟩) hbL).trans k0
        have k0 := (HSTA.out.cell (p := ⟨bL, oL + tn * 4, none⟩) (by show bL < _; have := B5.out.size; omega) (by show bL ≠ _; have := B3.out.size; omega)).trans k0
        rw [hLe] at y1
        obtain ⟨t0, t1, t2⟩ := th_cells HG0.out
        clear hcL hLe hbL
        obtain ⟨⟨kk, ka, kb, kc⟩, hkk⟩ : ∃ l, N.l.getD tn Lk.nil = l := ⟨_, rfl⟩
        rw [hkk] at k0
        dsimp only at k0
        by_cases hk4 : kk = 4
        · have hd : (kk == 4) = true := by simpa using hk4
          have HEX : Hid (edA N ⟨aw, af, tn⟩ = ⟨af, tn, tn⟩) := Lib.hid (by unfold edA; simp only [Int.toNat_natCast]; rw [hkk, if_pos hk4])
          clear hk4 hkk
          obtain ⟨e0, e1, e2⟩ := th_cells HG1.out
          have fz := frozen_of_row _ _ 2 _ _ HG1.out
          go_upto_region 10 with (fail)
          obtain ⟨wB, hwB⟩ : ∃ u, u = wA.setCell ⟨wr.heap.size + 1, 2, none⟩ (.int .i64 tn) := ⟨_, rfl⟩
          rw [← hwB]
          have HGB : Hid (wB.heap[wr.heap.size + 1]? = some (.cells #[.int .i64 af, .int .i64 tn, .int .i64 tn] 52 (0, 0))) := Lib.hid (by rw [hwB]; have := heap_setCell_same wA (wr.heap.size + 1) 2 _ _ (.int .i64 tn) HG1.out; simpa using this)
          have HBS : Hid (wA.heap.size = wB.heap.size) := Lib.hid (by rw [hwB]; simp)
          have HOB : Hid (∀ k, k ≠ wr.heap.size + 1 → wB.heap[k]? = wA.heap[k]?) := Lib.hid fun k hk => by rw [hwB]; exact heap_setCell_other _ _ _ _ hk
          have HSTB : Hid (GnSt w3.heap.size w5 wB hh ⟨N.l.length, gnU N ar j⟩) := Lib.hid ⟨HSTA.out.lt, (HOB.out _ (by have := HSTA.out.lt; have := HWR.out; omega)).trans HSTA.out.box, own_same HSTA.out.own fun k e => HOB.out k (by have := HOW.out k e; omega), ⟨by rw [hwB]; exact HSTA.out.kept.os, by rw [hwB]; exact HSTA.out.kept.tape, by rw [hwB]; exact HSTA.out.kept.output, by rw [← HBS.out]; exact HSTA.out.kept.size, fun k hk hr => (HOB.out k (by have := HWR.out; omega)).trans (HSTA.out.kept.block k hk hr)⟩⟩
          clear hwB e0 e1 e2 fz
          have hs1 := HSTB.out.box
          obtain ⟨b0, b1⟩ := twE_cells hs1
          obtain ⟨e0, e1, e2⟩ := th_cells HGB.out
          have hlen := HLEN.out
          have hal := HAL.out
          have HOA := Lib.hid (HSTB.out.below ((Below.refl _ wB).alloc (Nat.le_refl _) (.cells #[.int .i64 af, .int .i64 tn, .int .i64 tn] 52)))
          have HW : Hid (w5.heap.size ≤ wB.heap.size) := Lib.hid HSTB.out.kept.size
          clear hs1
          dsimp only at b0 b1
          go_wp2_with (at_builtin; refine wpList_append_own _ rfl _ _ 28 rfl w5.heap.size 52 i3 (.agg #[.int .i64 0, .int .i64 0, .int .i64 0]) 3 24 Tryd.underlying28 HI.out HZ0.out HZ1.out HZ2.out rfl (by decide) _ _ _ rfl HOA.out.own ⟨wB.heap.size, 0, none⟩ 1 1 [.int .i64 af, .int .i64 tn, .int .i64 tn] rfl rfl ?c1 ?c2 ?c3 ?c4 ?c5 ?_)
          case c1 => exact thE_new _ _ _ _ _
          case c2 => intro u hu; simp at hu; rcases hu with rfl | rfl | rfl <;> rfl
          case c3 => simp only [maxLen]; omega
          case c4 => omega
          case c5 => have := HW.out; simp; omega
          intro v' w9 hown' hgrow _
          obtain ⟨A9, c9, rfl, hbx9, hst9⟩ := HOA.out.grown (x := ⟨af, tn, tn⟩) hown' hgrow
          obtain ⟨d0, d1⟩ := twE_cells hbx9
          have f1 := frozen_of_row _ _ 1 _ _ hbx9
          have HST9 := Lib.hid hst9
          clear hown' hgrow hbx9 hst9 b0 b1 e0 e1 e2 y1 t0 t1 t2 k0
          dsimp only at d0 d1
          go_wp2
          go_roundw
          case rel => exact ⟨j + 1, ⟨A9, c9⟩, by omega, by go_num, by rw [HTK.out, HEX.out]; exact HST9.out⟩
          case measure => simp [intOf]; omega
        · have hd : (kk == 4) = false := by simpa using hk4
          have HEX : Hid (edA N ⟨aw, af, tn⟩ = ⟨af, tn, -1⟩) := Lib.hid (by unfold edA; simp only [Int.toNat_natCast]; rw [hkk, if_neg hk4])
          clear hk4 hkk
          go_upto_region 10 with (fail)
          have HGB := HG1; have HSTB := HSTA
          obtain ⟨wB, hwB⟩ : ∃ u, u = wA := ⟨_, rfl⟩
          rw [← hwB] at HGB HSTB ⊢
          clear hwB
          have hs1 := HSTB.out.box
          obtain ⟨b0, b1⟩ := twE_cells hs1
          obtain ⟨e0, e1, e2⟩ := th_cells HGB.out
          have hlen := HLEN.out
          have hal := HAL.out
          have HOA := Lib.hid (HSTB.out.below ((Below.refl _ wB).alloc (Nat.le_refl _) (.cells #[.int .i64 af, .int .i64 tn, .int .i64 (-1)] 52)))
          have HW : Hid (w5.heap.size ≤ wB.heap.size) := Lib.hid HSTB.out.kept.size
          clear hs1
          dsimp only at b0 b1
          go_wp2_with (at_builtin; refine wpList_append_own _ rfl _ _ 28 rfl w5.heap.size 52 i3 (.agg #[.int .i64 0, .int .i64 0, .int .i64 0]) 3 24 Tryd.underlying28 HI.out HZ0.out HZ1.out HZ2.out rfl (by decide) _ _ _ rfl HOA.out.own ⟨wB.heap.size, 0, none⟩ 1 1 [.int .i64 af, .int .i64 tn, .int .i64 (-1)] rfl rfl ?c1 ?c2 ?c3 ?c4 ?c5 ?_)
          case c1 => exact thE_new _ _ _ _ _
          case c2 => intro u hu; simp at hu; rcases hu with rfl | rfl | rfl <;> rfl
          case c3 => simp only [maxLen]; omega
          case c4 => omega
          case c5 => have := HW.out; simp; omega
          intro v' w9 hown' hgrow _
          obtain ⟨A9, c9, rfl, hbx9, hst9⟩ := HOA.out.grown (x := ⟨af, tn, (-1)⟩) hown' hgrow
          obtain ⟨d0, d1⟩ := twE_cells hbx9
          have f1 := frozen_of_row _ _ 1 _ _ hbx9
          have HST9 := Lib.hid hst9
          clear hown' hgrow hbx9 hst9 b0 b1 e0 e1 e2 y1 t0 t1 t2 k0
          dsimp only at d0 d1
          go_wp2
          go_roundw
          case rel => exact ⟨j + 1, ⟨A9, c9⟩, by omega, by go_num, by rw [HTK.out, HEX.out]; exact HST9.out⟩
          case measure => simp [intOf]; omega
      · have hjl : j = ar.length := by omega
        subst hjl
        have hs1 := HST.out.box
        have hbx := (twE_cells hs1)
        obtain ⟨b0, b1⟩ := hbx
        have hrb := (HST.out.kept.block (w.heap.size + 1) (by have := HL3.out; have := B5.out.size; have := B3.out.size; have := HS2.out; omega) (by have := HL3.out; omega)).trans (HK.out _ B5.out).2
        obtain ⟨z0, z1⟩ := twE_cells hrb
        have f0 := frozen_of_row _ _ 0 _ _ hrb; have f1 := frozen_of_row _ _ 1 _ _ hrb
        have HF := Lib.hid (set2E_at hrb (.int .i64 N.l.length) (.slice hh.A (gnU N ar ar.length).length hh.c))
        have ho := HST.out.own
        have HO : Hid (OwnG wr w5.heap.size wr.heap.size hh ⟨N.l.length, gnU N ar ar.length⟩) := Lib.hid (OwnG.of_own ho)
        have HBB : Hid (Below w.heap.size w wr) := Lib.hid (HST.out.kept.to_below (HB.out.trans (B5.out.mono HB.out.size)) (by have := HL3.out; omega) (by have := HB.out.size; have := B5.out.size; omega))
        have HW5 : Hid (w.heap.size + 1 < w5.heap.size) := Lib.hid (by have := HS2.out; have := B5.out.size; omega)
        clear hs1 hrb ho
        go_wp2
        (try simp only [Exit.inBlock, Exit.then])
        refine bodyPost_ret (resCT rfl _ _ (w.heap.size + 1) _ _ (0, 0) _ rfl HF.out Tryd.underlying30 rfl (by kernel_rfl)) rfl ?_
        exact ⟨hh, rfl, ((HO.out.set HW5.out _).set HW5.out _).more (by have := HW5.out; omega) (by simp), (HBB.out.setCell (p := ⟨w.heap.size + 1, 0, none⟩) (by show w.heap.size ≤ w.heap.size + 1; omega) _).setCell (p := ⟨w.heap.size + 1, 1, none⟩) (by show w.heap.size ≤ w.heap.size + 1; omega) _⟩
end Go.Proofs.YtlcapifgpcimpaaDoor
