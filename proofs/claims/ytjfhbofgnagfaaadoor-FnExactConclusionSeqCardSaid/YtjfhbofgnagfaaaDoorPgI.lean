/- The program's ConclusionSeq. -/
import Derived.Test.YtjfhbofgnagfaaaDoorPgG
import Derived.Test.YtjfhbofgnagfaaaDoorNetQ
import Derived.Test.YtjfhbofgnagfaaaDoorNetO
namespace Go.Proofs.YtjfhbofgnagfaaaDoor
set_option linter.unusedSimpArgs false
set_option linter.unusedVariables false
open Go.ChangeAt Go.ChangeShapes Go.RowKit Go.WideShapes

set_option maxRecDepth 100000 in
set_option maxHeartbeats 4000000 in
theorem conclusionSeq_impl (h : NH) (N : Nt) (w : World) (r : RdN w w.heap.size h N) (sm : SmallN N) (ht : Arit w) (hu : Dual w) :
    Calls Tryd.prog 31 #[.agg #[.slice h.A N.w.length h.c, .slice h.L N.l.length h.d, .slice h.C N.c.length h.e]] w (GivesSeqB w (cqL N) (cqB N)) := by
  obtain ⟨i0, hi0, hz0, hz1, hz2⟩ := info_parts_s
  have HI := Lib.hid hi0; have HZ0 := Lib.hid hz0; have HZ1 := Lib.hid hz1; have HZ2 := Lib.hid hz2
  obtain ⟨w3, hw3⟩ : ∃ w3, w3 = (w.alloc (.cells #[.slice h.A N.w.length h.c, .slice h.L N.l.length h.d, .slice h.C N.c.length h.e] 28)).alloc (.cells #[.slice none 0 0] 51) := ⟨_, rfl⟩
  obtain ⟨hb, g0, g1, hsz⟩ := two_any' w (.cells #[.slice h.A N.w.length h.c, .slice h.L N.l.length h.d, .slice h.C N.c.length h.e] 28) (.cells #[.slice none 0 0] 51)
  rw [← hw3] at hb g0 g1 hsz
  obtain ⟨y0, y1, y2⟩ := three_cells g0
  have hs3 : w.heap.size + 2 ≤ w3.heap.size := by omega
  have G0 := Lib.hid g0; have G1 := Lib.hid g1
  have HV := Lib.hid (validNet_impl h N w3 ((r.below hb).more hb.size) sm (ht.below hb ht.lt) (hu.below hb hu.lt))
  have HR := Lib.hid r
  have HB0 := Lib.hid hb
  have HT := Lib.hid ht
  clear hb hsz r hi0 hz0 hz1 hz2 g0 g1 hu sm
  cases hv : valN N with
  | false =>
    have hs := cqB_no hv
    have HN := Lib.hid (And.intro (cqL_no hs) hs)
    rw [hv] at HV
    clear hv hs
    go_enter Tryd.func31, Tryd.ntmps31
    go_wp2_with (fail)
    rw [← hw3]
    clear hw3
    refine HV.out.mono ?_
    rintro e w4 ⟨rfl, bel⟩
    have q7 := (bel.block (w.heap.size + 1) (by omega)).trans G1.out
    have x0 := cell_of_row _ _ 0 _ _ (0, 0) q7; have x1 := frozen_of_row _ _ 0 _ _ q7
    have HB7 := Lib.hid ((HB0.out.trans (bel.mono HB0.out.size)).setCell (p := ⟨w.heap.size + 1, 0, none⟩) (by show w.heap.size ≤ w.heap.size + 1; omega) (.slice none 0 0))
    have H7 := Lib.hid (cell_set (u := .slice none 0 0) q7)
    clear q7 bel y0 y1 y2
    go_wp2
    (try simp only [Exit.inBlock, Exit.then])
    refine bodyPost_ret (results_cell_row_tmp rfl _ _ (w.heap.size + 1) _ _ (0, 0) _ rfl H7.out Tryd.underlying51 rfl (by kernel_rfl)) rfl ?_
    exact gSeqB_mk (hs := fun _ => (none, 0)) rfl (OwnQ.nil _ _ _ _) HB7.out HN.out.1.symm HN.out.2.symm
  | true =>
    rw [hv] at HV
    have his := cqB_is hv
    have hcl := valN_conc_le hv
    have hws := (valN_size hv).1
    have HIN := Lib.hid (fun k (hk : k < N.c.length) => all_at (d := 0) (valN_concl hv) hk)
    have HFV := Lib.hid (fun x (hx : inW N.w.length x = true) => formN_valid (wAt_valid (valN_forms hv) hx))
    clear hv
    go_enter Tryd.func31, Tryd.ntmps31
    go_wp2_with (fail)
    rw [← hw3]
    clear hw3
    refine HV.out.mono ?_
    rintro e w4 ⟨rfl, bel⟩
    obtain ⟨w5, hw5⟩ : ∃ w5, w5 = w4.alloc (.cells #[.slice none 0 0] 51) := ⟨_, rfl⟩
    have bx : Below w4.heap.size w4 w5 := by rw [hw5]; exact (Below.refl _ _).alloc (Nat.le_refl _) _
    have p5 : w5.heap[w4.heap.size]? = some (.cells #[.slice none 0 0] 51 (0, 0)) := by rw [hw5]; exact heap_alloc_new _ _
    have s5 : w4.heap.size < w5.heap.size := by rw [hw5]; simp
    have hs5 := bel.size
    have Q5 := Lib.hid ((bx.block (w.heap.size + 1) (by omega)).trans ((bel.block (w.heap.size + 1) (by omega)).trans G1.out))
    have R5 := Lib.hid ((bx.block w.heap.size (by omega)).trans ((bel.block w.heap.size (by omega)).trans G0.out))
    have HB5 := Lib.hid (HB0.out.trans ((bel.trans (bx.mono hs5)).mono HB0.out.size))
    clear y0 y1 y2
    obtain ⟨y0, y1, y2⟩ := three_cells R5.out
    have HW5 := Lib.hid hw5
    rw [hw5] at y0 y1 y2
    obtain ⟨b6, hb6'⟩ : ∃ b6, w4.heap.size = b6 := ⟨_, rfl⟩
    have hb01 : w.heap.size + 1 < b6 := by omega
    rw [hb6'] at p5 s5
    have hb65 : b6 < w5.heap.size := s5
    have P5 := Lib.hid p5
    have HB6' := Lib.hid hb6'
    clear bel bx p5 s5 hs5 hw5 hb6'
    go_wp2
    rw [HB6'.out, ← HW5.out]
    clear HB6' HW5 y0 y1 y2
    go_loopw [14] (fun i wr => ∃ (k : Nat) (hs : Nat → Option Addr × Nat) (A2 : Option Addr) (c2 : Nat), k ≤ N.c.length ∧ i = .int .i64 k ∧ wr.heap[b6]? = some (.cells #[.slice A2 k c2] 51 (0, 0)) ∧
      OwnQ wr w5.heap.size wr.heap.size (.slice A2 k c2) hs ((N.c.take k).map (wAt N.w)) ∧ Below b6 w5 wr) (fun i _ => N.c.length - (intOf i).toNat)
    case atStart => exact ⟨0, fun _ => (none, 0), none, 0, Nat.zero_le _, rfl, P5.out, OwnQ.nil _ _ _ _, Below.refl _ _⟩
    case round =>
      obtain ⟨k, hs, A2, c2, hk, rfl, hb6, hown, hbl⟩ := hrel
      have hsr := hbl.size
      have k1 := cell_of_row _ _ 0 _ _ (0, 0) hb6
      obtain ⟨y0, y1, y2⟩ := three_cells ((hbl.block w.heap.size (by omega)).trans R5.out)
      have q6 := (hbl.block (w.heap.size + 1) (by omega)).trans Q5.out
      have HBW := Lib.hid (HB5.out.trans (hbl.mono (by omega)))
      have HLEN : Hid (((N.c.take k).map (wAt N.w)).length = k) := Lib.hid (by rw [List.length_map, List.length_take]; omega)
      by_cases hlt : k < N.c.length
      · have hin := HIN.out k hlt
        obtain ⟨bc, offc, hC, hbc, hcc⟩ := HR.out.2.2.2 (by omega)
        have kc := (HBW.out.cell (p := ⟨bc, offc + k, none⟩) hbc).trans (hcc k hlt)
        have hfv := HFV.out _ hin
        have hnx := mapW_take (ws := N.w) hlt
        obtain ⟨z, hz⟩ : ∃ z, N.c.getD k 0 = z := ⟨_, rfl⟩
        rw [hz] at kc hin hfv hnx
        obtain ⟨_, hix, ez⟩ := inW_yes hin
        obtain ⟨bw, offw, hA, hbw, hcw⟩ := HR.out.1.2 (by omega)
        obtain ⟨A', c', hcell, hcc', hrd⟩ := hcw z.toNat hix
        have kw := (HBW.out.cell (p := ⟨bw, offw + z.toNat, none⟩) hbw).trans hcell
        rw [hC] at y2
        rw [hA] at y0
        rw [show wAt N.w z = N.w.getD z.toNat [] from rfl] at hfv hnx
        have hlz := (valid_len hfv).1
        have hlz2 := (valid_len hfv).2.1
        have HD := Lib.hid (clone_any (.slice A' (N.w.getD z.toNat []).length c') (N.w.getD z.toNat []) wr.drew (Part.of_rd ((hrd.below HBW.out).more HBW.out.size) (by omega)) (by omega))
        generalize N.w.getD z.toNat [] = dq at *
        generalize z.toNat = iz at *
        subst ez
        have HNX := Lib.hid hnx
        have HO := Lib.hid hown; have HB6 := Lib.hid hb6; have HBL := Lib.hid hbl; have HCC := Lib.hid hC; have HAA := Lib.hid hA
        clear hown hb6 hbl hcell hrd q6 hC hA hcc hcw hz hin hfv hnx
        (try rw [HCC.out])
        go_wp2_with (fail)
        go_region_law
          (first
            | (go_simp
               go_at_call 84
               refine HD.out.mono ?_
               rintro e w6 ⟨A6, c6, rfl, own6, bel6'⟩
               have bel6 := undrew bel6'
               obtain ⟨o6, n6, bs6⟩ := push_in (A6 := A6) (c6 := c6) (dq := dq) HO.out HLEN.out (by omega) bel6
               have O6 := Lib.hid o6
               have N6 := Lib.hid n6
               have BS6 := Lib.hid bs6
               have k1' := (bel6.cell (p := ⟨b6, 0, none⟩) (by show b6 < _; omega)).trans k1
               have hx6 := bel6.trans ((box_below w6 (.slice A6 dq.length c6) 26).mono bel6.size)
               have k1'' := (hx6.cell (p := ⟨b6, 0, none⟩) (by show b6 < _; omega)).trans k1
               have OW6 := Lib.hid own6
               have BE6 := Lib.hid bel6
               clear own6 bel6 bel6' o6 n6 bs6 hx6
               dsimp only)
            | (refine step_append_lies _ rfl _ _ _ rfl _ 26 i0 (.slice none 0 0) 1 24 Tryd.underlying24 HI.out HZ0.out HZ1.out HZ2.out rfl (by decide) _ _ _ rfl O6.out ⟨w6.heap.size, 0, none⟩ 1 1 [.slice A6 dq.length c6] rfl rfl N6.out (by simp [Value.oneCell']) (by decide) (by simp only [maxLen]; omega) (by omega) BS6.out _ rfl ?_
               intro g cap w7 hown7 hgrow7 hat7 hlt7
               obtain ⟨cl7, hf7, F1, F2, F3⟩ := push_out HO.out HLEN.out (by omega) (by omega) HBL.out HB6.out BE6.out OW6.out hown7 hgrow7 hat7
               have hk8 := (cl7 ⟨b6, 0, none⟩ (by show b6 < _; omega)).trans k1
               rw [HNX.out] at F2
               have G1 := Lib.hid F1
               have G2 := Lib.hid F2
               have G3 := Lib.hid F3
               clear hown7 hgrow7 hat7 cl7 F1 F2 F3))
        all_goals
          go_wp2
          go_roundw
          case rel => exact ⟨k + 1, _, _, _, by omega, by go_num, G1.out, G2.out, G3.out⟩
          case measure => simp [intOf]; omega
      · have hkl : k = N.c.length := by omega
        subst hkl
        rw [List.take_of_length_le (Nat.le_refl _)] at hown HLEN
        have hcap : N.c.length ≤ c2 := by
          have := hown.outer
          rw [HLEN.out] at this
          exact (own_cap this).1
        have HVS := Lib.hid (validSeq_impl A2 N.c.length c2 (cfL N) wr (hown.rd HLEN.out) (by unfold maxLen; omega) (HT.out.below HBW.out HT.out.lt))
        have HO := Lib.hid hown; have HB6 := Lib.hid hb6; have HBL := Lib.hid hbl; have Q6 := Lib.hid q6
        clear hown hb6 hbl q6
        cases hvv : validQ (cfL N) with
        | false =>
          rw [hvv] at HVS his
          have HN := Lib.hid (And.intro (cqL_no his) his)
          clear his hvv
          go_wp2_with (fail)
          refine HVS.out.mono ?_
          rintro e w7 ⟨rfl, bel7⟩
          have q7 := (bel7.block (w.heap.size + 1) (by omega)).trans Q6.out
          have x0 := cell_of_row _ _ 0 _ _ (0, 0) q7; have x1 := frozen_of_row _ _ 0 _ _ q7
          have HB7 := Lib.hid ((HBW.out.trans (bel7.mono HBW.out.size)).setCell (p := ⟨w.heap.size + 1, 0, none⟩) (by show w.heap.size ≤ w.heap.size + 1; omega) (.slice none 0 0))
          have H7 := Lib.hid (cell_set (u := .slice none 0 0) q7)
          clear q7 bel7
          go_wp2
          (try simp only [Exit.inBlock, Exit.then])
          refine bodyPost_ret (results_cell_row_tmp rfl _ _ (w.heap.size + 1) _ _ (0, 0) _ rfl H7.out Tryd.underlying51 rfl (by kernel_rfl)) rfl ?_
          exact gSeqB_mk (hs := fun _ => (none, 0)) rfl (OwnQ.nil _ _ _ _) HB7.out HN.out.1.symm HN.out.2.symm
        | true =>
          rw [hvv] at HVS his
          have HN := Lib.hid (And.intro (cqL_yes his) his)
          clear his hvv
          go_wp2_with (fail)
          refine HVS.out.mono ?_
          rintro e w7 ⟨rfl, bel7⟩
          have q7 := (bel7.block (w.heap.size + 1) (by omega)).trans Q6.out
          have p7 := (bel7.block b6 (by omega)).trans HB6.out
          have x0 := cell_of_row _ _ 0 _ _ (0, 0) q7; have x1 := frozen_of_row _ _ 0 _ _ q7
          have x2 := cell_of_row _ _ 0 _ _ (0, 0) p7
          obtain ⟨h7, o7, b7⟩ := seq_out2 (HBW.out.trans (bel7.mono HBW.out.size)) (b := w.heap.size + 1) (by omega) (show w.heap.size + 1 < w5.heap.size by omega) q7 ((HO.out.below bel7).more (Nat.le_refl _) bel7.size)
          have H7 := Lib.hid h7; have O7 := Lib.hid o7; have B7 := Lib.hid b7
          clear q7 p7 h7 o7 b7 bel7
          go_wp2
          (try simp only [Exit.inBlock, Exit.then])
          refine bodyPost_ret (results_cell_row_tmp rfl _ _ (w.heap.size + 1) _ _ (0, 0) _ rfl H7.out Tryd.underlying51 rfl (by kernel_rfl)) rfl ?_
          exact gSeqB_mk HLEN.out O7.out B7.out HN.out.1.symm HN.out.2.symm
end Go.Proofs.YtjfhbofgnagfaaaDoor
