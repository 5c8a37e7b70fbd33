/- The program's MatesOf. -/
import Derived.Test.YtfanapddopafiaaDoorMaN
import Derived.Test.YtfanapddopafiaaDoorLwQ
import Derived.Test.YtfanapddopafiaaDoorAtP
import Derived.BigQuiet
namespace Go.Proofs.YtfanapddopafiaaDoor
set_option linter.unusedSimpArgs false
set_option linter.unusedVariables false
open Go.ChangeAt Go.ChangeShapes Go.RowKit Go.WideShapes

theorem idx_first {L : List Int} {x : Int} {k : Nat} (hk : k < L.length) (hno : ∀ j, j < k → L.getD j 0 ≠ x) (h : L.getD k 0 = x) : L.idxOf x = k := by
  unfold List.idxOf
  rw [List.findIdx_eq hk]
  refine ⟨by rw [getD_ix hk] at h; simp [h], fun j hj => ?_⟩
  have := hno j hj
  rw [getD_ix (by omega)] at this
  simpa using this
set_option maxHeartbeats 1000000 in
theorem indexX_any (A : Option Addr) (n c : Nat) (L : List Int) (x : Int) (w : World) (h : RdI w w.heap.size A n L) (hn : n ≤ 1048576) (hx : x ∈ L) :
    Calls Tryd.prog 55 #[.slice A n c, .int .i64 x] w fun e w' => e = .returned (.int .i64 (L.idxOf x : Nat)) ∧ w' = w := by
  have hl := h.len
  subst hl
  have H := Lib.hid h
  have HX := Lib.hid hx
  clear h hx
  go_enter Tryd.func55, Tryd.ntmps55
  go_wp2
  go_loopw [8] (fun i wr => ∃ k : Nat, k ≤ L.length ∧ i = .int .i64 k ∧ (∀ j, j < k → L.getD j 0 ≠ x) ∧ wr = w) (fun i _ => L.length - (intOf i).toNat)
  case atStart => exact ⟨0, Nat.zero_le _, rfl, fun j hj => absurd hj (by omega), rfl⟩
  case round =>
    obtain ⟨k, hk, rfl, hno, rfl⟩ := hrel
    by_cases hlt : k < L.length
    · have hd : decide ((k : Int) < (L.length : Int)) = true := decide_eq_true (by omega)
      obtain ⟨b, off, rfl, hbb, hcells⟩ := H.out.2 (by omega)
      have hc := hcells k hlt
      have HF := Lib.hid (fun e => idx_first hlt hno e)
      have HNO := Lib.hid hno
      generalize hy : L.getD k 0 = y at *
      have HY := Lib.hid hy
      clear hcells hy hno
      by_cases hxy : x = y
      · have he : (x == y) = true := by simpa using hxy
        have HE := Lib.hid (HF.out hxy.symm)
        clear hxy
        go_wp2
        go_ret
        exact ⟨ret_i64 (congrArg (fun n : Nat => (n : Int)) HE.out.symm), rfl⟩
      · have he : (x == y) = false := by simpa using hxy
        have HXY := Lib.hid hxy
        clear hxy
        go_wp2
        go_roundw
        case rel => exact ⟨k + 1, by omega, by go_num, fun j hj => by
          rcases Nat.lt_or_ge j k with h1 | h1
          · exact HNO.out j h1
          · obtain rfl : j = k := by omega
            rw [HY.out]; exact fun e => HXY.out e.symm, trivial⟩
        case measure => simp [intOf]; omega
    · have hkl : k = L.length := by omega
      subst hkl
      exfalso
      obtain ⟨j, hj, e⟩ := List.mem_iff_getElem.1 HX.out
      exact hno j hj (by simp [List.getD, hj, e])
theorem made1w (m : Nat) : (madeCells #[Value.int .i64 0] (m * 1)).toList = (List.replicate m 0).map (Value.int .i64) := by
  apply List.ext_getElem?
  intro j
  by_cases hj : j < m
  · have : j % 1 = 0 := by omega
    simp [madeCells, hj, this]
  · simp [madeCells, hj]
theorem made_ints (w : World) (n : Nat) (hn : n ≤ 1048576) : (w.alloc (.cells (madeCells #[Value.int .i64 0] (n * 1)) 2)).ownsRow w.heap.size 2 1 (.slice (some ⟨w.heap.size, 0, none⟩) n n) n ((List.replicate n 0).map (Value.int .i64)) := by
  have hz : (madeCells #[Value.int .i64 0] (n * 1)).size = n * 1 := by simp [madeCells]
  have := own_lit (w := w) (base := w.heap.size) (n := n) (size := 1) (e := 2) (madeCells #[Value.int .i64 0] (n * 1)) (Nat.le_refl _) (by unfold maxLen; omega) hz
  rw [made1w] at this
  exact this
theorem givesB_no {w w' : World} {N : Nt} (h : maB N = false) (hb : Below w.heap.size w w') : GivesB w (maV N) (maB N) (.returned (.tuple #[.slice none 0 0, .bool false])) w' := by
  rw [maV_no h, h]
  exact ⟨none, 0, rfl, World.ownsRow_nil _ _ _ _, hb⟩

set_option maxRecDepth 100000 in
set_option maxHeartbeats 2000000 in
theorem matesOf_impl (h : NH) (N : Nt) (w : World) (r : RdN w w.heap.size h N) (sm : SmallN N) (ht : Arit w) (hu : Dual w) :
    Calls Tryd.prog 20 #[.agg #[.slice h.A N.w.length h.c, .slice h.L N.l.length h.d, .slice h.C N.c.length h.e]] w (GivesB w (maV N) (maB N)) := by
  obtain ⟨i0, hi0, hz0, hz1, hz2⟩ := info_parts info_i64
  obtain ⟨w0, hw0⟩ : ∃ w0, w0 = w.alloc (.cells #[.slice h.A N.w.length h.c, .slice h.L N.l.length h.d, .slice h.C N.c.length h.e] 31) := ⟨_, rfl⟩
  obtain ⟨hb, hh, hsz⟩ := box3_any w (.slice h.A N.w.length h.c) (.slice h.L N.l.length h.d) (.slice h.C N.c.length h.e) 31
  rw [← hw0] at hb hh hsz
  have HK : Hid (∀ w', Below w0.heap.size w0 w' → w'.cell? ⟨w.heap.size, 0, none⟩ = some (.slice h.A N.w.length h.c) ∧ w'.cell? ⟨w.heap.size, 1, none⟩ = some (.slice h.L N.l.length h.d) ∧ w'.cell? ⟨w.heap.size, 2, none⟩ = some (.slice h.C N.c.length h.e)) := Lib.hid fun w' hw => three_cells ((hw.block _ (by omega)).trans hh)
  have HR := Lib.hid (fun (w' : World) (hw : Below w0.heap.size w0 w') => show RdN w' w'.heap.size h N from ((r.below (hb.trans (hw.mono hb.size))).more (Nat.le_trans hb.size hw.size)))
  have HT := Lib.hid (fun (wx : World) (hx : Below w0.heap.size w0 wx) => show Arit wx from (ht.below hb ht.lt).below hx (Nat.lt_of_lt_of_le ht.lt hb.size))
  have HU := Lib.hid (fun (wx : World) (hx : Below w0.heap.size w0 wx) => show Dual wx from (hu.below hb hu.lt).below hx (Nat.lt_of_lt_of_le hu.lt hb.size))
  have SM := Lib.hid sm
  have HC := Lib.hid (conclusionSeq_impl h N w0 (HR.out _ (Below.refl _ _)) sm (HT.out _ (Below.refl _ _)) (HU.out _ (Below.refl _ _)))
  have HB0 := Lib.hid hb
  have mk2 : ∀ (n : Nat), n ≤ 1048576 → ∀ wx : World, (Instr.makeSlice 24 (.int .i64 (n : Nat)) (.int .i64 (n : Nat))).run Tryd.prog wx = .ok (.slice (some ⟨wx.heap.size, 0, none⟩) n n) (wx.alloc (.cells (madeCells #[Value.int .i64 0] (n * 1)) 2)) := fun n hn wx => by
    have hr := run_make (P := Tryd.prog) wx 24 2 i0 (.int .i64 0) Tryd.underlying24 hi0 hz0 .i64 .i64 n n (by omega) (Int.le_refl _) (by rw [hz2]; omega) (by omega)
    simp only [Int.toNat_natCast, hz1] at hr
    exact hr
  have MK := Lib.hid mk2
  obtain ⟨y0, y1, y2⟩ := three_cells hh
  clear hb hh hsz r ht hu sm hi0 hz0 hz1 hz2 mk2
  go_enter Tryd.func20, Tryd.ntmps20
  go_upto_region 1 with (fail)
  rw [← hw0]
  clear hw0
  go_wp2_with (fail)
  refine HC.out.mono ?_
  rintro e w1 ⟨hs, A, c, rfl, own1, bel1⟩
  have hb2 : Below w1.heap.size w1 (w1.alloc (.cells #[.slice A (cqL N).length c] 47)) := (Below.refl _ _).alloc (Nat.le_refl _) _
  obtain ⟨w2, hw2⟩ : ∃ w2, w2 = w1.alloc (.cells #[.slice A (cqL N).length c] 47) := ⟨_, rfl⟩
  rw [← hw2] at hb2
  have HB2 := Lib.hid (bel1.trans (hb2.mono bel1.size))
  clear own1 bel1 hb2 y0 y1 y2
  go_upto_region 2 with (fail)
  rw [← hw2]
  clear hw2
  cases hcq : cqB N with
  | false =>
    have HG := Lib.hid (givesB_no (maB_c hcq) (HB0.out.trans (HB2.out.mono HB0.out.size)))
    clear hcq
    go_wp2
    go_ret2
    exact HG.out
  | true =>
    obtain ⟨y0, y1, y2⟩ := HK.out _ HB2.out
    have HA := Lib.hid (atomicNet_impl h N w2 (HR.out _ HB2.out) SM.out (HT.out _ HB2.out) (HU.out _ HB2.out))
    cases hat : atN N with
    | false =>
      rw [hat] at HA
      have HMB := Lib.hid (maB_a hat)
      clear hcq hat
      go_wp2_with (fail)
      refine HA.out.mono ?_
      rintro e w3 ⟨rfl, bel3⟩
      have HG := Lib.hid (givesB_no HMB.out (HB0.out.trans ((HB2.out.trans (bel3.mono HB2.out.size)).mono HB0.out.size)))
      clear bel3 y0 y1 y2
      go_wp2
      go_ret2
      exact HG.out
    | true =>
      rw [hat] at HA
      have HCQ := Lib.hid hcq; have HAT := Lib.hid hat
      clear hcq hat
      go_wp2_with (fail)
      refine HA.out.mono ?_
      rintro e w3 ⟨rfl, bel3⟩
      have HB3 := Lib.hid (HB2.out.trans (bel3.mono HB2.out.size))
      clear bel3 y0 y1 y2
      obtain ⟨y0, y1, y2⟩ := HK.out _ HB3.out
      have HLK := Lib.hid (linksOfKind_impl h N 2 w3 (HR.out _ HB3.out) SM.out (HT.out _ HB3.out) (HU.out _ HB3.out))
      go_wp2_with (fail)
      refine HLK.out.mono ?_
      rintro e w4 ⟨A4, c4, rfl, own4, bel4⟩
      have HB4 := Lib.hid (HB3.out.trans (bel4.mono HB3.out.size))
      clear own4 bel4 y0 y1 y2
      by_cases hk0 : (kinN N 2).length = 0
      · have hv := atN_valid HAT.out
        have HVT := Lib.hid hv
        have HNC := Lib.hid (nocut_of hv hk0)
        have HMB := Lib.hid (maB_yes HCQ.out HAT.out hk0)
        have h48 := (valN_size hv).2
        rw [hk0]
        clear hk0 hv
        obtain ⟨y0, y1, y2⟩ := HK.out _ HB4.out
        have HLW := Lib.hid (leafWires_impl h N w4 (HR.out _ HB4.out) SM.out (HT.out _ HB4.out) (HU.out _ HB4.out))
        go_wp2_with (fail)
        refine HLW.out.mono ?_
        rintro e w5 ⟨A5, c5, rfl, own5, bel5⟩
        have HB5 := Lib.hid (HB4.out.trans (bel5.mono HB4.out.size))
        have HRL := Lib.hid (RdI.of_own own5)
        have hln := lwN_len N
        have mkn := MK.out (lwN N).length hln
        have hown := made_ints w5 (lwN N).length hln
        have hb6 : Below w5.heap.size w5 (w5.alloc (.cells (madeCells #[Value.int .i64 0] ((lwN N).length * 1)) 2)) := (Below.refl _ _).alloc (Nat.le_refl _) _
        obtain ⟨C6, hC6⟩ : ∃ C, madeCells #[Value.int .i64 0] ((lwN N).length * 1) = C := ⟨_, rfl⟩
        rw [hC6] at mkn hown hb6
        obtain ⟨w6, hw6⟩ : ∃ u, u = w5.alloc (.cells C6 2) := ⟨_, rfl⟩
        have HW6 := Lib.hid hw6
        rw [← hw6] at hown hb6
        obtain ⟨g, hg⟩ : ∃ g, w5.heap.size = g := ⟨_, rfl⟩
        rw [hg] at hown
        have HG5 := Lib.hid hg
        have OW6 := Lib.hid hown
        have B6 := Lib.hid hb6
        have HQ0 := Lib.hid (MaQ.zero N)
        clear own5 bel5 y0 y1 y2 hC6 hw6 hown hb6 hg
        go_upto_region 6 with (fail)
        rw [HG5.out, ← HW6.out]
        clear mkn
        obtain ⟨y0, y1, y2⟩ := HK.out _ (HB5.out.trans (B6.out.mono HB5.out.size))
        go_wp2
        clear y0 y1 y2
        go_loopw [38] (fun i wr => ∃ (k : Nat) (cur : List Int), k ≤ N.l.length ∧ i = .int .i64 k ∧ MaQ N cur k ∧ wr.ownsRow g 2 1 (.slice (some ⟨g, 0, none⟩) (lwN N).length (lwN N).length) (lwN N).length (cur.map (Value.int .i64)) ∧ Below w5.heap.size w5 wr) (fun i _ => N.l.length - (intOf i).toNat)
        case atStart => exact ⟨0, _, Nat.zero_le _, rfl, HQ0.out, OW6.out, B6.out⟩
        case round =>
          obtain ⟨k, cur, hk, rfl, hq, hown, hB⟩ := hrel
          by_cases hlt : k < N.l.length
          · obtain ⟨b, off, hA, hbb, hcells⟩ := (HR.out _ (HB5.out.trans (hB.mono HB5.out.size))).2.1.at (show 0 < N.l.length by omega)
            obtain ⟨x0, x1, x2, x3⟩ := hcells k hlt
            have hsr := hB.size
            have HSK := Lib.hid (fun e => hq.skip HVT.out hlt e)
            have HST := Lib.hid (fun e => hq.step HVT.out HNC.out hlt e)
            have HAX := Lib.hid (fun e => ax_out HVT.out hlt e)
            obtain ⟨⟨lk, la, lb, lc⟩, hl⟩ : ∃ l, N.l.getD k Lk.nil = l := ⟨_, rfl⟩
            rw [hl] at x0 x1 x2 x3 HSK HST HAX
            dsimp only at x0 x1 x2 x3 HSK HST HAX
            obtain ⟨bl, z0, z1, z2, z3, zs⟩ := lnk_any wr ⟨lk, la, lb, lc⟩ 71
            dsimp only at bl z0 z1 z2 z3
            obtain ⟨u1, hu1⟩ : ∃ u1, u1 = wr.alloc (.cells #[.int .i64 lk, .int .i64 la, .int .i64 lb, .int .i64 lc] 71) := ⟨_, rfl⟩
            have HU1 := Lib.hid hu1
            rw [← hu1] at bl zs z0 z1 z2 z3
            have BL := Lib.hid (hB.trans (bl.mono hsr))
            have OW := Lib.hid (own_below hown bl (Nat.le_refl _))
            have HLEN := Lib.hid hq.1
            obtain ⟨bx, hbx⟩ : ∃ bx, wr.heap.size = bx := ⟨_, rfl⟩
            rw [hbx] at z0 z1 z2 z3
            have HBX := Lib.hid hbx
            clear hcells hB bl hl hown hq hu1 zs hbx
            rw [hA]
            by_cases h1 : lk = 1
            · obtain ⟨oa, ob⟩ := HAX.out h1
              have la' := idL_lt HVT.out HNC.out oa
              have lb' := idL_lt HVT.out HNC.out ob
              have HIA := Lib.hid (fun n => Calls.quiet_of_same (indexX_any A5 (lwN N).length c5 (lwN N) la (u1.drewN n) ((HRL.out.below (below_drewN BL.out n)).more (below_drewN BL.out n).size) hln (out_mem HVT.out HNC.out oa)))
              have HIB := Lib.hid (fun n => Calls.quiet_of_same (indexX_any A5 (lwN N).length c5 (lwN N) lb (u1.drewN n) ((HRL.out.below (below_drewN BL.out n)).more (below_drewN BL.out n).size) hln (out_mem HVT.out HNC.out ob)))
              have hst := HST.out h1
              rw [show (lwN N).idxOf la = idL N la from rfl] at HIA
              rw [show (lwN N).idxOf lb = idL N lb from rfl] at HIB
              have HS1 := Lib.hid hst
              subst h1
              generalize idL N la = ia at *
              generalize idL N lb = ib at *
              clear oa ob hst
              go_upto_region 10 with (fail)
              rw [HBX.out, ← HU1.out]
              clear x0 x1 x2 x3
              go_quiet (first | (go_at_call 55; first | with_reducible exact HIA.out _ | with_reducible exact HIB.out _))
              have bq := below_drewN BL.out nq
              have bq1 := below_drewN (Below.refl u1.heap.size u1) nq
              have own7 := own_below OW.out bq1 (Nat.le_refl _)
              have own7' : (u1.drewN nq).ownsRow g 2 1 (.slice (some ⟨g, 0, none⟩) (lwN N).length (lwN N).length) (lwN N).length (cur.map (Value.int .i64)) := own7
              obtain ⟨v1, hv1⟩ : ∃ x, x = u1.drewN nq := ⟨_, rfl⟩
              rw [← hv1] at bq own7' ⊢
              have hcl := HLEN.out
              have ca := own7'.cellAt (g := g) ia (by omega)
              have fa := own7'.frozenAt (g := g) ia
              obtain ⟨d0, e0⟩ : ∃ x, v1.cell? ⟨g, ia, none⟩ = some x := ⟨_, ca.trans (List.getElem?_eq_getElem (by simp; omega))⟩
              have hs1 := own7'.stored ia (.int .i64 (ib : Nat))
              rw [← List.map_set] at hs1
              have cb := hs1.1.cellAt (g := g) ib (by omega)
              have fb := hs1.1.frozenAt (g := g) ib
              obtain ⟨d1, e1⟩ : ∃ x, (v1.setCell ⟨g, ia, none⟩ (.int .i64 (ib : Nat))).cell? ⟨g, ib, none⟩ = some x := ⟨_, cb.trans (List.getElem?_eq_getElem (by simp; omega))⟩
              have hs2 := hs1.1.stored ib (.int .i64 (ia : Nat))
              rw [← List.map_set] at hs2
              have OW8 := Lib.hid hs2.1
              have BB8 := Lib.hid ((bq.setCell (p := ⟨g, ia, none⟩) (by show w5.heap.size ≤ g; rw [HG5.out]; exact Nat.le_refl _) (.int .i64 (ib : Nat))).setCell (p := ⟨g, ib, none⟩) (by show w5.heap.size ≤ g; rw [HG5.out]; exact Nat.le_refl _) (.int .i64 (ia : Nat)))
              have ia1 : (ia : Int) < ((lwN N).length : Int) := by omega
              have ib1 : (ib : Int) < ((lwN N).length : Int) := by omega
              clear own7 own7' ca cb hs1 hs2 bq bq1 hv1 hcl
              go_wp2
              go_roundw
              case rel => exact ⟨k + 1, _, by omega, by go_num, HS1.out, OW8.out, BB8.out⟩
              case measure => simp [intOf]; omega
            · have hd1 : (lk == 1) = false := by simpa using h1
              have HS1 := Lib.hid (HSK.out h1)
              clear h1
              go_upto_region 9 with (fail)
              rw [HBX.out, ← HU1.out]
              clear x0 x1 x2 x3
              go_wp2
              go_roundw
              case rel => exact ⟨k + 1, _, by omega, by go_num, HS1.out, OW.out, BL.out⟩
              case measure => simp [intOf]; omega
          · have hkl : k = N.l.length := by omega
            subst hkl
            have hcu := hq.all HVT.out
            subst hcu
            have hlm : (maL N).length = (lwN N).length := maU_len (Nat.le_refl _)
            have HG : Hid (GivesB w (maV N) (maB N) (.returned (.tuple #[.slice (some ⟨g, 0, none⟩) (lwN N).length (lwN N).length, .bool true])) wr) := Lib.hid (by
              rw [maV_yes HMB.out, HMB.out]
              exact ⟨some ⟨g, 0, none⟩, (lwN N).length, by rw [hlm], by rw [hlm]; exact hown.mono (by have h1 := HB0.out.size; have h2 := HB5.out.size; have h3 := HG5.out; omega), HB0.out.trans ((HB5.out.trans (hB.mono HB5.out.size)).mono HB0.out.size)⟩)
            clear hq hown hB
            go_wp2
            go_ret2
            exact HG.out
      · have HG := Lib.hid (givesB_no (maB_k hk0) (HB0.out.trans (HB4.out.mono HB0.out.size)))
        have hd0 : decide (0 < ((kinN N 2).length : Int)) = true := decide_eq_true (by omega)
        have hd0n : decide (0 < (kinN N 2).length) = true := decide_eq_true (by omega)
        clear hk0
        go_wp2
        go_ret2
        exact HG.out
end Go.Proofs.YtfanapddopafiaaDoor
