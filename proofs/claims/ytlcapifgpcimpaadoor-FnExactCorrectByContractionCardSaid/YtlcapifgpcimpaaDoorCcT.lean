/- The model's l12Merge. Made by mkccm.py. -/
import Derived.Test.YtlcapifgpcimpaaDoorCcS
import Derived.Test.YtlcapifgpcimpaaDoorChC
import Derived.Deep.RegionHeldLaw
import Derived.Deep.DeepCutAuto
import Derived.BigQuiet
import Derived.BigRegion
namespace Go.Proofs.YtlcapifgpcimpaaDoor
set_option linter.unusedSimpArgs false
set_option linter.unusedVariables false
open Go.ChangeAt Go.ChangeShapes Go.RowKit Go.WideShapes

theorem two_anyC (w : World) (o p : Obj) : Below w.heap.size w ((w.alloc o).alloc p) ∧ ((w.alloc o).alloc p).heap[w.heap.size]? = some o ∧ ((w.alloc o).alloc p).heap[w.heap.size + 1]? = some p ∧ ((w.alloc o).alloc p).heap.size = w.heap.size + 1 + 1 := by
  have e : (w.alloc o).heap.size = w.heap.size + 1 := by simp
  refine ⟨((Below.refl _ _).alloc (Nat.le_refl _) _).alloc (by simp) _, ?_, ?_, by simp⟩
  · rw [Below.heap_alloc _ _ _ (by simp)]; exact heap_alloc_new _ _
  · rw [← e]; exact heap_alloc_new _ _
set_option maxRecDepth 100000 in
set_option maxHeartbeats 1000000 in
theorem sMerge_any (h : GH) (G : Gr) (SA : Option Addr) (sc : Nat) (xs : List Int) (w : World) (r : RdG w w.heap.size h G) (rS : RdI w w.heap.size SA xs.length xs) (k0 : Nat) (hx0 : 0 < xs.length) (hxl : xs.length ≤ 48) (hk0 : xs.getD 0 0 = (k0 : Int)) (hk1 : k0 < G.e.length) (hl : G.e.length ≤ 48) (hn : 0 ≤ G.n ∧ G.n ≤ 1000) (hin : ∀ e ∈ G.e, (0 ≤ e.a ∧ e.a ≤ 1000) ∧ 0 ≤ e.b ∧ e.b ≤ 1000) :
    Calls Tryd.prog 100 #[.agg #[.int .i64 G.n, .slice h.A G.e.length h.c], .slice SA xs.length sc] w (GivesG w ⟨G.n - 1, mgL G.e xs G.e.length⟩) := by
  obtain ⟨i3, hi3, hz3, hs3, hb3⟩ := info_partsE
  have HI := Lib.hid hi3; have HZ0 := Lib.hid hz3; have HZ1 := Lib.hid hs3; have HZ2 := Lib.hid hb3
  obtain ⟨A, c⟩ := h
  obtain ⟨nd, es⟩ := G
  have r1 : RdE w w.heap.size A es.length es := r
  dsimp only at hk1 hl hn hin ⊢
  obtain ⟨w2, hw2⟩ : ∃ w2, w2 = (w.alloc (.cells #[.int .i64 nd, .slice A es.length c] 30)).alloc (.cells #[.int .i64 0, .slice none 0 0] 30) := ⟨_, rfl⟩
  obtain ⟨hb, p0, p1, hsz⟩ := two_anyC w (.cells #[.int .i64 nd, .slice A es.length c] 30) (.cells #[.int .i64 0, .slice none 0 0] 30)
  rw [← hw2] at hb p0 p1 hsz
  have HR := Lib.hid (fun (wx : World) (hx : Below w2.heap.size w2 wx) => show RdE wx wx.heap.size A es.length es from (r1.below (hb.trans (hx.mono hb.size))).more (Nat.le_trans hb.size hx.size))
  have HRI := Lib.hid (fun (wx : World) (hx : Below w2.heap.size w2 wx) => show RdI wx wx.heap.size SA xs.length xs from (rS.below (hb.trans (hx.mono hb.size))).more (Nat.le_trans hb.size hx.size))
  have HK := Lib.hid (fun (wx : World) (hx : Below w2.heap.size w2 wx) => And.intro (twE_cells ((hx.block w.heap.size (by omega)).trans p0)) ((hx.block (w.heap.size + 1) (by omega)).trans p1))
  have HB := Lib.hid hb
  have HS2 : Hid (w2.heap.size = w.heap.size + 1 + 1) := Lib.hid hsz
  have HIN := Lib.hid (fun k (hk : k < es.length) => hin _ (getE_mem hk))
  have hwr : IntKind.i64.wrap (nd - 1) = nd - 1 := IntWalk.i64_in _ (by omega)
  obtain ⟨y0, y1⟩ := twE_cells p0
  obtain ⟨bs, os, rfl, hbs, hcs⟩ := (HRI.out _ (Below.refl _ _)).2 hx0
  have s0 := hcs 0 hx0
  rw [hk0] at s0
  rw [Nat.add_zero] at s0
  obtain ⟨bq, oq, rfl, hbq, hcq⟩ := (HR.out _ (Below.refl _ _)).at (show 0 < es.length by omega)
  obtain ⟨q0, q1, q2⟩ := hcq k0 hk1
  obtain ⟨⟨ea, eb, ep⟩, hee⟩ : ∃ e, es.getD k0 Ed.nil = e := ⟨_, rfl⟩
  rw [hee] at q0 q1 q2
  dsimp only at q0 q1 q2
  have HEE : Hid (es.getD (xs.getD 0 0).toNat Ed.nil = ⟨ea, eb, ep⟩) := Lib.hid (by rw [hk0, Int.toNat_natCast]; exact hee)
  have hki : (k0 : Int) < (es.length : Int) := by omega
  have hxi : (0 : Int) < (xs.length : Int) := by omega
  have HXL := Lib.hid hxl
  clear hb p0 p1 hsz hin r r1 rS hcs hcq hee hk0 hi3 hz3 hs3 hb3 hxl
  go_enter Tryd.func100, Tryd.ntmps100
  go_upto_region 1 with (fail)
  rw [← hw2]
  clear hw2
  go_cut [5] (fun v wx => ∃ be, v = .pointer (some ⟨be, 0, none⟩) ∧ wx.heap[be]? = some (.cells #[.int .i64 ea, .int .i64 eb, .int .i64 ep] 52 (0, 0)) ∧ Below w2.heap.size w2 wx)
  case first =>
    have ba : Below w2.heap.size w2 (w2.alloc (.cells #[.int .i64 0, .int .i64 0, .int .i64 0] 52)) := (Below.refl _ _).alloc (Nat.le_refl _) _
    have y1a := (ba.cell (p := ⟨w.heap.size, 1, none⟩) (by show w.heap.size < _; have := HS2.out; omega)).trans y1
    have s0a := (ba.cell (p := ⟨bs, os, none⟩) hbs).trans s0
    have q0a := (ba.cell (p := ⟨bq, oq + k0 * 3, none⟩) hbq).trans q0
    have q1a := (ba.cell (p := ⟨bq, oq + k0 * 3 + 1, none⟩) hbq).trans q1
    have q2a := (ba.cell (p := ⟨bq, oq + k0 * 3 + 2, none⟩) hbq).trans q2
    go_region
    (try go_wp2_with (fail))
    go_meet
    have bb : Below w2.heap.size w2 (w2.alloc (.cells #[.int .i64 ea, .int .i64 eb, .int .i64 ep] 52)) := (Below.refl _ _).alloc (Nat.le_refl _) _
    exact ⟨w2.heap.size, rfl, heap_alloc_new _ _, bb.drew⟩
  case rest =>
    obtain ⟨be, rfl, hbe, hbel⟩ := hcut
    have HBE := Lib.hid hbe
    have BC := Lib.hid hbel
    clear hbe hbel y0 y1 s0 q0 q1 q2 hbs hbq
    obtain ⟨y0, y1⟩ := (HK.out _ BC.out).1
    obtain ⟨w4, hw4⟩ : ∃ w4, w4 = wc.alloc (.cells #[.int .i64 (nd - 1), .slice none 0 0] 30) := ⟨_, rfl⟩
    have HST0 : Hid (GrSt wc w4 ⟨none, 0⟩ ⟨nd - 1, mgL es xs 0⟩) := Lib.hid (by rw [hw4]; exact GrSt.start wc (nd - 1))
    go_upto_region 3 with (fail)
    rw [← hw4]
    clear hw4 y0 y1
    go_wp2_with (fail)
    go_loopw [7] (fun i wr => ∃ (k : Nat) (hh : GH), k ≤ es.length ∧ i = .int .i64 k ∧ GrSt wc wr hh ⟨nd - 1, mgL es xs k⟩) (fun i _ => es.length - (intOf i).toNat)
    case atStart => exact ⟨0, _, Nat.zero_le _, rfl, HST0.out⟩
    case round =>
      obtain ⟨k, hh, hk, rfl, hST⟩ := hrel
      clear HST0
      have hB2 : Below w2.heap.size w2 wr := BC.out.trans (hST.bel.mono BC.out.size)
      obtain ⟨y0, y1⟩ := (HK.out _ hB2).1
      by_cases hlt : k < es.length
      · obtain ⟨b, off, hA, hbb, hcells⟩ := (HR.out _ hB2).at (by omega)
        injection hA with hA
        injection hA with hA1 hA2 hA3
        subst hA1 hA2
        obtain ⟨x0, x1, x2⟩ := hcells k hlt
        have hxn := HIN.out k hlt
        have HMY := Lib.hid (fun e => mgL_yes (es := es) (xs := xs) (k := k) e)
        have HMN := Lib.hid (fun e => mgL_no (es := es) (xs := xs) (k := k) e)
        rw [HEE.out] at HMY
        obtain ⟨⟨xa, xb, xp⟩, hl'⟩ : ∃ l, es.getD k Ed.nil = l := ⟨_, rfl⟩
        rw [hl'] at x0 x1 x2 HMY hxn
        dsimp only at x0 x1 x2 hxn
        have hki2 : (k : Int) < (es.length : Int) := by omega
        obtain ⟨bl, hhl, hszl⟩ := box3E wr (.int .i64 xa) (.int .i64 xb) (.int .i64 xp) 52
        obtain ⟨w5, hw5⟩ : ∃ w5, w5 = wr.alloc (.cells #[.int .i64 xa, .int .i64 xb, .int .i64 xp] 52) := ⟨_, rfl⟩
        rw [← hw5] at bl hhl hszl
        have HST := Lib.hid (hST.below bl)
        have hB5 := hB2.trans (bl.mono hB2.size)
        have HHA := Lib.hid (sHasE_any _ xs.length sc xs (k : Int) w5 (by have := HXL.out; omega) (HRI.out _ hB5))
        have HXB := Lib.hid hhl
        have HXO : Hid (∀ q, (Value.slice hh.A (mgL es xs k).length hh.c).ownBlock = some q → q ≠ wr.heap.size) := Lib.hid fun q hq e => by have := (hST.own.lt q hq).2; omega
        have HXN : Hid (wr.heap.size ≠ wc.heap.size) := Lib.hid (by have := hST.lt; omega)
        have HLEN : Hid ((mgL es xs k).length ≤ 1000000) := Lib.hid (by have := mgL_len es xs k; omega)
        have HBEX := Lib.hid (fun (wx : World) (hx : Below wc.heap.size wc wx) => th_cells ((hx.block be (Array.getElem?_eq_some_iff.1 HBE.out).1).trans HBE.out))
        have HNa := Lib.hid (fun wx => sNode_any xa ea eb wx hxn.1.1 hxn.1.2)
        have HNb := Lib.hid (fun wx => sNode_any xb ea eb wx hxn.2.1 hxn.2.2)
        have HRN : Hid (rnD ⟨ea, eb, ep⟩ ⟨xa, xb, xp⟩ = ⟨rnE (min ea eb) (max ea eb) xa, rnE (min ea eb) (max ea eb) xb, xp⟩) := Lib.hid rfl
        have HW5 := Lib.hid hw5
        clear hST hB2 hcells hbb hxn hl' bl hhl hszl hB5
        by_cases hm : (k : Int) ∈ xs
        · have HS := Lib.hid (HMN.out hm)
          rw [decide_eq_true hm] at HHA
          have HST2 : Hid (GrSt wc w5 hh ⟨nd - 1, mgL es xs (k + 1)⟩) := Lib.hid (by rw [HS.out]; exact HST.out)
          clear hm HMY HMN HNa HNb
          go_wp2_with (fail)
          rw [← hw5]
          clear hw5
          refine HHA.out.mono ?_
          rintro e w6 ⟨rfl, rfl⟩
          go_wp2
          go_roundw
          case rel => exact ⟨k + 1, hh, by omega, by go_num, HST2.out⟩
          case measure => simp [intOf]; omega
        · have HS := Lib.hid (HMY.out hm)
          rw [HRN.out] at HS
          rw [decide_eq_false hm] at HHA
          clear hm HMY HMN HRN
          generalize rnE (min ea eb) (max ea eb) xa = ra at HS HNa
          generalize rnE (min ea eb) (max ea eb) xb = rb at HS HNb
          generalize mgL es xs k = ms at *
          have HSX : Hid (∀ wx : World, Below wc.heap.size wc wx → wx.heap[wr.heap.size]? = some (.cells #[.int .i64 xa, .int .i64 xb, .int .i64 xp] 52 (0, 0)) → (wx.cell? ⟨wr.heap.size, 0, none⟩ = some (.int .i64 xa) ∧ wx.cell? ⟨wr.heap.size, 1, none⟩ = some (.int .i64 xb) ∧ wx.cell? ⟨wr.heap.size, 2, none⟩ = some (.int .i64 xp)) ∧ wx.cell? ⟨be, 0, none⟩ = some (.int .i64 ea) ∧ wx.cell? ⟨be, 1, none⟩ = some (.int .i64 eb)) := Lib.hid fun wx hx h5 => ⟨th_cells h5, (HBEX.out wx hx).1, (HBEX.out wx hx).2.1⟩
          go_wp2_with (fail)
          rw [← hw5]
          clear hw5
          refine HHA.out.mono ?_
          rintro e w6 ⟨rfl, hw6⟩
          subst hw6
          clear x0 x1 x2 y0 y1
          go_upto_region 8 with (fail)
          have HS0 : Hid (∀ wx : World, Below w6.heap.size w6 wx → (wx.cell? ⟨wr.heap.size, 0, none⟩ = some (.int .i64 xa) ∧ wx.cell? ⟨wr.heap.size, 1, none⟩ = some (.int .i64 xb) ∧ wx.cell? ⟨wr.heap.size, 2, none⟩ = some (.int .i64 xp)) ∧ wx.cell? ⟨be, 0, none⟩ = some (.int .i64 ea) ∧ wx.cell? ⟨be, 1, none⟩ = some (.int .i64 eb)) := Lib.hid fun wx hx => HSX.out wx (HST.out.bel.trans (hx.mono HST.out.bel.size)) ((hx.block _ (Array.getElem?_eq_some_iff.1 HXB.out).1).trans HXB.out)
          have FB_0 := Lib.hid (Below.refl w6.heap.size w6)
          refine wp_region_held_drew (S := fun wx => (wx.cell? ⟨wr.heap.size, 0, none⟩ = some (.int .i64 xa) ∧ wx.cell? ⟨wr.heap.size, 1, none⟩ = some (.int .i64 xb) ∧ wx.cell? ⟨wr.heap.size, 2, none⟩ = some (.int .i64 xp)) ∧ wx.cell? ⟨be, 0, none⟩ = some (.int .i64 ea) ∧ wx.cell? ⟨be, 1, none⟩ = some (.int .i64 eb)) (by kernel_rfl) (HS0.out _ (Below.refl _ _).drew) (fun hHeld => ?_)
          obtain ⟨wq1, hwq1⟩ : ∃ w', w' = w6.drew := ⟨_, rfl⟩
          rw [← hwq1] at hHeld ⊢
          have bq1 : Below w6.heap.size w6 wq1 := by rw [hwq1]; exact (Below.refl _ _).drew
          clear hwq1
          have FB_q2 := Lib.hid ((FB_0.out).trans ((bq1).mono (FB_0.out).size))
          clear FB_0
          refine wpAnyH_take (i := 0) (v := ?vq3) rfl (by kernel_rfl) (by kernel_rfl) (by kernel_rfl) (fun _ _ _ h => h) (Or.inl ⟨by rfl, ?yq3⟩) (by assumption) ?_
          case yq3 => (intro w hSw; (try dsimp only at hSw); go_simp; all_goals (with_reducible rfl))
          (try simp only [Act.put, List.setIfInBounds_toArray, List.set_cons_zero, List.set_cons_succ, List.getElem_toArray, List.getElem_cons_succ, List.getElem_cons_zero])
          refine wpAnyH_take (i := 2) (v := ?vq4) rfl (by kernel_rfl) (by kernel_rfl) (by kernel_rfl) (fun _ _ _ h => h) (Or.inl ⟨by rfl, ?yq4⟩) (by assumption) ?_
          case yq4 => (intro w hSw; (try dsimp only at hSw); go_simp; all_goals (with_reducible rfl))
          (try simp only [Act.put, List.setIfInBounds_toArray, List.set_cons_zero, List.set_cons_succ, List.getElem_toArray, List.getElem_cons_succ, List.getElem_cons_zero])
          refine wpAnyH_take (i := 4) (v := ?vq5) rfl (by kernel_rfl) (by kernel_rfl) (by kernel_rfl) (fun _ _ _ h => h) (Or.inl ⟨by rfl, ?yq5⟩) (by assumption) ?_
          case yq5 => (intro w hSw; (try dsimp only at hSw); go_simp; all_goals (with_reducible rfl))
          (try simp only [Act.put, List.setIfInBounds_toArray, List.set_cons_zero, List.set_cons_succ, List.getElem_toArray, List.getElem_cons_succ, List.getElem_cons_zero])
          refine wpAnyH_take (i := 6) (v := ?vq6) rfl (by kernel_rfl) (by kernel_rfl) (by kernel_rfl) (fun _ _ _ h => h) (Or.inl ⟨by rfl, ?yq6⟩) (by assumption) ?_
          case yq6 => (intro w hSw; (try dsimp only at hSw); go_simp; all_goals (with_reducible rfl))
          (try simp only [Act.put, List.setIfInBounds_toArray, List.set_cons_zero, List.set_cons_succ, List.getElem_toArray, List.getElem_cons_succ, List.getElem_cons_zero])
          refine wpAnyH_take (i := 9) (v := ?vq7) rfl (by kernel_rfl) (by kernel_rfl) (by kernel_rfl) (fun _ _ _ h => h) (Or.inl ⟨by rfl, ?yq7⟩) (by assumption) ?_
          case yq7 => (intro w hSw; (try dsimp only at hSw); go_simp; all_goals (with_reducible rfl))
          (try simp only [Act.put, List.setIfInBounds_toArray, List.set_cons_zero, List.set_cons_succ, List.getElem_toArray, List.getElem_cons_succ, List.getElem_cons_zero])
          refine wpAnyH_take (i := 11) (v := ?vq8) rfl (by kernel_rfl) (by kernel_rfl) (by kernel_rfl) (fun _ _ _ h => h) (Or.inl ⟨by rfl, ?yq8⟩) (by assumption) ?_
          case yq8 => (intro w hSw; (try dsimp only at hSw); go_simp; all_goals (with_reducible rfl))
          (try simp only [Act.put, List.setIfInBounds_toArray, List.set_cons_zero, List.set_cons_succ, List.getElem_toArray, List.getElem_cons_succ, List.getElem_cons_zero])
          refine wpAnyH_take (i := 13) (v := ?vq9) rfl (by kernel_rfl) (by kernel_rfl) (by kernel_rfl) (fun _ _ _ h => h) (Or.inl ⟨by rfl, ?yq9⟩) (by assumption) ?_
          case yq9 => (intro w hSw; (try dsimp only at hSw); go_simp; all_goals (with_reducible rfl))
          (try simp only [Act.put, List.setIfInBounds_toArray, List.set_cons_zero, List.set_cons_succ, List.getElem_toArray, List.getElem_cons_succ, List.getElem_cons_zero])
          refine wpAnyH_take (i := 16) (v := ?vq10) rfl (by kernel_rfl) (by kernel_rfl) (by kernel_rfl) (fun _ _ _ h => h) (Or.inl ⟨by rfl, ?yq10⟩) (by assumption) ?_
          case yq10 => (intro w hSw; (try dsimp only at hSw); go_simp; all_goals (with_reducible rfl))
          (try simp only [Act.put, List.setIfInBounds_toArray, List.set_cons_zero, List.set_cons_succ, List.getElem_toArray, List.getElem_cons_succ, List.getElem_cons_zero])
          refine wpAnyH_take (i := 3) (v := ?vq11) rfl (by kernel_rfl) (by kernel_rfl) (by kernel_rfl) (fun _ _ _ h => h) (Or.inl ⟨by rfl, ?yq11⟩) (by assumption) ?_
          case yq11 => (intro w hSw; (try dsimp only at hSw); go_simp; all_goals (with_reducible rfl))
          (try simp only [Act.put, List.setIfInBounds_toArray, List.set_cons_zero, List.set_cons_succ, List.getElem_toArray, List.getElem_cons_succ, List.getElem_cons_zero])
          refine wpAnyH_take (i := 5) (v := ?vq12) rfl (by kernel_rfl) (by kernel_rfl) (by kernel_rfl) (fun _ _ _ h => h) (Or.inl ⟨by rfl, ?yq12⟩) (by assumption) ?_
          case yq12 => (intro w hSw; (try dsimp only at hSw); go_simp; all_goals (with_reducible rfl))
          (try simp only [Act.put, List.setIfInBounds_toArray, List.set_cons_zero, List.set_cons_succ, List.getElem_toArray, List.getElem_cons_succ, List.getElem_cons_zero])
          refine wpAnyH_take (i := 7) (v := ?vq13) rfl (by kernel_rfl) (by kernel_rfl) (by kernel_rfl) (fun _ _ _ h => h) (Or.inl ⟨by rfl, ?yq13⟩) (by assumption) ?_
          case yq13 => (intro w hSw; (try dsimp only at hSw); go_simp; all_goals (with_reducible rfl))
          (try simp only [Act.put, List.setIfInBounds_toArray, List.set_cons_zero, List.set_cons_succ, List.getElem_toArray, List.getElem_cons_succ, List.getElem_cons_zero])
          refine wpAnyH_take (i := 10) (v := ?vq14) rfl (by kernel_rfl) (by kernel_rfl) (by kernel_rfl) (fun _ _ _ h => h) (Or.inl ⟨by rfl, ?yq14⟩) (by assumption) ?_
          case yq14 => (intro w hSw; (try dsimp only at hSw); go_simp; all_goals (with_reducible rfl))
          (try simp only [Act.put, List.setIfInBounds_toArray, List.set_cons_zero, List.set_cons_succ, List.getElem_toArray, List.getElem_cons_succ, List.getElem_cons_zero])
          refine wpAnyH_take (i := 12) (v := ?vq15) rfl (by kernel_rfl) (by kernel_rfl) (by kernel_rfl) (fun _ _ _ h => h) (Or.inl ⟨by rfl, ?yq15⟩) (by assumption) ?_
          case yq15 => (intro w hSw; (try dsimp only at hSw); go_simp; all_goals (with_reducible rfl))
          (try simp only [Act.put, List.setIfInBounds_toArray, List.set_cons_zero, List.set_cons_succ, List.getElem_toArray, List.getElem_cons_succ, List.getElem_cons_zero])
          refine wpAnyH_take (i := 14) (v := ?vq16) rfl (by kernel_rfl) (by kernel_rfl) (by kernel_rfl) (fun _ _ _ h => h) (Or.inl ⟨by rfl, ?yq16⟩) (by assumption) ?_
          case yq16 => (intro w hSw; (try dsimp only at hSw); go_simp; all_goals (with_reducible rfl))
          (try simp only [Act.put, List.setIfInBounds_toArray, List.set_cons_zero, List.set_cons_succ, List.getElem_toArray, List.getElem_cons_succ, List.getElem_cons_zero])
          refine wpAnyH_take (i := 17) (v := ?vq17) rfl (by kernel_rfl) (by kernel_rfl) (by kernel_rfl) (fun _ _ _ h => h) (Or.inl ⟨by rfl, ?yq17⟩) (by assumption) ?_
          case yq17 => (intro w hSw; (try dsimp only at hSw); go_simp; all_goals (with_reducible rfl))
          (try simp only [Act.put, List.setIfInBounds_toArray, List.set_cons_zero, List.set_cons_succ, List.getElem_toArray, List.getElem_cons_succ, List.getElem_cons_zero])
          refine wpAnyH_ready (rs := [1, 8]) (by kernel_rfl) (by simp) ?_
          refine AllReadyH.cons rfl (fun K hK => ?_) ?_
          · have hx9 := (twE_cells (HST.out.below FB_q2.out).box).2
            (try dsimp only at hx9)
            go_simp
            clear hx9
            refine hK.out _ _ (hHeld) (fun hHeld => ?_)
            clear hK K
            (try simp only [Act.put, List.setIfInBounds_toArray, List.set_cons_zero, List.set_cons_succ, List.getElem_toArray, List.getElem_cons_succ, List.getElem_cons_zero])
            refine wpAnyH_ready (rs := [8]) (by kernel_rfl) (by simp) ?_
            refine AllReadyH.cons rfl (fun K hK => ?_) ?_
            · go_simp
              refine (HNa.out wq1).mono ?_
              rintro e wq18 ⟨rfl, belq18⟩
              dsimp only
              have FB_q19 := Lib.hid ((FB_q2.out).trans ((belq18).mono (FB_q2.out).size))
              clear FB_q2
              clear belq18
              refine hK.out _ _ (HS0.out _ FB_q19.out) (fun hHeld => ?_)
              clear hK K
              (try simp only [Act.put, List.setIfInBounds_toArray, List.set_cons_zero, List.set_cons_succ, List.getElem_toArray, List.getElem_cons_succ, List.getElem_cons_zero])
              refine wpAnyH_ready (rs := [15]) (by kernel_rfl) (by simp) ?_
              refine AllReadyH.cons rfl (fun K hK => ?_) ?_
              · go_simp
                refine (HNb.out wq18).mono ?_
                rintro e wq20 ⟨rfl, belq20⟩
                dsimp only
                have FB_q21 := Lib.hid ((FB_q19.out).trans ((belq20).mono (FB_q19.out).size))
                clear FB_q19
                clear belq20
                refine hK.out _ _ (HS0.out _ FB_q21.out) (fun hHeld => ?_)
                clear hK K
                (try simp only [Act.put, List.setIfInBounds_toArray, List.set_cons_zero, List.set_cons_succ, List.getElem_toArray, List.getElem_cons_succ, List.getElem_cons_zero])
                refine wpAnyH_take (i := 18) (v := ?vq22) rfl (by kernel_rfl) (by kernel_rfl) (by kernel_rfl) (fun _ _ _ h => h) (Or.inl ⟨by rfl, ?yq22⟩) (by assumption) ?_
                case yq22 => (intro w hSw; (try dsimp only at hSw); go_simp; all_goals (with_reducible rfl))
                (try simp only [Act.put, List.setIfInBounds_toArray, List.set_cons_zero, List.set_cons_succ, List.getElem_toArray, List.getElem_cons_succ, List.getElem_cons_zero])
                refine wpAnyH_ready (rs := [19]) (by kernel_rfl) (by simp) ?_
                refine AllReadyH.cons rfl (fun K hK => ?_) ?_
                · go_simp
                  obtain ⟨wq23, hwq23⟩ : ∃ w', w' = wq20.alloc (.cells #[.int .i64 ra, .int .i64 rb, .int .i64 xp] 52) := ⟨_, rfl⟩
                  rw [← hwq23]
                  have bq23 : Below wq20.heap.size wq20 wq23 := by rw [hwq23]; exact (Below.refl _ _).alloc (Nat.le_refl _) _
                  have hn9 := thE_new wq20 (.int .i64 ra) (.int .i64 rb) (.int .i64 xp) 52
                  rw [← hwq23] at hn9
                  have HNW := Lib.hid hn9
                  clear hwq23 hn9
                  have FB_q24 := Lib.hid ((FB_q21.out).trans ((bq23).mono (FB_q21.out).size))
                  clear FB_q21
                  clear bq23
                  refine hK.out _ _ (HS0.out _ FB_q24.out) (fun hHeld => ?_)
                  clear hK K
                  (try simp only [Act.put, List.setIfInBounds_toArray, List.set_cons_zero, List.set_cons_succ, List.getElem_toArray, List.getElem_cons_succ, List.getElem_cons_zero])
                  refine wpAnyH_ready (rs := [20]) (by kernel_rfl) (by simp) ?_
                  refine AllReadyH.cons rfl (fun K hK => ?_) ?_
                  · have OW := (HST.out.below FB_q24.out).own
                    have hlt9 := (HST.out.below FB_q24.out).lt
                    have hle9 := HLEN.out
                    (try dsimp only at OW)
                    refine stepE rfl _ _ 28 rfl (wc.heap.size + 1) 52 i3 (.agg #[.int .i64 0, .int .i64 0, .int .i64 0]) 3 24 Tryd.underlying28 HI.out HZ0.out HZ1.out HZ2.out rfl (by decide) _ _ _ rfl OW ⟨wq20.heap.size, 0, none⟩ 1 1 [.int .i64 ra, .int .i64 rb, .int .i64 xp] rfl rfl HNW.out (by intro u hu; simp at hu; rcases hu with rfl | rfl | rfl <;> rfl) (by simp only [maxLen]; omega) (by omega) (by omega) ?_
                    intro v9 w9 own9 gr9
                    obtain ⟨A9, c9, rfl, hbx9, hbl9, hst9⟩ := (HST.out.below FB_q24.out).grown (x := ⟨ra, rb, xp⟩) own9 gr9
                    have HBX9 := Lib.hid hbx9; have HBL9 := Lib.hid hbl9; have HST9 := Lib.hid hst9
                    have HXB9 := Lib.hid ((gr9.block wr.heap.size (Nat.lt_of_lt_of_le (Array.getElem?_eq_some_iff.1 HXB.out).1 FB_q24.out.size) (fun e => HXO.out _ e.symm rfl)).trans ((FB_q24.out.block wr.heap.size (Array.getElem?_eq_some_iff.1 HXB.out).1).trans HXB.out))
                    clear hbx9 hbl9 hst9 own9 gr9 OW hlt9 hle9
                    refine hK.out _ _ (HSX.out _ HBL9.out HXB9.out) (fun hHeld => ?_)
                    clear hK K
                    (try simp only [Act.put, List.setIfInBounds_toArray, List.set_cons_zero, List.set_cons_succ, List.getElem_toArray, List.getElem_cons_succ, List.getElem_cons_zero])
                    refine wpAnyH_take (i := 21) (v := ?vq25) rfl (by kernel_rfl) (by kernel_rfl) (by kernel_rfl) (fun _ _ _ h => h) (Or.inl ⟨by rfl, ?yq25⟩) (by assumption) ?_
                    case yq25 => (intro w hSw; (try dsimp only at hSw); go_simp; all_goals (with_reducible rfl))
                    (try simp only [Act.put, List.setIfInBounds_toArray, List.set_cons_zero, List.set_cons_succ, List.getElem_toArray, List.getElem_cons_succ, List.getElem_cons_zero])
                    refine wpAnyH_ready (rs := [22]) (by kernel_rfl) (by simp) ?_
                    refine AllReadyH.cons rfl (fun K hK => ?_) ?_
                    · obtain ⟨a0, a1⟩ := twE_cells HBX9.out
                      have f1 := frozen_of_row _ _ 1 _ _ HBX9.out
                      (try dsimp only at a0 a1)
                      go_simp
                      clear a0 a1 f1
                      refine hK.out _ _ (HSX.out _ HST9.out.bel ((heap_setCell_other _ _ _ _ HXN.out).trans HXB9.out)) (fun hHeld => ?_)
                      clear hK K
                      (try simp only [Act.put, List.setIfInBounds_toArray, List.set_cons_zero, List.set_cons_succ, List.getElem_toArray, List.getElem_cons_succ, List.getElem_cons_zero])
                      refine wpAnyH_done (by kernel_rfl) ?_ _
                      have HST10 : Hid (GrSt wc (w9.setCell ⟨wc.heap.size, 1, none⟩ (.slice A9 (ms.length + 1) c9)) ⟨A9, c9⟩ ⟨nd - 1, mgL es xs (k + 1)⟩) := Lib.hid (by rw [HS.out]; exact HST9.out)
                      go_wp2
                      go_roundw
                      case rel => exact ⟨k + 1, ⟨A9, c9⟩, by omega, by go_num, HST10.out⟩
                      case measure => simp [intOf]; omega
                    exact AllReadyH.nil
                  exact AllReadyH.nil
                exact AllReadyH.nil
              exact AllReadyH.nil
            exact AllReadyH.nil
          refine AllReadyH.cons rfl (fun K hK => ?_) ?_
          · go_simp
            refine (HNa.out wq1).mono ?_
            rintro e wq26 ⟨rfl, belq26⟩
            dsimp only
            have FB_q27 := Lib.hid ((FB_q2.out).trans ((belq26).mono (FB_q2.out).size))
            clear FB_q2
            clear belq26
            refine hK.out _ _ (HS0.out _ FB_q27.out) (fun hHeld => ?_)
            clear hK K
            (try simp only [Act.put, List.setIfInBounds_toArray, List.set_cons_zero, List.set_cons_succ, List.getElem_toArray, List.getElem_cons_succ, List.getElem_cons_zero])
            refine wpAnyH_ready (rs := [1, 15]) (by kernel_rfl) (by simp) ?_
            refine AllReadyH.cons rfl (fun K hK => ?_) ?_
            · have hx9 := (twE_cells (HST.out.below FB_q27.out).box).2
              (try dsimp only at hx9)
              go_simp
              clear hx9
              refine hK.out _ _ (hHeld) (fun hHeld => ?_)
              clear hK K
              (try simp only [Act.put, List.setIfInBounds_toArray, List.set_cons_zero, List.set_cons_succ, List.getElem_toArray, List.getElem_cons_succ, List.getElem_cons_zero])
              refine wpAnyH_ready (rs := [15]) (by kernel_rfl) (by simp) ?_
              refine AllReadyH.cons rfl (fun K hK => ?_) ?_
              · go_simp
                refine (HNb.out wq26).mono ?_
                rintro e wq28 ⟨rfl, belq28⟩
                dsimp only
                have FB_q29 := Lib.hid ((FB_q27.out).trans ((belq28).mono (FB_q27.out).size))
                clear FB_q27
                clear belq28
                refine hK.out _ _ (HS0.out _ FB_q29.out) (fun hHeld => ?_)
                clear hK K
                (try simp only [Act.put, List.setIfInBounds_toArray, List.set_cons_zero, List.set_cons_succ, List.getElem_toArray, List.getElem_cons_succ, List.getElem_cons_zero])
                refine wpAnyH_take (i := 18) (v := ?vq30) rfl (by kernel_rfl) (by kernel_rfl) (by kernel_rfl) (fun _ _ _ h => h) (Or.inl ⟨by rfl, ?yq30⟩) (by assumption) ?_
                case yq30 => (intro w hSw; (try dsimp only at hSw); go_simp; all_goals (with_reducible rfl))
                (try simp only [Act.put, List.setIfInBounds_toArray, List.set_cons_zero, List.set_cons_succ, List.getElem_toArray, List.getElem_cons_succ, List.getElem_cons_zero])
                refine wpAnyH_ready (rs := [19]) (by kernel_rfl) (by simp) ?_
                refine AllReadyH.cons rfl (fun K hK => ?_) ?_
                · go_simp
                  obtain ⟨wq31, hwq31⟩ : ∃ w', w' = wq28.alloc (.cells #[.int .i64 ra, .int .i64 rb, .int .i64 xp] 52) := ⟨_, rfl⟩
                  rw [← hwq31]
                  have bq31 : Below wq28.heap.size wq28 wq31 := by rw [hwq31]; exact (Below.refl _ _).alloc (Nat.le_refl _) _
                  have hn9 := thE_new wq28 (.int .i64 ra) (.int .i64 rb) (.int .i64 xp) 52
                  rw [← hwq31] at hn9
                  have HNW := Lib.hid hn9
                  clear hwq31 hn9
                  have FB_q32 := Lib.hid ((FB_q29.out).trans ((bq31).mono (FB_q29.out).size))
                  clear FB_q29
                  clear bq31
                  refine hK.out _ _ (HS0.out _ FB_q32.out) (fun hHeld => ?_)
                  clear hK K
                  (try simp only [Act.put, List.setIfInBounds_toArray, List.set_cons_zero, List.set_cons_succ, List.getElem_toArray, List.getElem_cons_succ, List.getElem_cons_zero])
                  refine wpAnyH_ready (rs := [20]) (by kernel_rfl) (by simp) ?_
                  refine AllReadyH.cons rfl (fun K hK => ?_) ?_
                  · have OW := (HST.out.below FB_q32.out).own
                    have hlt9 := (HST.out.below FB_q32.out).lt
                    have hle9 := HLEN.out
                    (try dsimp only at OW)
                    refine stepE rfl _ _ 28 rfl (wc.heap.size + 1) 52 i3 (.agg #[.int .i64 0, .int .i64 0, .int .i64 0]) 3 24 Tryd.underlying28 HI.out HZ0.out HZ1.out HZ2.out rfl (by decide) _ _ _ rfl OW ⟨wq28.heap.size, 0, none⟩ 1 1 [.int .i64 ra, .int .i64 rb, .int .i64 xp] rfl rfl HNW.out (by intro u hu; simp at hu; rcases hu with rfl | rfl | rfl <;> rfl) (by simp only [maxLen]; omega) (by omega) (by omega) ?_
                    intro v9 w9 own9 gr9
                    obtain ⟨A9, c9, rfl, hbx9, hbl9, hst9⟩ := (HST.out.below FB_q32.out).grown (x := ⟨ra, rb, xp⟩) own9 gr9
                    have HBX9 := Lib.hid hbx9; have HBL9 := Lib.hid hbl9; have HST9 := Lib.hid hst9
                    have HXB9 := Lib.hid ((gr9.block wr.heap.size (Nat.lt_of_lt_of_le (Array.getElem?_eq_some_iff.1 HXB.out).1 FB_q32.out.size) (fun e => HXO.out _ e.symm rfl)).trans ((FB_q32.out.block wr.heap.size (Array.getElem?_eq_some_iff.1 HXB.out).1).trans HXB.out))
                    clear hbx9 hbl9 hst9 own9 gr9 OW hlt9 hle9
                    refine hK.out _ _ (HSX.out _ HBL9.out HXB9.out) (fun hHeld => ?_)
                    clear hK K
                    (try simp only [Act.put, List.setIfInBounds_toArray, List.set_cons_zero, List.set_cons_succ, List.getElem_toArray, List.getElem_cons_succ, List.getElem_cons_zero])
                    refine wpAnyH_take (i := 21) (v := ?vq33) rfl (by kernel_rfl) (by kernel_rfl) (by kernel_rfl) (fun _ _ _ h => h) (Or.inl ⟨by rfl, ?yq33⟩) (by assumption) ?_
                    case yq33 => (intro w hSw; (try dsimp only at hSw); go_simp; all_goals (with_reducible rfl))
                    (try simp only [Act.put, List.setIfInBounds_toArray, List.set_cons_zero, List.set_cons_succ, List.getElem_toArray, List.getElem_cons_succ, List.getElem_cons_zero])
                    refine wpAnyH_ready (rs := [22]) (by kernel_rfl) (by simp) ?_
                    refine AllReadyH.cons rfl (fun K hK => ?_) ?_
                    · obtain ⟨a0, a1⟩ := twE_cells HBX9.out
                      have f1 := frozen_of_row _ _ 1 _ _ HBX9.out
                      (try dsimp only at a0 a1)
                      go_simp
                      clear a0 a1 f1
                      refine hK.out _ _ (HSX.out _ HST9.out.bel ((heap_setCell_other _ _ _ _ HXN.out).trans HXB9.out)) (fun hHeld => ?_)
                      clear hK K
                      (try simp only [Act.put, List.setIfInBounds_toArray, List.set_cons_zero, List.set_cons_succ, List.getElem_toArray, List.getElem_cons_succ, List.getElem_cons_zero])
                      refine wpAnyH_done (by kernel_rfl) ?_ _
                      have HST10 : Hid (GrSt wc (w9.setCell ⟨wc.heap.size, 1, none⟩ (.slice A9 (ms.length + 1) c9)) ⟨A9, c9⟩ ⟨nd - 1, mgL es xs (k + 1)⟩) := Lib.hid (by rw [HS.out]; exact HST9.out)
                      go_wp2
                      go_roundw
                      case rel => exact ⟨k + 1, ⟨A9, c9⟩, by omega, by go_num, HST10.out⟩
                      case measure => simp [intOf]; omega
                    exact AllReadyH.nil
                  exact AllReadyH.nil
                exact AllReadyH.nil
              exact AllReadyH.nil
            refine AllReadyH.cons rfl (fun K hK => ?_) ?_
            · go_simp
              refine (HNb.out wq26).mono ?_
              rintro e wq34 ⟨rfl, belq34⟩
              dsimp only
              have FB_q35 := Lib.hid ((FB_q27.out).trans ((belq34).mono (FB_q27.out).size))
              clear FB_q27
              clear belq34
              refine hK.out _ _ (HS0.out _ FB_q35.out) (fun hHeld => ?_)
              clear hK K
              (try simp only [Act.put, List.setIfInBounds_toArray, List.set_cons_zero, List.set_cons_succ, List.getElem_toArray, List.getElem_cons_succ, List.getElem_cons_zero])
              refine wpAnyH_take (i := 18) (v := ?vq36) rfl (by kernel_rfl) (by kernel_rfl) (by kernel_rfl) (fun _ _ _ h => h) (Or.inl ⟨by rfl, ?yq36⟩) (by assumption) ?_
              case yq36 => (intro w hSw; (try dsimp only at hSw); go_simp; all_goals (with_reducible rfl))
              (try simp only [Act.put, List.setIfInBounds_toArray, List.set_cons_zero, List.set_cons_succ, List.getElem_toArray, List.getElem_cons_succ, List.getElem_cons_zero])
              refine wpAnyH_ready (rs := [1, 19]) (by kernel_rfl) (by simp) ?_
              refine AllReadyH.cons rfl (fun K hK => ?_) ?_
              · have hx9 := (twE_cells (HST.out.below FB_q35.out).box).2
                (try dsimp only at hx9)
                go_simp
                clear hx9
                refine hK.out _ _ (hHeld) (fun hHeld => ?_)
                clear hK K
                (try simp only [Act.put, List.setIfInBounds_toArray, List.set_cons_zero, List.set_cons_succ, List.getElem_toArray, List.getElem_cons_succ, List.getElem_cons_zero])
                refine wpAnyH_ready (rs := [19]) (by kernel_rfl) (by simp) ?_
                refine AllReadyH.cons rfl (fun K hK => ?_) ?_
                · go_simp
                  obtain ⟨wq37, hwq37⟩ : ∃ w', w' = wq34.alloc (.cells #[.int .i64 ra, .int .i64 rb, .int .i64 xp] 52) := ⟨_, rfl⟩
                  rw [← hwq37]
                  have bq37 : Below wq34.heap.size wq34 wq37 := by rw [hwq37]; exact (Below.refl _ _).alloc (Nat.le_refl _) _
                  have hn9 := thE_new wq34 (.int .i64 ra) (.int .i64 rb) (.int .i64 xp) 52
                  rw [← hwq37] at hn9
                  have HNW := Lib.hid hn9
                  clear hwq37 hn9
                  have FB_q38 := Lib.hid ((FB_q35.out).trans ((bq37).mono (FB_q35.out).size))
                  clear FB_q35
                  clear bq37
                  refine hK.out _ _ (HS0.out _ FB_q38.out) (fun hHeld => ?_)
                  clear hK K
                  (try simp only [Act.put, List.setIfInBounds_toArray, List.set_cons_zero, List.set_cons_succ, List.getElem_toArray, List.getElem_cons_succ, List.getElem_cons_zero])
                  refine wpAnyH_ready (rs := [20]) (by kernel_rfl) (by simp) ?_
                  refine AllReadyH.cons rfl (fun K hK => ?_) ?_
                  · have OW := (HST.out.below FB_q38.out).own
                    have hlt9 := (HST.out.below FB_q38.out).lt
                    have hle9 := HLEN.out
                    (try dsimp only at OW)
                    refine stepE rfl _ _ 28 rfl (wc.heap.size + 1) 52 i3 (.agg #[.int .i64 0, .int .i64 0, .int .i64 0]) 3 24 Tryd.underlying28 HI.out HZ0.out HZ1.out HZ2.out rfl (by decide) _ _ _ rfl OW ⟨wq34.heap.size, 0, none⟩ 1 1 [.int .i64 ra, .int .i64 rb, .int .i64 xp] rfl rfl HNW.out (by intro u hu; simp at hu; rcases hu with rfl | rfl | rfl <;> rfl) (by simp only [maxLen]; omega) (by omega) (by omega) ?_
                    intro v9 w9 own9 gr9
                    obtain ⟨A9, c9, rfl, hbx9, hbl9, hst9⟩ := (HST.out.below FB_q38.out).grown (x := ⟨ra, rb, xp⟩) own9 gr9
                    have HBX9 := Lib.hid hbx9; have HBL9 := Lib.hid hbl9; have HST9 := Lib.hid hst9
                    have HXB9 := Lib.hid ((gr9.block wr.heap.size (Nat.lt_of_lt_of_le (Array.getElem?_eq_some_iff.1 HXB.out).1 FB_q38.out.size) (fun e => HXO.out _ e.symm rfl)).trans ((FB_q38.out.block wr.heap.size (Array.getElem?_eq_some_iff.1 HXB.out).1).trans HXB.out))
                    clear hbx9 hbl9 hst9 own9 gr9 OW hlt9 hle9
                    refine hK.out _ _ (HSX.out _ HBL9.out HXB9.out) (fun hHeld => ?_)
                    clear hK K
                    (try simp only [Act.put, List.setIfInBounds_toArray, List.set_cons_zero, List.set_cons_succ, List.getElem_toArray, List.getElem_cons_succ, List.getElem_cons_zero])
                    refine wpAnyH_take (i := 21) (v := ?vq39) rfl (by kernel_rfl) (by kernel_rfl) (by kernel_rfl) (fun _ _ _ h => h) (Or.inl ⟨by rfl, ?yq39⟩) (by assumption) ?_
                    case yq39 => (intro w hSw; (try dsimp only at hSw); go_simp; all_goals (with_reducible rfl))
                    (try simp only [Act.put, List.setIfInBounds_toArray, List.set_cons_zero, List.set_cons_succ, List.getElem_toArray, List.getElem_cons_succ, List.getElem_cons_zero])
                    refine wpAnyH_ready (rs := [22]) (by kernel_rfl) (by simp) ?_
                    refine AllReadyH.cons rfl (fun K hK => ?_) ?_
                    · obtain ⟨a0, a1⟩ := twE_cells HBX9.out
                      have f1 := frozen_of_row _ _ 1 _ _ HBX9.out
                      (try dsimp only at a0 a1)
                      go_simp
                      clear a0 a1 f1
                      refine hK.out _ _ (HSX.out _ HST9.out.bel ((heap_setCell_other _ _ _ _ HXN.out).trans HXB9.out)) (fun hHeld => ?_)
                      clear hK K
                      (try simp only [Act.put, List.setIfInBounds_toArray, List.set_cons_zero, List.set_cons_succ, List.getElem_toArray, List.getElem_cons_succ, List.getElem_cons_zero])
                      refine wpAnyH_done (by kernel_rfl) ?_ _
                      have HST10 : Hid (GrSt wc (w9.setCell ⟨wc.heap.size, 1, none⟩ (.slice A9 (ms.length + 1) c9)) ⟨A9, c9⟩ ⟨nd - 1, mgL es xs (k + 1)⟩) := Lib.hid (by rw [HS.out]; exact HST9.out)
                      go_wp2
                      go_roundw
                      case rel => exact ⟨k + 1, ⟨A9, c9⟩, by omega, by go_num, HST10.out⟩
                      case measure => simp [intOf]; omega
                    exact AllReadyH.nil
                  exact AllReadyH.nil
                exact AllReadyH.nil
              refine AllReadyH.cons rfl (fun K hK => ?_) ?_
              · go_simp
                obtain ⟨wq40, hwq40⟩ : ∃ w', w' = wq34.alloc (.cells #[.int .i64 ra, .int .i64 rb, .int .i64 xp] 52) := ⟨_, rfl⟩
                rw [← hwq40]
                have bq40 : Below wq34.heap.size wq34 wq40 := by rw [hwq40]; exact (Below.refl _ _).alloc (Nat.le_refl _) _
                have hn9 := thE_new wq34 (.int .i64 ra) (.int .i64 rb) (.int .i64 xp) 52
                rw [← hwq40] at hn9
                have HNW := Lib.hid hn9
                clear hwq40 hn9
                have FB_q41 := Lib.hid ((FB_q35.out).trans ((bq40).mono (FB_q35.out).size))
                clear FB_q35
                clear bq40
                refine hK.out _ _ (HS0.out _ FB_q41.out) (fun hHeld => ?_)
                clear hK K
                (try simp only [Act.put, List.setIfInBounds_toArray, List.set_cons_zero, List.set_cons_succ, List.getElem_toArray, List.getElem_cons_succ, List.getElem_cons_zero])
                refine wpAnyH_ready (rs := [1]) (by kernel_rfl) (by simp) ?_
                refine AllReadyH.cons rfl (fun K hK => ?_) ?_
                · have hx9 := (twE_cells (HST.out.below FB_q41.out).box).2
                  (try dsimp only at hx9)
                  go_simp
                  clear hx9
                  refine hK.out _ _ (hHeld) (fun hHeld => ?_)
                  clear hK K
                  (try simp only [Act.put, List.setIfInBounds_toArray, List.set_cons_zero, List.set_cons_succ, List.getElem_toArray, List.getElem_cons_succ, List.getElem_cons_zero])
                  refine wpAnyH_ready (rs := [20]) (by kernel_rfl) (by simp) ?_
                  refine AllReadyH.cons rfl (fun K hK => ?_) ?_
                  · have OW := (HST.out.below FB_q41.out).own
                    have hlt9 := (HST.out.below FB_q41.out).lt
                    have hle9 := HLEN.out
                    (try dsimp only at OW)
                    refine stepE rfl _ _ 28 rfl (wc.heap.size + 1) 52 i3 (.agg #[.int .i64 0, .int .i64 0, .int .i64 0]) 3 24 Tryd.underlying28 HI.out HZ0.out HZ1.out HZ2.out rfl (by decide) _ _ _ rfl OW ⟨wq34.heap.size, 0, none⟩ 1 1 [.int .i64 ra, .int .i64 rb, .int .i64 xp] rfl rfl HNW.out (by intro u hu; simp at hu; rcases hu with rfl | rfl | rfl <;> rfl) (by simp only [maxLen]; omega) (by omega) (by omega) ?_
                    intro v9 w9 own9 gr9
                    obtain ⟨A9, c9, rfl, hbx9, hbl9, hst9⟩ := (HST.out.below FB_q41.out).grown (x := ⟨ra, rb, xp⟩) own9 gr9
                    have HBX9 := Lib.hid hbx9; have HBL9 := Lib.hid hbl9; have HST9 := Lib.hid hst9
                    have HXB9 := Lib.hid ((gr9.block wr.heap.size (Nat.lt_of_lt_of_le (Array.getElem?_eq_some_iff.1 HXB.out).1 FB_q41.out.size) (fun e => HXO.out _ e.symm rfl)).trans ((FB_q41.out.block wr.heap.size (Array.getElem?_eq_some_iff.1 HXB.out).1).trans HXB.out))
                    clear hbx9 hbl9 hst9 own9 gr9 OW hlt9 hle9
                    refine hK.out _ _ (HSX.out _ HBL9.out HXB9.out) (fun hHeld => ?_)
                    clear hK K
                    (try simp only [Act.put, List.setIfInBounds_toArray, List.set_cons_zero, List.set_cons_succ, List.getElem_toArray, List.getElem_cons_succ, List.getElem_cons_zero])
                    refine wpAnyH_take (i := 21) (v := ?vq42) rfl (by kernel_rfl) (by kernel_rfl) (by kernel_rfl) (fun _ _ _ h => h) (Or.inl ⟨by rfl, ?yq42⟩) (by assumption) ?_
                    case yq42 => (intro w hSw; (try dsimp only at hSw); go_simp; all_goals (with_reducible rfl))
                    (try simp only [Act.put, List.setIfInBounds_toArray, List.set_cons_zero, List.set_cons_succ, List.getElem_toArray, List.getElem_cons_succ, List.getElem_cons_zero])
                    refine wpAnyH_ready (rs := [22]) (by kernel_rfl) (by simp) ?_
                    refine AllReadyH.cons rfl (fun K hK => ?_) ?_
                    · obtain ⟨a0, a1⟩ := twE_cells HBX9.out
                      have f1 := frozen_of_row _ _ 1 _ _ HBX9.out
                      (try dsimp only at a0 a1)
                      go_simp
                      clear a0 a1 f1
                      refine hK.out _ _ (HSX.out _ HST9.out.bel ((heap_setCell_other _ _ _ _ HXN.out).trans HXB9.out)) (fun hHeld => ?_)
                      clear hK K
                      (try simp only [Act.put, List.setIfInBounds_toArray, List.set_cons_zero, List.set_cons_succ, List.getElem_toArray, List.getElem_cons_succ, List.getElem_cons_zero])
                      refine wpAnyH_done (by kernel_rfl) ?_ _
                      have HST10 : Hid (GrSt wc (w9.setCell ⟨wc.heap.size, 1, none⟩ (.slice A9 (ms.length + 1) c9)) ⟨A9, c9⟩ ⟨nd - 1, mgL es xs (k + 1)⟩) := Lib.hid (by rw [HS.out]; exact HST9.out)
                      go_wp2
                      go_roundw
                      case rel => exact ⟨k + 1, ⟨A9, c9⟩, by omega, by go_num, HST10.out⟩
                      case measure => simp [intOf]; omega
                    exact AllReadyH.nil
                  exact AllReadyH.nil
                exact AllReadyH.nil
              exact AllReadyH.nil
            exact AllReadyH.nil
          exact AllReadyH.nil
      · have hkl : k = es.length := by omega
        subst hkl
        have hbx := hST.box
        have hrb := (HK.out _ hB2).2
        obtain ⟨v0, v1⟩ := twE_cells hbx
        obtain ⟨z0, z1⟩ := twE_cells hrb
        have f0 := frozen_of_row _ _ 0 _ _ hrb; have f1 := frozen_of_row _ _ 1 _ _ hrb
        dsimp only at v0 v1
        have HF := Lib.hid (set2E_at hrb (.int .i64 (nd - 1)) (.slice hh.A (mgL es xs es.length).length hh.c))
        have HO : Hid (OwnG wr (wc.heap.size + 1) wr.heap.size hh ⟨nd - 1, mgL es xs es.length⟩) := Lib.hid (OwnG.of_own hST.own)
        have HBB := Lib.hid (HB.out.trans (hB2.mono HB.out.size))
        have HWC : Hid (w2.heap.size ≤ wc.heap.size) := Lib.hid BC.out.size
        clear hbx hrb hB2 hST
        generalize mgL es xs es.length = V at *
        go_wp2
        (try simp only [Exit.inBlock, Exit.then])
        refine bodyPost_ret (results_cell_row rfl _ _ (w.heap.size + 1) _ _ (0, 0) _ rfl HF.out Tryd.underlying30 rfl (by kernel_rfl)) rfl ?_
        exact ⟨hh, rfl, ((HO.out.set (by have := HS2.out; have := HWC.out; omega) _).set (by have := HS2.out; have := HWC.out; omega) _).more (by have := HS2.out; have := HWC.out; omega) (by simp), (HBB.out.setCell (p := ⟨w.heap.size + 1, 0, none⟩) (by show w.heap.size ≤ w.heap.size + 1; omega) _).setCell (p := ⟨w.heap.size + 1, 1, none⟩) (by show w.heap.size ≤ w.heap.size + 1; omega) _⟩
end Go.Proofs.YtlcapifgpcimpaaDoor
