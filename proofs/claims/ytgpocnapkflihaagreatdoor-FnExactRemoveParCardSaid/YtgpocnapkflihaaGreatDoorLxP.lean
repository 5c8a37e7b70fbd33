/- The program's SourceOf and TargetOf: for each wire the link that has it. Made by mklxp.py. -/
import Derived.Test.YtgpocnapkflihaaGreatDoorLxM
import Derived.Test.YtgpocnapkflihaaGreatDoorLxR
import Derived.Deep.RegionHeldLaw
import Derived.Deep.DeepCutAuto
import Derived.BigQuiet
namespace Go.Proofs.YtgpocnapkflihaaGreatDoor
set_option linter.unusedSimpArgs false
set_option linter.unusedVariables false
open Go.ChangeAt Go.ChangeShapes Go.RowKit Go.WideShapes

theorem grown_transx {a b c : World} {r : Option Nat} (h : a.grownBy b r) (h' : b.grownBy c r) : a.grownBy c r :=
  ⟨h'.os.trans h.os, h'.tape.trans h.tape, h'.output.trans h.output, Nat.le_trans h.size h'.size, fun k hk hr => (h'.block k (Nat.lt_of_lt_of_le hk h.size) hr).trans (h.block k hk hr)⟩
theorem grown_reflx (w : World) (o : Option Nat) : w.grownBy w o := ⟨rfl, rfl, rfl, Nat.le_refl _, fun _ _ _ => rfl⟩
set_option maxRecDepth 100000 in
set_option maxHeartbeats 2000000 in
theorem linksOut_any (h : NH) (N : Nt) (w : World) (hv : valN N = true) (r : RdN w w.heap.size h N) :
    Calls Tryz.prog 64 #[.agg #[.slice h.A N.w.length h.c, .slice h.L N.l.length h.d, .slice h.C N.c.length h.e], .func (.func 65) #[] #[]] w (Gives w (lxL outL N)) := by
  obtain ⟨h48, h48l⟩ := valN_size hv
  obtain ⟨n, hn⟩ : ∃ n, N.w.length = n := ⟨_, rfl⟩
  have hn48 : n ≤ 48 := by omega
  obtain ⟨w0, hw0⟩ : ∃ w0, w0 = w.alloc (.cells #[.slice h.A N.w.length h.c, .slice h.L N.l.length h.d, .slice h.C N.c.length h.e] 30) := ⟨_, rfl⟩
  obtain ⟨hb, hh, hsz⟩ := box3_any w (.slice h.A N.w.length h.c) (.slice h.L N.l.length h.d) (.slice h.C N.c.length h.e) 30
  rw [← hw0] at hb hh hsz
  obtain ⟨g0, hg0⟩ : ∃ g, w0.heap.size = g := ⟨_, rfl⟩
  obtain ⟨w1, hw1⟩ : ∃ u, u = w0.alloc (.cells #[.int .i64 (-1)] 2) := ⟨_, rfl⟩
  have hb1 : Below g0 w0 w1 := by rw [hw1]; exact (Below.refl _ _).alloc (by omega) _
  have hs1 : w1.heap.size = g0 + 1 := by rw [hw1]; simp [hg0]
  have hc1 : w1.cell? ⟨g0, 0, none⟩ = some (.int .i64 (-1)) := by rw [hw1, ← hg0]; exact cell_of_row _ _ 0 _ _ (0, 0) (heap_alloc_new _ _)
  have HREP := Lib.hid (repeat_any g0 (-1) n w1 (by omega) hc1 (by omega))
  have HK := Lib.hid (fun (wx : World) (hx : Below g0 w0 wx) => three_cells ((hx.block w.heap.size (by omega)).trans hh))
  have HRL := Lib.hid (fun (wx : World) (hx : Below g0 w0 wx) => show RdN wx g0 h N from ((r.below hb).more (by omega)).below (hg0 ▸ hx))
  have HB0 := Lib.hid hb; have HB1 := Lib.hid hb1
  have ho := oneP_out hv
  have HO := Lib.hid ho
  have HZ := Lib.hid (LnQ.zero outL N)
  have HN := Lib.hid hn; have HW1 := Lib.hid hw1; have HG0 := Lib.hid hg0
  have hs0 : w.heap.size ≤ g0 := by omega
  obtain ⟨y0, y1, y2⟩ := HK.out _ (Below.refl _ w0)
  have y0' := (HK.out _ hb1).1
  rw [hw1] at y0'
  rw [hn] at y0 y0'
  clear hb hh hsz r hb1 hw1 hn hc1 ho hv
  go_enter Tryz.func64, Tryz.ntmps64
  go_upto_region 1 with (fail)
  rw [← hw0]
  clear hw0
  go_wp2_with (fail)
  rw [← HW1.out]
  refine HREP.out.mono ?_
  rintro e w2 ⟨A, c, rfl, own2, bel2⟩
  have hlr : (List.replicate n (-1 : Int)).length = n := List.length_replicate
  rw [hlr] at own2 ⊢
  have B2 := Lib.hid (HB1.out.trans (bel2.mono (by omega)))
  have O2 := Lib.hid own2
  have hw12 := bel2.size
  have HTOP : Hid (∀ b, Value.ownBlock (.slice A n c) = some b → b < w2.heap.size ∧ g0 < b) := Lib.hid fun b e => ⟨(own2.lt b e).2, by have := (own2.lt b e).1; omega⟩
  clear own2 bel2 hlr y0 y1 y2 y0'
  obtain ⟨y0, y1, y2⟩ := HK.out _ B2.out
  go_wp2
  go_loopw [18] (fun i wr => ∃ (k : Nat) (cur : List Int), k ≤ N.l.length ∧ i = .int .i64 k ∧ LnQ outL N cur k 0 ∧ wr.ownsRow w1.heap.size 2 1 (.slice A n c) n (cur.map (Value.int .i64)) ∧ w2.heap.size ≤ wr.heap.size ∧ Below g0 w0 wr) (fun i _ => N.l.length - (intOf i).toNat)
  case atStart => exact ⟨0, _, Nat.zero_le _, rfl, HZ.out, (by rw [HN.out]; exact O2.out), Nat.le_refl _, B2.out⟩
  case round =>
    obtain ⟨k, cur, hk, rfl, hq, hown, htop, hB⟩ := hrel
    clear y0 y1 y2
    by_cases hlt : k < N.l.length
    · obtain ⟨b, off, hA, hbb, hcells⟩ := (HRL.out _ hB).2.1.at (show 0 < N.l.length by omega)
      obtain ⟨x0, x1, x2, x3⟩ := hcells k hlt
      have hsr := hB.size
      have HIN := Lib.hid (fun t (ht : t < (outL (N.l.getD k Lk.nil)).length) => HO.out.ins k hlt t ht)
      have HST := Lib.hid (fun (cur : List Int) m (hq : LnQ outL N cur k m) hm => hq.step HO.out hlt hm)
      have HNX := Lib.hid (fun (cur : List Int) (hq : LnQ outL N cur k (outL (N.l.getD k Lk.nil)).length) => hq.next)
      have hol := outL_len (N.l.getD k Lk.nil)
      obtain ⟨⟨lk, la, lb, lc⟩, hl⟩ : ∃ l, N.l.getD k Lk.nil = l := ⟨_, rfl⟩
      rw [hl] at x0 x1 x2 x3 HIN HST HNX hol
      dsimp only at x0 x1 x2 x3
      obtain ⟨bl, z0, z1, z2, z3, zs⟩ := lnk_any wr ⟨lk, la, lb, lc⟩ 54
      dsimp only at bl z0 z1 z2 z3
      obtain ⟨u1, hu1⟩ : ∃ u1, u1 = wr.alloc (.cells #[.int .i64 lk, .int .i64 la, .int .i64 lb, .int .i64 lc] 54) := ⟨_, rfl⟩
      have HU1 := Lib.hid hu1
      rw [← hu1] at bl zs z0 z1 z2 z3
      have BL := Lib.hid (hB.trans (bl.mono (show g0 ≤ wr.heap.size by omega)))
      have OW := Lib.hid (own_below hown bl (Nat.le_refl _))
      have HQ0 := Lib.hid hq
      have htop1 : w2.heap.size ≤ u1.heap.size := by omega
      clear hcells hB bl hl hown hq hu1 zs
      obtain ⟨hAd, hcd, hhs, hL, hd, hC, he⟩ := h
      dsimp only at hA
      subst hA
      go_wp2_with (fail)
      rw [← HU1.out]
      clear x0 x1 x2 x3 HU1 z0 z1 z2 z3
      refine (show Calls Tryz.prog 65 #[.agg #[.int .i64 lk, .int .i64 la, .int .i64 lb, .int .i64 lc]] u1 (Gives u1 (outL ⟨lk, la, lb, lc⟩)) from outputsOf_any ⟨lk, la, lb, lc⟩ u1).mono ?_
      rintro e u2 ⟨A2, c2, rfl, o2, b2⟩
      have BL2 := Lib.hid (BL.out.trans (b2.mono (show g0 ≤ u1.heap.size by omega)))
      have OW2 := Lib.hid (own_below OW.out b2 (Nat.le_refl _))
      have R2 := Lib.hid (RdI.of_own o2)
      have hs12 := b2.size
      have HO2 := Lib.hid (fun b (e : Value.ownBlock (.slice A2 (outL ⟨lk, la, lb, lc⟩).length c2) = some b) => (o2.lt b e).1)
      have hul := BL2.out.size
      clear o2 b2
      generalize outL ⟨lk, la, lb, lc⟩ = X at *
      go_wp2
      go_loopw [27] (fun i wx => ∃ (m : Nat) (cur : List Int), m ≤ X.length ∧ i = .int .i64 m ∧ LnQ outL N cur k m ∧ wx.ownsRow w1.heap.size 2 1 (.slice A n c) n (cur.map (Value.int .i64)) ∧ Below g0 w0 wx ∧ u2.grownBy wx (Value.ownBlock (.slice A n c))) (fun i _ => X.length - (intOf i).toNat)
      case atStart => exact ⟨0, cur, Nat.zero_le _, rfl, HQ0.out, OW2.out, BL2.out, grown_reflx _ _⟩
      case round =>
        obtain ⟨m, cm, hm, rfl, hq, hown, hB, hgr⟩ := hrel
        by_cases hlm : m < X.length
        · obtain ⟨bo, offo, hA2, hbo, hco⟩ := R2.out.2 (by omega)
          subst hA2
          have hbog : u1.heap.size ≤ bo := HO2.out bo rfl
          have hx := (World.cell?_of_block (a := ⟨bo, offo + m, none⟩) (hgr.block bo hbo (fun e => by have := (HTOP.out bo e.symm).1; omega))).trans (hco m hlm)
          have hin := HIN.out m hlm
          have hst := HST.out cm m hq hlm
          obtain ⟨z, hz⟩ : ∃ z, X.getD m 0 = z := ⟨_, rfl⟩
          rw [hz] at hx hin hst
          obtain ⟨_, hix, ez⟩ := inW_yes hin
          rw [HN.out] at hix
          have hcl := hq.1
          rw [HN.out] at hcl
          obtain ⟨g, cap, hv, hlo, hhi⟩ := hown.form (by omega)
          have hAg : A = some ⟨g, 0, none⟩ ∧ c = cap := by injection hv with x y z; exact ⟨x, z⟩
          obtain ⟨rfl, rfl⟩ := hAg
          have ca := hown.cellAt (g := g) z.toNat (by omega)
          have fa := hown.frozenAt (g := g) z.toNat
          obtain ⟨d0, e0⟩ : ∃ x, wr.cell? ⟨g, z.toNat, none⟩ = some x := ⟨_, ca.trans (List.getElem?_eq_getElem (by simp; omega))⟩
          have hs1' := hown.stored z.toNat (.int .i64 (k : Nat))
          rw [← List.map_set] at hs1'
          have OW5 := Lib.hid hs1'.1
          have GR5 := Lib.hid (grown_transx hgr hs1'.2)
          have BB5 := Lib.hid (hB.grown hs1'.2 (by have := hB.size; omega) (fun q hq => by injection hq with hq; omega))
          have ST5 := Lib.hid hst
          generalize z.toNat = iz at *
          subst ez
          have hizn : (iz : Int) < (n : Int) := by omega
          clear hco hs1' hst hgr hB hown hq ca hcl hz hin hv
          go_wp2
          go_roundw
          case rel => exact ⟨m + 1, _, by omega, by go_num, ST5.out, OW5.out, BB5.out, GR5.out⟩
          case measure => simp [intOf]; omega
        · have hmx : m = X.length := by omega
          subst hmx
          have HNN := Lib.hid (HNX.out cm hq)
          have OW6 := Lib.hid hown; have BB6 := Lib.hid hB
          have hgs := hgr.size
          clear hq hown hB hgr
          go_wp2
          go_roundw
          case rel => exact ⟨k + 1, _, by omega, by go_num, HNN.out, OW6.out, by omega, BB6.out⟩
          case measure => simp [intOf]; omega
    · have hkl : k = N.l.length := by omega
      subst hkl
      have hall := hq.all
      subst hall
      have HG : Hid (Gives w (lxL outL N) (.returned (.slice A n c)) wr) := Lib.hid ⟨A, c, by rw [lxL_len, HN.out], by rw [lxL_len, HN.out]; exact hown.mono (by omega), HB0.out.trans (hB.mono (by omega))⟩
      clear hq hown hB
      go_wp2
      go_ret
      exact HG.out
set_option maxRecDepth 100000 in
set_option maxHeartbeats 2000000 in
theorem linksIn_any (h : NH) (N : Nt) (w : World) (hv : valN N = true) (r : RdN w w.heap.size h N) :
    Calls Tryz.prog 64 #[.agg #[.slice h.A N.w.length h.c, .slice h.L N.l.length h.d, .slice h.C N.c.length h.e], .func (.func 45) #[] #[]] w (Gives w (lxL inL N)) := by
  obtain ⟨h48, h48l⟩ := valN_size hv
  obtain ⟨n, hn⟩ : ∃ n, N.w.length = n := ⟨_, rfl⟩
  have hn48 : n ≤ 48 := by omega
  obtain ⟨w0, hw0⟩ : ∃ w0, w0 = w.alloc (.cells #[.slice h.A N.w.length h.c, .slice h.L N.l.length h.d, .slice h.C N.c.length h.e] 30) := ⟨_, rfl⟩
  obtain ⟨hb, hh, hsz⟩ := box3_any w (.slice h.A N.w.length h.c) (.slice h.L N.l.length h.d) (.slice h.C N.c.length h.e) 30
  rw [← hw0] at hb hh hsz
  obtain ⟨g0, hg0⟩ : ∃ g, w0.heap.size = g := ⟨_, rfl⟩
  obtain ⟨w1, hw1⟩ : ∃ u, u = w0.alloc (.cells #[.int .i64 (-1)] 2) := ⟨_, rfl⟩
  have hb1 : Below g0 w0 w1 := by rw [hw1]; exact (Below.refl _ _).alloc (by omega) _
  have hs1 : w1.heap.size = g0 + 1 := by rw [hw1]; simp [hg0]
  have hc1 : w1.cell? ⟨g0, 0, none⟩ = some (.int .i64 (-1)) := by rw [hw1, ← hg0]; exact cell_of_row _ _ 0 _ _ (0, 0) (heap_alloc_new _ _)
  have HREP := Lib.hid (repeat_any g0 (-1) n w1 (by omega) hc1 (by omega))
  have HK := Lib.hid (fun (wx : World) (hx : Below g0 w0 wx) => three_cells ((hx.block w.heap.size (by omega)).trans hh))
  have HRL := Lib.hid (fun (wx : World) (hx : Below g0 w0 wx) => show RdN wx g0 h N from ((r.below hb).more (by omega)).below (hg0 ▸ hx))
  have HB0 := Lib.hid hb; have HB1 := Lib.hid hb1
  have ho := oneP_in hv
  have HO := Lib.hid ho
  have HZ := Lib.hid (LnQ.zero inL N)
  have HN := Lib.hid hn; have HW1 := Lib.hid hw1; have HG0 := Lib.hid hg0
  have hs0 : w.heap.size ≤ g0 := by omega
  obtain ⟨y0, y1, y2⟩ := HK.out _ (Below.refl _ w0)
  have y0' := (HK.out _ hb1).1
  rw [hw1] at y0'
  rw [hn] at y0 y0'
  clear hb hh hsz r hb1 hw1 hn hc1 ho hv
  go_enter Tryz.func64, Tryz.ntmps64
  go_upto_region 1 with (fail)
  rw [← hw0]
  clear hw0
  go_wp2_with (fail)
  rw [← HW1.out]
  refine HREP.out.mono ?_
  rintro e w2 ⟨A, c, rfl, own2, bel2⟩
  have hlr : (List.replicate n (-1 : Int)).length = n := List.length_replicate
  rw [hlr] at own2 ⊢
  have B2 := Lib.hid (HB1.out.trans (bel2.mono (by omega)))
  have O2 := Lib.hid own2
  have hw12 := bel2.size
  have HTOP : Hid (∀ b, Value.ownBlock (.slice A n c) = some b → b < w2.heap.size ∧ g0 < b) := Lib.hid fun b e => ⟨(own2.lt b e).2, by have := (own2.lt b e).1; omega⟩
  clear own2 bel2 hlr y0 y1 y2 y0'
  obtain ⟨y0, y1, y2⟩ := HK.out _ B2.out
  go_wp2
  go_loopw [18] (fun i wr => ∃ (k : Nat) (cur : List Int), k ≤ N.l.length ∧ i = .int .i64 k ∧ LnQ inL N cur k 0 ∧ wr.ownsRow w1.heap.size 2 1 (.slice A n c) n (cur.map (Value.int .i64)) ∧ w2.heap.size ≤ wr.heap.size ∧ Below g0 w0 wr) (fun i _ => N.l.length - (intOf i).toNat)
  case atStart => exact ⟨0, _, Nat.zero_le _, rfl, HZ.out, (by rw [HN.out]; exact O2.out), Nat.le_refl _, B2.out⟩
  case round =>
    obtain ⟨k, cur, hk, rfl, hq, hown, htop, hB⟩ := hrel
    clear y0 y1 y2
    by_cases hlt : k < N.l.length
    · obtain ⟨b, off, hA, hbb, hcells⟩ := (HRL.out _ hB).2.1.at (show 0 < N.l.length by omega)
      obtain ⟨x0, x1, x2, x3⟩ := hcells k hlt
      have hsr := hB.size
      have HIN := Lib.hid (fun t (ht : t < (inL (N.l.getD k Lk.nil)).length) => HO.out.ins k hlt t ht)
      have HST := Lib.hid (fun (cur : List Int) m (hq : LnQ inL N cur k m) hm => hq.step HO.out hlt hm)
      have HNX := Lib.hid (fun (cur : List Int) (hq : LnQ inL N cur k (inL (N.l.getD k Lk.nil)).length) => hq.next)
      have hol := inL_len (N.l.getD k Lk.nil)
      obtain ⟨⟨lk, la, lb, lc⟩, hl⟩ : ∃ l, N.l.getD k Lk.nil = l := ⟨_, rfl⟩
      rw [hl] at x0 x1 x2 x3 HIN HST HNX hol
      dsimp only at x0 x1 x2 x3
      obtain ⟨bl, z0, z1, z2, z3, zs⟩ := lnk_any wr ⟨lk, la, lb, lc⟩ 54
      dsimp only at bl z0 z1 z2 z3
      obtain ⟨u1, hu1⟩ : ∃ u1, u1 = wr.alloc (.cells #[.int .i64 lk, .int .i64 la, .int .i64 lb, .int .i64 lc] 54) := ⟨_, rfl⟩
      have HU1 := Lib.hid hu1
      rw [← hu1] at bl zs z0 z1 z2 z3
      have BL := Lib.hid (hB.trans (bl.mono (show g0 ≤ wr.heap.size by omega)))
      have OW := Lib.hid (own_below hown bl (Nat.le_refl _))
      have HQ0 := Lib.hid hq
      have htop1 : w2.heap.size ≤ u1.heap.size := by omega
      clear hcells hB bl hl hown hq hu1 zs
      obtain ⟨hAd, hcd, hhs, hL, hd, hC, he⟩ := h
      dsimp only at hA
      subst hA
      go_wp2_with (fail)
      rw [← HU1.out]
      clear x0 x1 x2 x3 HU1 z0 z1 z2 z3
      refine (show Calls Tryz.prog 45 #[.agg #[.int .i64 lk, .int .i64 la, .int .i64 lb, .int .i64 lc]] u1 (Gives u1 (inL ⟨lk, la, lb, lc⟩)) from inputsOf_any ⟨lk, la, lb, lc⟩ u1).mono ?_
      rintro e u2 ⟨A2, c2, rfl, o2, b2⟩
      have BL2 := Lib.hid (BL.out.trans (b2.mono (show g0 ≤ u1.heap.size by omega)))
      have OW2 := Lib.hid (own_below OW.out b2 (Nat.le_refl _))
      have R2 := Lib.hid (RdI.of_own o2)
      have hs12 := b2.size
      have HO2 := Lib.hid (fun b (e : Value.ownBlock (.slice A2 (inL ⟨lk, la, lb, lc⟩).length c2) = some b) => (o2.lt b e).1)
      have hul := BL2.out.size
      clear o2 b2
      generalize inL ⟨lk, la, lb, lc⟩ = X at *
      go_wp2
      go_loopw [27] (fun i wx => ∃ (m : Nat) (cur : List Int), m ≤ X.length ∧ i = .int .i64 m ∧ LnQ inL N cur k m ∧ wx.ownsRow w1.heap.size 2 1 (.slice A n c) n (cur.map (Value.int .i64)) ∧ Below g0 w0 wx ∧ u2.grownBy wx (Value.ownBlock (.slice A n c))) (fun i _ => X.length - (intOf i).toNat)
      case atStart => exact ⟨0, cur, Nat.zero_le _, rfl, HQ0.out, OW2.out, BL2.out, grown_reflx _ _⟩
      case round =>
        obtain ⟨m, cm, hm, rfl, hq, hown, hB, hgr⟩ := hrel
        by_cases hlm : m < X.length
        · obtain ⟨bo, offo, hA2, hbo, hco⟩ := R2.out.2 (by omega)
          subst hA2
          have hbog : u1.heap.size ≤ bo := HO2.out bo rfl
          have hx := (World.cell?_of_block (a := ⟨bo, offo + m, none⟩) (hgr.block bo hbo (fun e => by have := (HTOP.out bo e.symm).1; omega))).trans (hco m hlm)
          have hin := HIN.out m hlm
          have hst := HST.out cm m hq hlm
          obtain ⟨z, hz⟩ : ∃ z, X.getD m 0 = z := ⟨_, rfl⟩
          rw [hz] at hx hin hst
          obtain ⟨_, hix, ez⟩ := inW_yes hin
          rw [HN.out] at hix
          have hcl := hq.1
          rw [HN.out] at hcl
          obtain ⟨g, cap, hv, hlo, hhi⟩ := hown.form (by omega)
          have hAg : A = some ⟨g, 0, none⟩ ∧ c = cap := by injection hv with x y z; exact ⟨x, z⟩
          obtain ⟨rfl, rfl⟩ := hAg
          have ca := hown.cellAt (g := g) z.toNat (by omega)
          have fa := hown.frozenAt (g := g) z.toNat
          obtain ⟨d0, e0⟩ : ∃ x, wr.cell? ⟨g, z.toNat, none⟩ = some x := ⟨_, ca.trans (List.getElem?_eq_getElem (by simp; omega))⟩
          have hs1' := hown.stored z.toNat (.int .i64 (k : Nat))
          rw [← List.map_set] at hs1'
          have OW5 := Lib.hid hs1'.1
          have GR5 := Lib.hid (grown_transx hgr hs1'.2)
          have BB5 := Lib.hid (hB.grown hs1'.2 (by have := hB.size; omega) (fun q hq => by injection hq with hq; omega))
          have ST5 := Lib.hid hst
          generalize z.toNat = iz at *
          subst ez
          have hizn : (iz : Int) < (n : Int) := by omega
          clear hco hs1' hst hgr hB hown hq ca hcl hz hin hv
          go_wp2
          go_roundw
          case rel => exact ⟨m + 1, _, by omega, by go_num, ST5.out, OW5.out, BB5.out, GR5.out⟩
          case measure => simp [intOf]; omega
        · have hmx : m = X.length := by omega
          subst hmx
          have HNN := Lib.hid (HNX.out cm hq)
          have OW6 := Lib.hid hown; have BB6 := Lib.hid hB
          have hgs := hgr.size
          clear hq hown hB hgr
          go_wp2
          go_roundw
          case rel => exact ⟨k + 1, _, by omega, by go_num, HNN.out, OW6.out, by omega, BB6.out⟩
          case measure => simp [intOf]; omega
    · have hkl : k = N.l.length := by omega
      subst hkl
      have hall := hq.all
      subst hall
      have HG : Hid (Gives w (lxL inL N) (.returned (.slice A n c)) wr) := Lib.hid ⟨A, c, by rw [lxL_len, HN.out], by rw [lxL_len, HN.out]; exact hown.mono (by omega), HB0.out.trans (hB.mono (by omega))⟩
      clear hq hown hB
      go_wp2
      go_ret
      exact HG.out
/-- The value of linkWith. -/
theorem lxOut_val {N : Nt} {x : Int} (hv : valN N = true) (hx : inW N.w.length x = false) : srcN N x = -1 := by
  unfold srcN
  rw [hv, hx]; rfl
/-- The value of linkWith. -/
theorem lxIn_val {N : Nt} {x : Int} (hv : valN N = true) (hx : inW N.w.length x = false) : tgtN N x = -1 := by
  unfold tgtN
  rw [hv, hx]; rfl
end Go.Proofs.YtgpocnapkflihaaGreatDoor
