/- The program's SourceOf and TargetOf: for each wire the link that has it. Made by mklxp.py. The program's sets of links: union, intersection, setOf, meets, contains, links. The table of math/bits out of a row's list; a witness laid by a function. The parsing of a net in memory: its box; isFired, partOf, add, unite. The parsing of a net: fire. The parsing of a net: isOpen, partOfWire, isReady, readyLinks. -/
import Derived.Test.YtfdpkhiiboghiaaDoorKQPgG
import Derived.Test.YtfdpkhiiboghiaaDoorKQPaM
import Derived.Deep.RegionHeldLaw
import Derived.Deep.DeepCutAuto
import Derived.BigQuiet
import Derived.Test.YtfdpkhiiboghiaaDoorShelfZ
import Derived.Laws.Bits64b
import Derived.Shelf.Spec.TrailingZeros
import Derived.Test.YtfdpkhiiboghiaaDoorKQMath
import Derived.Lay
import Derived.Stop.Joined
import Derived.MakeChecks
import Derived.Deep.RegionWith
import Derived.Maps.AppendAt
namespace Go.Proofs.YtfdpkhiiboghiaaDoor
set_option linter.unusedSimpArgs false
set_option linter.unusedVariables false
section
set_option linter.unusedSimpArgs false
set_option linter.unusedVariables false
open Go.ChangeAt Go.ChangeShapes Go.RowKit Go.WideShapes

theorem grown_transx {a b c : World} {r : Option Nat} (h : a.grownBy b r) (h' : b.grownBy c r) : a.grownBy c r :=
  ⟨h'.os.trans h.os, h'.tape.trans h.tape, h'.output.trans h.output, Nat.le_trans h.size h'.size, fun k hk hr => (h'.block k (Nat.lt_of_lt_of_le hk h.size) hr).trans (h.block k hk hr)⟩
theorem grown_reflx (w : World) (o : Option Nat) : w.grownBy w o := ⟨rfl, rfl, rfl, Nat.le_refl _, fun _ _ _ => rfl⟩
set_option maxRecDepth 100000 in
set_option maxHeartbeats 2000000 in
theorem linksOut_any (h : NH) (N : Nt) (w : World) (hv : valN N = true) (r : RdN w w.heap.size h N) :
    Calls Tryd.prog 44 #[.agg #[.slice h.A N.w.length h.c, .slice h.L N.l.length h.d, .slice h.C N.c.length h.e], .func (.func 45) #[] #[]] w (Gives w (lxL outL N)) := by
  obtain ⟨h48, h48l⟩ := valN_size hv
  obtain ⟨n, hn⟩ : ∃ n, N.w.length = n := ⟨_, rfl⟩
  have hn48 : n ≤ 48 := by omega
  obtain ⟨w0, hw0⟩ : ∃ w0, w0 = w.alloc (.cells #[.slice h.A N.w.length h.c, .slice h.L N.l.length h.d, .slice h.C N.c.length h.e] 31) := ⟨_, rfl⟩
  obtain ⟨hb, hh, hsz⟩ := box3_any w (.slice h.A N.w.length h.c) (.slice h.L N.l.length h.d) (.slice h.C N.c.length h.e) 31
  rw [← hw0] at hb hh hsz
  obtain ⟨g0, hg0⟩ : ∃ g, w0.heap.size = g := ⟨_, rfl⟩
  obtain ⟨w1, hw1⟩ : ∃ u, u = w0.alloc (.cells #[.int .i64 (-1)] 2) := ⟨_, rfl⟩
  have hb1 : Below g0 w0 w1 := by rw [hw1]; exact (Below.refl _ _).alloc (by omega) _
  have hs1 : w1.heap.size = g0 + 1 := by rw [hw1]; simp [hg0]
  have hc1 : w1.cell? ⟨g0, 0, none⟩ = some (.int .i64 (-1)) := by rw [hw1, ← hg0]; exact cell_of_row _ _ 0 _ _ (0, 0) (heap_alloc_new _ _)
  have HREP := Lib.hid (repeat_any g0 (-1) n w1 (by omega) hc1 (by omega))
  have HK := Lib.hid (fun (wx : World) (hx : Below g0 w0 wx) => three_cells ((hx.block w.heap.size (by omega)).trans hh))
  have HRL := Lib.hid (fun (wx : World) (hx : Below g0 w0 wx) => show RdN wx g0 h N from ((r.below hb).more (by omega)).below (hg0 ▸ hx))
  have HB0 := Lib.hid hb; have HB1 := Lib.hid hb1
  have ho := oneP_out hv
  have HO := Lib.hid ho
  have HZ := Lib.hid (LnQ.zero outL N)
  have HN := Lib.hid hn; have HW1 := Lib.hid hw1; have HG0 := Lib.hid hg0
  have hs0 : w.heap.size ≤ g0 := by omega
  obtain ⟨y0, y1, y2⟩ := HK.out _ (Below.refl _ w0)
  have y0' := (HK.out _ hb1).1
  rw [hw1] at y0'
  rw [hn] at y0 y0'
  clear hb hh hsz r hb1 hw1 hn hc1 ho hv
  go_enter Tryd.func44, Tryd.ntmps44
  go_upto_region 1 with (fail)
  rw [← hw0]
  clear hw0
  go_wp2_with (fail)
  rw [← HW1.out]
  refine HREP.out.mono ?_
  rintro e w2 ⟨A, c, rfl, own2, bel2⟩
  have hlr : (List.replicate n (-1 : Int)).length = n := List.length_replicate
  rw [hlr] at own2 ⊢
  have B2 := Lib.hid (HB1.out.trans (bel2.mono (by omega)))
  have O2 := Lib.hid own2
  have hw12 := bel2.size
  have HTOP : Hid (∀ b, Value.ownBlock (.slice A n c) = some b → b < w2.heap.size ∧ g0 < b) := Lib.hid fun b e => ⟨(own2.lt b e).2, by have := (own2.lt b e).1; omega⟩
  clear own2 bel2 hlr y0 y1 y2 y0'
  obtain ⟨y0, y1, y2⟩ := HK.out _ B2.out
  go_wp2
  go_loopw [18] (fun i wr => ∃ (k : Nat) (cur : List Int), k ≤ N.l.length ∧ i = .int .i64 k ∧ LnQ outL N cur k 0 ∧ wr.ownsRow w1.heap.size 2 1 (.slice A n c) n (cur.map (Value.int .i64)) ∧ w2.heap.size ≤ wr.heap.size ∧ Below g0 w0 wr) (fun i _ => N.l.length - (intOf i).toNat)
  case atStart => exact ⟨0, _, Nat.zero_le _, rfl, HZ.out, (by rw [HN.out]; exact O2.out), Nat.le_refl _, B2.out⟩
  case round =>
    obtain ⟨k, cur, hk, rfl, hq, hown, htop, hB⟩ := hrel
    clear y0 y1 y2
    by_cases hlt : k < N.l.length
    · obtain ⟨b, off, hA, hbb, hcells⟩ := (HRL.out _ hB).2.1.at (show 0 < N.l.length by omega)
      obtain ⟨x0, x1, x2, x3⟩ := hcells k hlt
      have hsr := hB.size
      have HIN := Lib.hid (fun t (ht : t < (outL (N.l.getD k Lk.nil)).length) => HO.out.ins k hlt t ht)
      have HST := Lib.hid (fun (cur : List Int) m (hq : LnQ outL N cur k m) hm => hq.step HO.out hlt hm)
      have HNX := Lib.hid (fun (cur : List Int) (hq : LnQ outL N cur k (outL (N.l.getD k Lk.nil)).length) => hq.next)
      have hol := outL_len (N.l.getD k Lk.nil)
      obtain ⟨⟨lk, la, lb, lc⟩, hl⟩ : ∃ l, N.l.getD k Lk.nil = l := ⟨_, rfl⟩
      rw [hl] at x0 x1 x2 x3 HIN HST HNX hol
      dsimp only at x0 x1 x2 x3
      obtain ⟨bl, z0, z1, z2, z3, zs⟩ := lnk_any wr ⟨lk, la, lb, lc⟩ 53
      dsimp only at bl z0 z1 z2 z3
      obtain ⟨u1, hu1⟩ : ∃ u1, u1 = wr.alloc (.cells #[.int .i64 lk, .int .i64 la, .int .i64 lb, .int .i64 lc] 53) := ⟨_, rfl⟩
      have HU1 := Lib.hid hu1
      rw [← hu1] at bl zs z0 z1 z2 z3
      have BL := Lib.hid (hB.trans (bl.mono (show g0 ≤ wr.heap.size by omega)))
      have OW := Lib.hid (own_below hown bl (Nat.le_refl _))
      have HQ0 := Lib.hid hq
      have htop1 : w2.heap.size ≤ u1.heap.size := by omega
      clear hcells hB bl hl hown hq hu1 zs
      obtain ⟨hAd, hcd, hhs, hL, hd, hC, he⟩ := h
      dsimp only at hA
      subst hA
      go_wp2_with (fail)
      rw [← HU1.out]
      clear x0 x1 x2 x3 HU1 z0 z1 z2 z3
      refine (show Calls Tryd.prog 45 #[.agg #[.int .i64 lk, .int .i64 la, .int .i64 lb, .int .i64 lc]] u1 (Gives u1 (outL ⟨lk, la, lb, lc⟩)) from outputsOf_any ⟨lk, la, lb, lc⟩ u1).mono ?_
      rintro e u2 ⟨A2, c2, rfl, o2, b2⟩
      have BL2 := Lib.hid (BL.out.trans (b2.mono (show g0 ≤ u1.heap.size by omega)))
      have OW2 := Lib.hid (own_below OW.out b2 (Nat.le_refl _))
      have R2 := Lib.hid (RdI.of_own o2)
      have hs12 := b2.size
      have HO2 := Lib.hid (fun b (e : Value.ownBlock (.slice A2 (outL ⟨lk, la, lb, lc⟩).length c2) = some b) => (o2.lt b e).1)
      have hul := BL2.out.size
      clear o2 b2
      generalize outL ⟨lk, la, lb, lc⟩ = X at *
      go_wp2
      go_loopw [27] (fun i wx => ∃ (m : Nat) (cur : List Int), m ≤ X.length ∧ i = .int .i64 m ∧ LnQ outL N cur k m ∧ wx.ownsRow w1.heap.size 2 1 (.slice A n c) n (cur.map (Value.int .i64)) ∧ Below g0 w0 wx ∧ u2.grownBy wx (Value.ownBlock (.slice A n c))) (fun i _ => X.length - (intOf i).toNat)
      case atStart => exact ⟨0, cur, Nat.zero_le _, rfl, HQ0.out, OW2.out, BL2.out, grown_reflx _ _⟩
      case round =>
        obtain ⟨m, cm, hm, rfl, hq, hown, hB, hgr⟩ := hrel
        by_cases hlm : m < X.length
        · obtain ⟨bo, offo, hA2, hbo, hco⟩ := R2.out.2 (by omega)
          subst hA2
          have hbog : u1.heap.size ≤ bo := HO2.out bo rfl
          have hx := (World.cell?_of_block (a := ⟨bo, offo + m, none⟩) (hgr.block bo hbo (fun e => by have := (HTOP.out bo e.symm).1; omega))).trans (hco m hlm)
          have hin := HIN.out m hlm
          have hst := HST.out cm m hq hlm
          obtain ⟨z, hz⟩ : ∃ z, X.getD m 0 = z := ⟨_, rfl⟩
          rw [hz] at hx hin hst
          obtain ⟨_, hix, ez⟩ := inW_yes hin
          rw [HN.out] at hix
          have hcl := hq.1
          rw [HN.out] at hcl
          obtain ⟨g, cap, hv, hlo, hhi⟩ := hown.form (by omega)
          have hAg : A = some ⟨g, 0, none⟩ ∧ c = cap := by injection hv with x y z; exact ⟨x, z⟩
          obtain ⟨rfl, rfl⟩ := hAg
          have ca := hown.cellAt (g := g) z.toNat (by omega)
          have fa := hown.frozenAt (g := g) z.toNat
          obtain ⟨d0, e0⟩ : ∃ x, wr.cell? ⟨g, z.toNat, none⟩ = some x := ⟨_, ca.trans (List.getElem?_eq_getElem (by simp; omega))⟩
          have hs1' := hown.stored z.toNat (.int .i64 (k : Nat))
          rw [← List.map_set] at hs1'
          have OW5 := Lib.hid hs1'.1
          have GR5 := Lib.hid (grown_transx hgr hs1'.2)
          have BB5 := Lib.hid (hB.grown hs1'.2 (by have := hB.size; omega) (fun q hq => by injection hq with hq; omega))
          have ST5 := Lib.hid hst
          generalize z.toNat = iz at *
          subst ez
          have hizn : (iz : Int) < (n : Int) := by omega
          clear hco hs1' hst hgr hB hown hq ca hcl hz hin hv
          go_wp2
          go_roundw
          case rel => exact ⟨m + 1, _, by omega, by go_num, ST5.out, OW5.out, BB5.out, GR5.out⟩
          case measure => simp [intOf]; omega
        · have hmx : m = X.length := by omega
          subst hmx
          have HNN := Lib.hid (HNX.out cm hq)
          have OW6 := Lib.hid hown; have BB6 := Lib.hid hB
          have hgs := hgr.size
          clear hq hown hB hgr
          go_wp2
          go_roundw
          case rel => exact ⟨k + 1, _, by omega, by go_num, HNN.out, OW6.out, by omega, BB6.out⟩
          case measure => simp [intOf]; omega
    · have hkl : k = N.l.length := by omega
      subst hkl
      have hall := hq.all
      subst hall
      have HG : Hid (Gives w (lxL outL N) (.returned (.slice A n c)) wr) := Lib.hid ⟨A, c, by rw [lxL_len, HN.out], by rw [lxL_len, HN.out]; exact hown.mono (by omega), HB0.out.trans (hB.mono (by omega))⟩
      clear hq hown hB
      go_wp2
      go_ret
      exact HG.out
set_option maxRecDepth 100000 in
set_option maxHeartbeats 2000000 in
theorem linksIn_any (h : NH) (N : Nt) (w : World) (hv : valN N = true) (r : RdN w w.heap.size h N) :
    Calls Tryd.prog 44 #[.agg #[.slice h.A N.w.length h.c, .slice h.L N.l.length h.d, .slice h.C N.c.length h.e], .func (.func 46) #[] #[]] w (Gives w (lxL inL N)) := by
  obtain ⟨h48, h48l⟩ := valN_size hv
  obtain ⟨n, hn⟩ : ∃ n, N.w.length = n := ⟨_, rfl⟩
  have hn48 : n ≤ 48 := by omega
  obtain ⟨w0, hw0⟩ : ∃ w0, w0 = w.alloc (.cells #[.slice h.A N.w.length h.c, .slice h.L N.l.length h.d, .slice h.C N.c.length h.e] 31) := ⟨_, rfl⟩
  obtain ⟨hb, hh, hsz⟩ := box3_any w (.slice h.A N.w.length h.c) (.slice h.L N.l.length h.d) (.slice h.C N.c.length h.e) 31
  rw [← hw0] at hb hh hsz
  obtain ⟨g0, hg0⟩ : ∃ g, w0.heap.size = g := ⟨_, rfl⟩
  obtain ⟨w1, hw1⟩ : ∃ u, u = w0.alloc (.cells #[.int .i64 (-1)] 2) := ⟨_, rfl⟩
  have hb1 : Below g0 w0 w1 := by rw [hw1]; exact (Below.refl _ _).alloc (by omega) _
  have hs1 : w1.heap.size = g0 + 1 := by rw [hw1]; simp [hg0]
  have hc1 : w1.cell? ⟨g0, 0, none⟩ = some (.int .i64 (-1)) := by rw [hw1, ← hg0]; exact cell_of_row _ _ 0 _ _ (0, 0) (heap_alloc_new _ _)
  have HREP := Lib.hid (repeat_any g0 (-1) n w1 (by omega) hc1 (by omega))
  have HK := Lib.hid (fun (wx : World) (hx : Below g0 w0 wx) => three_cells ((hx.block w.heap.size (by omega)).trans hh))
  have HRL := Lib.hid (fun (wx : World) (hx : Below g0 w0 wx) => show RdN wx g0 h N from ((r.below hb).more (by omega)).below (hg0 ▸ hx))
  have HB0 := Lib.hid hb; have HB1 := Lib.hid hb1
  have ho := oneP_in hv
  have HO := Lib.hid ho
  have HZ := Lib.hid (LnQ.zero inL N)
  have HN := Lib.hid hn; have HW1 := Lib.hid hw1; have HG0 := Lib.hid hg0
  have hs0 : w.heap.size ≤ g0 := by omega
  obtain ⟨y0, y1, y2⟩ := HK.out _ (Below.refl _ w0)
  have y0' := (HK.out _ hb1).1
  rw [hw1] at y0'
  rw [hn] at y0 y0'
  clear hb hh hsz r hb1 hw1 hn hc1 ho hv
  go_enter Tryd.func44, Tryd.ntmps44
  go_upto_region 1 with (fail)
  rw [← hw0]
  clear hw0
  go_wp2_with (fail)
  rw [← HW1.out]
  refine HREP.out.mono ?_
  rintro e w2 ⟨A, c, rfl, own2, bel2⟩
  have hlr : (List.replicate n (-1 : Int)).length = n := List.length_replicate
  rw [hlr] at own2 ⊢
  have B2 := Lib.hid (HB1.out.trans (bel2.mono (by omega)))
  have O2 := Lib.hid own2
  have hw12 := bel2.size
  have HTOP : Hid (∀ b, Value.ownBlock (.slice A n c) = some b → b < w2.heap.size ∧ g0 < b) := Lib.hid fun b e => ⟨(own2.lt b e).2, by have := (own2.lt b e).1; omega⟩
  clear own2 bel2 hlr y0 y1 y2 y0'
  obtain ⟨y0, y1, y2⟩ := HK.out _ B2.out
  go_wp2
  go_loopw [18] (fun i wr => ∃ (k : Nat) (cur : List Int), k ≤ N.l.length ∧ i = .int .i64 k ∧ LnQ inL N cur k 0 ∧ wr.ownsRow w1.heap.size 2 1 (.slice A n c) n (cur.map (Value.int .i64)) ∧ w2.heap.size ≤ wr.heap.size ∧ Below g0 w0 wr) (fun i _ => N.l.length - (intOf i).toNat)
  case atStart => exact ⟨0, _, Nat.zero_le _, rfl, HZ.out, (by rw [HN.out]; exact O2.out), Nat.le_refl _, B2.out⟩
  case round =>
    obtain ⟨k, cur, hk, rfl, hq, hown, htop, hB⟩ := hrel
    clear y0 y1 y2
    by_cases hlt : k < N.l.length
    · obtain ⟨b, off, hA, hbb, hcells⟩ := (HRL.out _ hB).2.1.at (show 0 < N.l.length by omega)
      obtain ⟨x0, x1, x2, x3⟩ := hcells k hlt
      have hsr := hB.size
      have HIN := Lib.hid (fun t (ht : t < (inL (N.l.getD k Lk.nil)).length) => HO.out.ins k hlt t ht)
      have HST := Lib.hid (fun (cur : List Int) m (hq : LnQ inL N cur k m) hm => hq.step HO.out hlt hm)
      have HNX := Lib.hid (fun (cur : List Int) (hq : LnQ inL N cur k (inL (N.l.getD k Lk.nil)).length) => hq.next)
      have hol := inL_len (N.l.getD k Lk.nil)
      obtain ⟨⟨lk, la, lb, lc⟩, hl⟩ : ∃ l, N.l.getD k Lk.nil = l := ⟨_, rfl⟩
      rw [hl] at x0 x1 x2 x3 HIN HST HNX hol
      dsimp only at x0 x1 x2 x3
      obtain ⟨bl, z0, z1, z2, z3, zs⟩ := lnk_any wr ⟨lk, la, lb, lc⟩ 53
      dsimp only at bl z0 z1 z2 z3
      obtain ⟨u1, hu1⟩ : ∃ u1, u1 = wr.alloc (.cells #[.int .i64 lk, .int .i64 la, .int .i64 lb, .int .i64 lc] 53) := ⟨_, rfl⟩
      have HU1 := Lib.hid hu1
      rw [← hu1] at bl zs z0 z1 z2 z3
      have BL := Lib.hid (hB.trans (bl.mono (show g0 ≤ wr.heap.size by omega)))
      have OW := Lib.hid (own_below hown bl (Nat.le_refl _))
      have HQ0 := Lib.hid hq
      have htop1 : w2.heap.size ≤ u1.heap.size := by omega
      clear hcells hB bl hl hown hq hu1 zs
      obtain ⟨hAd, hcd, hhs, hL, hd, hC, he⟩ := h
      dsimp only at hA
      subst hA
      go_wp2_with (fail)
      rw [← HU1.out]
      clear x0 x1 x2 x3 HU1 z0 z1 z2 z3
      refine (show Calls Tryd.prog 46 #[.agg #[.int .i64 lk, .int .i64 la, .int .i64 lb, .int .i64 lc]] u1 (Gives u1 (inL ⟨lk, la, lb, lc⟩)) from inputsOf_any ⟨lk, la, lb, lc⟩ u1).mono ?_
      rintro e u2 ⟨A2, c2, rfl, o2, b2⟩
      have BL2 := Lib.hid (BL.out.trans (b2.mono (show g0 ≤ u1.heap.size by omega)))
      have OW2 := Lib.hid (own_below OW.out b2 (Nat.le_refl _))
      have R2 := Lib.hid (RdI.of_own o2)
      have hs12 := b2.size
      have HO2 := Lib.hid (fun b (e : Value.ownBlock (.slice A2 (inL ⟨lk, la, lb, lc⟩).length c2) = some b) => (o2.lt b e).1)
      have hul := BL2.out.size
      clear o2 b2
      generalize inL ⟨lk, la, lb, lc⟩ = X at *
      go_wp2
      go_loopw [27] (fun i wx => ∃ (m : Nat) (cur : List Int), m ≤ X.length ∧ i = .int .i64 m ∧ LnQ inL N cur k m ∧ wx.ownsRow w1.heap.size 2 1 (.slice A n c) n (cur.map (Value.int .i64)) ∧ Below g0 w0 wx ∧ u2.grownBy wx (Value.ownBlock (.slice A n c))) (fun i _ => X.length - (intOf i).toNat)
      case atStart => exact ⟨0, cur, Nat.zero_le _, rfl, HQ0.out, OW2.out, BL2.out, grown_reflx _ _⟩
      case round =>
        obtain ⟨m, cm, hm, rfl, hq, hown, hB, hgr⟩ := hrel
        by_cases hlm : m < X.length
        · obtain ⟨bo, offo, hA2, hbo, hco⟩ := R2.out.2 (by omega)
          subst hA2
          have hbog : u1.heap.size ≤ bo := HO2.out bo rfl
          have hx := (World.cell?_of_block (a := ⟨bo, offo + m, none⟩) (hgr.block bo hbo (fun e => by have := (HTOP.out bo e.symm).1; omega))).trans (hco m hlm)
          have hin := HIN.out m hlm
          have hst := HST.out cm m hq hlm
          obtain ⟨z, hz⟩ : ∃ z, X.getD m 0 = z := ⟨_, rfl⟩
          rw [hz] at hx hin hst
          obtain ⟨_, hix, ez⟩ := inW_yes hin
          rw [HN.out] at hix
          have hcl := hq.1
          rw [HN.out] at hcl
          obtain ⟨g, cap, hv, hlo, hhi⟩ := hown.form (by omega)
          have hAg : A = some ⟨g, 0, none⟩ ∧ c = cap := by injection hv with x y z; exact ⟨x, z⟩
          obtain ⟨rfl, rfl⟩ := hAg
          have ca := hown.cellAt (g := g) z.toNat (by omega)
          have fa := hown.frozenAt (g := g) z.toNat
          obtain ⟨d0, e0⟩ : ∃ x, wr.cell? ⟨g, z.toNat, none⟩ = some x := ⟨_, ca.trans (List.getElem?_eq_getElem (by simp; omega))⟩
          have hs1' := hown.stored z.toNat (.int .i64 (k : Nat))
          rw [← List.map_set] at hs1'
          have OW5 := Lib.hid hs1'.1
          have GR5 := Lib.hid (grown_transx hgr hs1'.2)
          have BB5 := Lib.hid (hB.grown hs1'.2 (by have := hB.size; omega) (fun q hq => by injection hq with hq; omega))
          have ST5 := Lib.hid hst
          generalize z.toNat = iz at *
          subst ez
          have hizn : (iz : Int) < (n : Int) := by omega
          clear hco hs1' hst hgr hB hown hq ca hcl hz hin hv
          go_wp2
          go_roundw
          case rel => exact ⟨m + 1, _, by omega, by go_num, ST5.out, OW5.out, BB5.out, GR5.out⟩
          case measure => simp [intOf]; omega
        · have hmx : m = X.length := by omega
          subst hmx
          have HNN := Lib.hid (HNX.out cm hq)
          have OW6 := Lib.hid hown; have BB6 := Lib.hid hB
          have hgs := hgr.size
          clear hq hown hB hgr
          go_wp2
          go_roundw
          case rel => exact ⟨k + 1, _, by omega, by go_num, HNN.out, OW6.out, by omega, BB6.out⟩
          case measure => simp [intOf]; omega
    · have hkl : k = N.l.length := by omega
      subst hkl
      have hall := hq.all
      subst hall
      have HG : Hid (Gives w (lxL inL N) (.returned (.slice A n c)) wr) := Lib.hid ⟨A, c, by rw [lxL_len, HN.out], by rw [lxL_len, HN.out]; exact hown.mono (by omega), HB0.out.trans (hB.mono (by omega))⟩
      clear hq hown hB
      go_wp2
      go_ret
      exact HG.out
end
section
set_option linter.unusedSimpArgs false
set_option linter.unusedVariables false
open Go.ChangeAt Go.ChangeShapes Go.RowKit Go.WideShapes

/-- The world holds the table of math/bits. -/
def Tz (w : World) : Prop := ∀ j, j < Lib.deBruijn64tab.length → w.cell? ⟨0, j, none⟩ = some (.int .u8 (Lib.deBruijn64tab.getD j 0))
theorem Tz.lt {w : World} (h : Tz w) : 0 < w.heap.size := World.block_lt_of_cell? w _ (h 0 (by decide))
theorem Tz.below {w w' : World} {B : Nat} (h : Tz w) (hb : Below B w w') (hB : 0 < B) : Tz w' := fun j hj => (hb.cell hB).trans (h j hj)
theorem tz_any (x : Nat) (hx : x < 18446744073709551616) (w : World) (hT : Tz w) :
    Calls Tryd.prog 48 #[.int .u64 x] w fun e w' => e = .returned (.int .i64 (Lib.ctz 64 x)) ∧ w' = w :=
  Any7.bits_TrailingZeros64 Tryd.tzL x hx w fun _ => hT
set_option maxHeartbeats 500000 in
theorem union_any (s t : Nat) (w : World) (hs : s < 18446744073709551616) (ht : t < 18446744073709551616) :
    Calls Tryd.prog 47 #[.int .u64 s, .int .u64 t] w fun e w' => e = .returned (.int .u64 ((s ||| t : Nat) : Int)) ∧ w = w' := by
  have hb := bits_or_u64_nat s t hs ht
  go_enter Tryd.func47, Tryd.ntmps47
  go_wp2
  go_ret
  exact ⟨rfl, rfl⟩
set_option maxHeartbeats 500000 in
theorem inter_any (s t : Nat) (w : World) (hs : s < 18446744073709551616) (ht : t < 18446744073709551616) :
    Calls Tryd.prog 68 #[.int .u64 s, .int .u64 t] w fun e w' => e = .returned (.int .u64 ((s &&& t : Nat) : Int)) ∧ w = w' := by
  have hb := bits_and_u64_nat s t hs ht
  go_enter Tryd.func68, Tryd.ntmps68
  go_wp2
  go_ret
  exact ⟨rfl, rfl⟩
set_option maxHeartbeats 500000 in
theorem meetsS_any (s t : Nat) (w : World) (hs : s < 18446744073709551616) (ht : t < 18446744073709551616) :
    Calls Tryd.prog 60 #[.int .u64 s, .int .u64 t] w fun e w' => e = .returned (.bool (!decide (s &&& t = 0))) ∧ w = w' := by
  have HI := Lib.hid (fun wx => inter_any s t wx hs ht)
  have hb : (((s &&& t : Nat) : Int) != 0) = !decide (s &&& t = 0) := by
    rw [Bool.eq_iff_iff, Bool.not_eq_true', decide_eq_false_iff_not, bne_iff_ne]; omega
  clear hs ht
  generalize s &&& t = q at *
  go_enter Tryd.func60, Tryd.ntmps60
  go_wp2_with (fail)
  refine (HI.out _).mono ?_
  rintro e w1 ⟨rfl, rfl⟩
  go_wp2
  go_ret
  exact ⟨rfl, rfl⟩
theorem pow_u64 {k : Nat} (h : k < 64) : IntKind.u64.wrap ((2 : Int) ^ k) = ((2 ^ k : Nat) : Int) := by
  have h1 : (2 ^ k : Nat) < 2 ^ 64 := Nat.pow_lt_pow_right (by decide) h
  have h2 : ((2 : Int) ^ k) = ((2 ^ k : Nat) : Int) := by simp
  rw [h2]
  generalize 2 ^ k = M at *
  rw [IntKind.wrap_u64]; omega
theorem shB_nat {k : Nat} (h : k < 64) : shB (k : Int) = 2 ^ k := by
  unfold shB; rw [if_pos (by omega), Int.toNat_natCast]
theorem shB_neg : shB (-1) = 0 := rfl
theorem ret_u64 {a b : Nat} (h : a = b) : Ending.returned (.int .u64 (a : Int)) = Ending.returned (.int .u64 (b : Int)) := by rw [h]
set_option maxRecDepth 100000 in
set_option maxHeartbeats 500000 in
theorem setOf_any (A : Option Addr) (c : Nat) (ks : List Int) (w : World) (r : RdI w w.heap.size A ks.length ks) (hl : ks.length ≤ 1048576) (hk : ∀ x ∈ ks, -1 ≤ x ∧ x ≤ 1048576) :
    Calls Tryd.prog 31 #[.slice A ks.length c] w fun e w' => e = .returned (.int .u64 ((orS ks : Nat) : Int)) ∧ w = w' := by
  have R := Lib.hid r; have HK := Lib.hid hk
  have HU := Lib.hid (fun (s t : Nat) (wx : World) (h1 : s < 18446744073709551616) (h2 : t < 18446744073709551616) => union_any s t wx h1 h2)
  have hz : ((orU ks 0 : Nat) : Int) = 0 := rfl
  have HZ := Lib.hid hz
  clear r hk hz
  go_enter Tryd.func31, Tryd.ntmps31
  go_wp2
  go_loopw [3, 8] (fun v i wx => ∃ k : Nat, k ≤ ks.length ∧ i = .int .i64 k ∧ v = .int .u64 ((orU ks k : Nat) : Int) ∧ wx = w) (fun _ i _ => ks.length - (intOf i).toNat)
  case atStart => exact ⟨0, Nat.zero_le _, rfl, by rw [HZ.out], rfl⟩
  case round =>
    obtain ⟨k, hk, rfl, rfl, rfl⟩ := hrel
    by_cases hlt : k < ks.length
    · obtain ⟨b, off, rfl, hbb, hcells⟩ := R.out.2 (by omega)
      have x0 := hcells k hlt
      have hx := HK.out _ (getL_mem (d := (0 : Int)) hlt)
      have HS := Lib.hid (orU_succ hlt)
      have HL1 := Lib.hid (show orU ks k < 18446744073709551616 from orU_lt ks k)
      have HL2 := Lib.hid (show shB (ks.getD k 0) < 18446744073709551616 from shB_lt _)
      have hln : (ks.length : Int) ≤ 1048576 := by omega
      clear hcells
      generalize ks.getD k 0 = x at *
      generalize orU ks k = s at *
      obtain ⟨q, hq⟩ : ∃ q, q = s ||| shB x := ⟨_, rfl⟩
      have HQ := Lib.hid (HS.out.trans hq.symm)
      have HUU := Lib.hid (fun wx => HU.out s (shB x) wx HL1.out HL2.out)
      rw [← hq] at HUU
      clear hq HS HL1 HL2
      rcases (show x = -1 ∨ ∃ j : Nat, x = (j : Int) ∧ j ≤ 1048576 from by
        by_cases e : x = -1
        · exact .inl e
        · exact .inr ⟨x.toNat, by omega, by omega⟩) with hx1 | ⟨j, hx1, hj⟩
      · subst hx1
        rw [shB_neg] at HUU
        have hc : IntKind.u64.wrap (-1) = 18446744073709551615 := rfl
        have hs : IntKind.u64.wrap 18446744073709551616 = 0 := rfl
        go_wp2_with (fail)
        refine (HUU.out _).mono ?_
        rintro e w1 ⟨rfl, rfl⟩
        go_wp2
        go_roundw
        case rel => exact ⟨k + 1, by omega, by go_num, by rw [HQ.out], by first | rfl | trivial⟩
        case measure => simp [intOf]; omega
      · subst hx1
        have hc : IntKind.u64.wrap (j : Int) = (j : Int) := by rw [IntKind.wrap_u64]; omega
        by_cases hj64 : j < 64
        · rw [shB_nat hj64] at HUU
          have hs := pow_u64 hj64
          have hm : min j 64 = j := Nat.min_eq_left (by omega)
          go_wp2_with (fail)
          refine (HUU.out _).mono ?_
          rintro e w1 ⟨rfl, rfl⟩
          go_wp2
          go_roundw
          case rel => exact ⟨k + 1, by omega, by go_num, by rw [HQ.out], by first | rfl | trivial⟩
          case measure => simp [intOf]; omega
        · have hz : shB (j : Int) = 0 := by unfold shB; rw [if_neg (by omega)]
          rw [hz] at HUU
          have hs : IntKind.u64.wrap 18446744073709551616 = 0 := rfl
          have hm : min j 64 = 64 := Nat.min_eq_right (by omega)
          go_wp2_with (fail)
          refine (HUU.out _).mono ?_
          rintro e w1 ⟨rfl, rfl⟩
          go_wp2
          go_roundw
          case rel => exact ⟨k + 1, by omega, by go_num, by rw [HQ.out], by first | rfl | trivial⟩
          case measure => simp [intOf]; omega
    · have hkk : k = ks.length := by omega
      subst hkk
      have HE := Lib.hid (orU_end ks)
      go_wp2
      go_ret
      exact ⟨ret_u64 HE.out, rfl⟩
set_option maxRecDepth 100000 in
set_option maxHeartbeats 500000 in
theorem containsS_any (s : Nat) (x : Int) (w : World) (hs : s < 18446744073709551616) (hx : -1 ≤ x ∧ x < 64) :
    Calls Tryd.prog 49 #[.int .u64 s, .int .i64 x] w fun e w' => e = .returned (.bool (hasS s x)) ∧ Below w.heap.size w w' := by
  obtain ⟨w0, hw0⟩ : ∃ w0, w0 = w.alloc (.cells #[.int .i64 x] 2) := ⟨_, rfl⟩
  have hb : Below w.heap.size w w0 := by rw [hw0]; exact (Below.refl _ _).alloc (Nat.le_refl _) _
  have hr : RdI w0 w0.heap.size (some ⟨w.heap.size, 0, none⟩) [x].length [x] := by
    rw [hw0]
    refine ⟨rfl, fun _ => ⟨w.heap.size, 0, rfl, by simp, fun j hj => ?_⟩⟩
    obtain rfl : j = 0 := by simp at hj; omega
    simp
  have HS := Lib.hid (setOf_any (some ⟨w.heap.size, 0, none⟩) 1 [x] w0 hr (by simp) (fun y hy => by rw [List.mem_singleton] at hy; omega))
  have HB := Lib.hid hb
  have e1 : orS [x] = shB x := by unfold orS; simp
  have HL : Hid (shB x < 18446744073709551616) := Lib.hid (shB_lt x)
  have HM := Lib.hid (fun wx => meetsS_any s (shB x) wx hs HL.out)
  have HH := Lib.hid (has_and s x)
  rw [e1] at HS
  clear hb hr e1 hs hx
  generalize hasS s x = p at *
  rw [HH.out] at HM
  generalize shB x = q at *
  go_enter Tryd.func49, Tryd.ntmps49
  go_wp2_with (fail)
  rw [← hw0]
  clear hw0
  refine HS.out.mono ?_
  rintro e w1 ⟨rfl, rfl⟩
  go_wp2_with (fail)
  refine (HM.out _).mono ?_
  rintro e w2 ⟨rfl, rfl⟩
  go_wp2
  go_ret
  exact ⟨rfl, HB.out⟩
/-- A set without its lowest bit, as the program makes it. -/
theorem low_u64 {s j t : Nat} (h : lftS s j ≠ 0) (hs : s < 18446744073709551616) (ht : lftS s j &&& (lftS s j - 1) = lftS s t) : IntKind.u64.wrap (((lftS s j : Nat) : Int) - 1) = ((lftS s j - 1 : Nat) : Int) ∧ bits .and .u64 ((lftS s j : Nat) : Int) ((lftS s j - 1 : Nat) : Int) = ((lftS s t : Nat) : Int) := by
  have := lftS_le s j
  refine ⟨by rw [IntKind.wrap_u64]; omega, ?_⟩
  rw [bits_and_u64_nat _ _ (by omega) (by omega), ht]
set_option maxRecDepth 100000 in
set_option maxHeartbeats 600000 in
theorem links_any (s : Nat) (w : World) (hs : s < 18446744073709551616) (hT : Tz w) :
    Calls Tryd.prog 33 #[.int .u64 s] w (Gives w (lkS s)) := by
  obtain ⟨i0, hi0, hz0, hz1, hz2⟩ := info_parts info_i64
  have HI := Lib.hid hi0; have HZ0 := Lib.hid hz0; have HZ1 := Lib.hid hz1; have HZ2 := Lib.hid hz2
  have HT := Lib.hid (fun (x : Nat) (hx : x < 18446744073709551616) (wx : World) (hb : Below w.heap.size w wx) => tz_any x hx wx (hT.below hb hT.lt))
  have HZ : Hid (((s : Nat) : Int) = ((lftS s 0 : Nat) : Int)) := Lib.hid (by rw [lftS_zero])
  have hc : IntKind.u64.wrap ((s : Nat) : Int) = ((s : Nat) : Int) := by rw [IntKind.wrap_u64]; omega
  clear hi0 hz0 hz1 hz2 hT
  go_enter Tryd.func33, Tryd.ntmps33
  go_wp2
  go_loopw [3, 4] (fun v i wx => ∃ j : Nat, j ≤ 64 ∧ i = .int .u64 ((lftS s j : Nat) : Int) ∧ wx.ownsRow w.heap.size 2 1 v (selU s.testBit j).length ((selU s.testBit j).map (Value.int .i64)) ∧ Below w.heap.size w wx) (fun _ i _ => (intOf i).toNat)
  case atStart => exact ⟨0, by omega, by rw [HZ.out], World.ownsRow_nil _ _ _ _, Below.refl _ _⟩
  case round =>
    obtain ⟨j, hj, rfl, hO, hB⟩ := hrel
    have hle := lftS_le s j
    by_cases h0 : lftS s j = 0
    · have HE := Lib.hid (lft_done h0 hs hj)
      rw [h0]
      obtain ⟨A, c, rfl⟩ := own_shape hO
      have HG : Hid (Gives w (lkS s) (.returned (.slice A (selU s.testBit j).length c)) wr) := Lib.hid (by
        have e : lkS s = selU s.testBit j := HE.out.symm
        rw [e]; exact ⟨A, c, rfl, hO, hB⟩)
      clear hO hB hle h0
      go_wp2
      go_ret
      exact HG.out
    · obtain ⟨t, ht, hjt, ht64, hsel, hlow⟩ := lft_step h0 hs
      have HTZ := Lib.hid (HT.out (lftS s j) (by omega) wr hB)
      rw [ht] at HTZ
      obtain ⟨q1, q2⟩ := low_u64 h0 hs hlow
      have hne : (((lftS s j : Nat) : Int) != 0) = true := by simp; omega
      have HSEL := Lib.hid hsel
      have HLE : Hid (lftS s (t + 1) < lftS s j) := Lib.hid (by
        have := hlow
        have h2 : lftS s j &&& (lftS s j - 1) ≤ lftS s j - 1 := Nat.and_le_right
        omega)
      have hln := selU_len s.testBit j
      have HO := Lib.hid hO; have HB := Lib.hid hB
      have hsz1 := hB.size
      clear hO hB hlow hsel ht
      obtain ⟨L, hL⟩ : ∃ L, selU s.testBit j = L := ⟨_, rfl⟩
      rw [hL] at HO HSEL hln
      clear hL
      generalize lftS s j - 1 = u at *
      obtain ⟨y, hy⟩ : ∃ y, lftS s (t + 1) = y := ⟨_, rfl⟩
      rw [hy] at q2 HLE
      have HY := Lib.hid hy
      clear hy
      generalize lftS s j = x at *
      go_wp2_with (fail)
      refine HTZ.out.mono ?_
      rintro e w1 ⟨rfl, hw1⟩
      subst hw1
      go_wp2_with (at_builtin; refine wpList_append_own _ rfl _ _ 24 rfl w.heap.size 2 i0 (.int .i64 0) 1 8 Tryd.underlying24 HI.out HZ0.out HZ1.out HZ2.out rfl (by decide) _ _ _ rfl (HO.out.alloc _) ⟨w1.heap.size, 0, none⟩ 1 1 [.int .i64 t] rfl rfl ?c1 ?c2 ?c3 ?c4 ?c5 ?_)
      case c1 => exact cell_one_new _ _ _
      case c2 => intro u hu; simp at hu; subst hu; rfl
      case c3 => unfold maxLen; omega
      case c4 => omega
      case c5 => simp; omega
      intro v' w2 hown' hgrow _
      have hb2 := Lib.hid ((HB.out.alloc hsz1 (.cells #[.int .i64 t] 2)).grown hgrow (by simp; omega) (fun q hq => (HO.out.lt q hq).1))
      have hown2 : w2.ownsRow w.heap.size 2 1 v' (selU s.testBit (t + 1)).length ((selU s.testBit (t + 1)).map (Value.int .i64)) := by
        rw [HSEL.out, List.length_append, List.map_append]; exact hown'
      have hown1 := Lib.hid hown2
      clear hown' hgrow hown2 hsz1
      go_wp2
      go_roundw
      case rel => exact ⟨t + 1, by omega, by rw [HY.out], hown1.out, hb2.out⟩
      case measure => have := HLE.out; simp [intOf]; omega
end
section
set_option linter.unusedSimpArgs false
set_option linter.unusedVariables false
open Go.ChangeShapes Go.WideShapes Go.ChangeAt Go.RowKit

def tzTab : List Int := Lib.deBruijn64tab.map fun n : Nat => (n : Int)
theorem gTz : Tryd.prog.globalNamed "math/bits.deBruijn64tab" = some 0 := by kernel_rfl
theorem gTzType : (Tryd.prog.globals[0]?).map (·.type) = some 81 := by kernel_rfl
theorem cellsTz : Tryd.prog.cellsOf 81 = 64 := by kernel_rfl
theorem cellsU8z : Tryd.prog.cellsOf 5 = 1 := by kernel_rfl
/-- What a row's list gives: the table of math/bits. -/
theorem tz_of {W : World} {rest : List (String × DataW Unit)} (h : laidMet Tryd.prog (("math/bits.deBruijn64tab", Lib.tabData .u8 tzTab) :: rest) W) : Tz W := by
  have ht : Lib.TabIs Tryd.prog W "math/bits.deBruijn64tab" .u8 tzTab := Lib.tabIs_of_head gTz gTzType Tryd.underlying81 Tryd.underlying5 cellsU8z cellsTz h
  intro j hj
  have h2 := ht.cell gTz j (by simpa [tzTab] using hj)
  rw [h2]
  simp [tzTab, List.getD, List.getElem?_map, hj]
theorem witness_row_sh {H : Type} {enc : TypeId × Value → H} {C : Checked} {os : Os} {f : FuncId} {fn : Func} {s : OpenSpec} {conds : List PathCond} {apart : Bool} {laid : List (String × DataW Unit)} (modest : Bool) (w0 : World) (args : Array Value) (hos : w0.os = os)
    (hsh : (w0.forCall (fun _ _ => 0) ⟨#[], args, []⟩).Shaped C.prog)
    (hok : Input.okWideB C.prog (w0.forCall (fun _ _ => 0) ⟨#[], args, []⟩) f ⟨#[], args, []⟩ = true)
    (hrow : s.preRow enc C.prog fn conds apart laid (w0.forCall (fun _ _ => 0) ⟨#[], args, []⟩).memory args) :
    ∃ (w : World) (tape : Tape) (i : Input), w.os = os ∧ (w.forCall tape i).Shaped C.prog ∧ i.vars = [] ∧ Input.okWide C.prog (w.forCall tape i) .any w.heap.size f i ∧
      s.preRow enc C.prog fn conds apart laid (w.forCall tape i).memory i.args ∧ ({ modest := modest } : Assume).holds C.prog (lone (Frame.enter C.prog f i.args .normal) [] (w.forCall tape i)) :=
  ⟨w0, fun _ _ => 0, ⟨#[], args, []⟩, hos, hsh, (Input.okWide_of_okWideB (base := 0) hok).1, (Input.okWide_of_okWideB hok).2, hrow, by
    simp only [Assume.holds]
    exact ⟨by simp, by simp, fun _ => Modest.zero, by simp, by simp⟩⟩
end
section
set_option linter.unusedSimpArgs false
set_option linter.unusedVariables false
open Go.ChangeAt Go.ChangeShapes Go.RowKit Go.WideShapes

/-- The cells of a parsing. -/
def pzA (X Y Z : Value) (T : List Int) (c : Int) (F : Value) : Array Value := (X :: Y :: Z :: (T.map (Value.int .i64) ++ [.int .i64 c, F])).toArray
section
variable {X Y Z F : Value} {T : List Int} {c : Int}
theorem pzA_tab {k : Nat} (hT : T.length = 48) (hk : k < 48) : (pzA X Y Z T c F)[3 + k]? = some (.int .i64 (T.getD k 0)) := by
  have e : 3 + k = k + 1 + 1 + 1 := by omega
  have hk2 : k < T.length := by omega
  simp [pzA, e, List.getElem?_append, hT, hk, hk2, List.getD]
theorem pzA_cnt (hT : T.length = 48) : (pzA X Y Z T c F)[51]? = some (.int .i64 c) := by simp [pzA, List.getElem?_append, hT]
end
section
variable {w w' : World} {g : Nat} {X Y Z F : Value} {T : List Int} {c : Int}
end
theorem quiet_sm {P : Program} {f : FuncId} {args : Array Value} {w : World} {n : Nat} {v : Value} (h : Calls P f args (w.drewN n) fun e w' => e = .returned v ∧ w.drewN n = w') :
    Calls P f args (w.drewN n) fun e w'' => e = .returned v ∧ ∃ m, w'' = w.drewN m := h.mono fun _ _ ⟨he, hm⟩ => ⟨he, n, hm.symm⟩
end
section
set_option linter.unusedSimpArgs false
set_option linter.unusedVariables false
open Go.ChangeAt Go.ChangeShapes Go.RowKit Go.WideShapes

/-- Where the rows of a parsing lie. -/
structure PzH where
  T : List Int
  P : Option Addr
  p : Nat
  C : Option Addr
  q : Nat
  A : Option Addr
  a : Nat
section
variable {w w' : World} {g : Nat} {h : NH} {N : Nt} {fs : List Int} {r : PzH}
end
end
section
set_option linter.unusedSimpArgs false
set_option linter.unusedVariables false
open Go.ChangeAt Go.ChangeShapes Go.RowKit Go.WideShapes

end
end Go.Proofs.YtfdpkhiiboghiaaDoor
