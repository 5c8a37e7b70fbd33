/- The model's l14Open. The model's RemovePar. -/
import Derived.Test.YtgpocnapkflihaaGreatDoorSrC
import Derived.Test.YtgpocnapkflihaaGreatDoorSrW
import Derived.Maps.AppendAt
import Derived.Deep.RegionHeldLaw
import Derived.Deep.DeepCutAuto
import Derived.BigQuiet
namespace Go.Proofs.YtgpocnapkflihaaGreatDoor
set_option linter.unusedSimpArgs false
set_option linter.unusedVariables false
open Go.ChangeAt Go.ChangeShapes Go.RowKit Go.WideShapes

theorem twoQ (w : World) (a b : Value) (t : TypeId) : ∀ j u, [a, b][j]? = some u → (w.alloc (.cells #[a, b] t)).cell? ((⟨w.heap.size, 0, none⟩ : Addr).add j) = some u := by
  intro j u hu
  have ea : (⟨w.heap.size, 0, none⟩ : Addr).add j = ⟨w.heap.size, j, none⟩ := by simp [Addr.add]; omega
  rw [ea, cell_of_row _ _ j _ _ (0, 0) (heap_alloc_new w _)]
  simpa using hu
theorem koX_sel (N : Nt) (r k : Nat) (hk : k < N.l.length) : decide ((k : Int) ∈ selU (koX r) N.l.length) = koX r k := by
  rw [Bool.eq_iff_iff, decide_eq_true_eq, selU_mem]
  constructor
  · rintro ⟨j, _, h2, h3⟩
    obtain rfl : k = j := by omega
    exact h2
  · intro h; exact ⟨k, hk, h, rfl⟩
set_option maxRecDepth 100000 in
set_option maxHeartbeats 1000000 in
theorem sOpen_any (h : NH) (N : Nt) (r : Nat) (w : World) (hv : valN N = true) (rN : RdN w w.heap.size h N) (hr : r < N.l.length) (htp : tpB N r = true) :
    Calls Tryz.prog 41 #[.agg #[.slice h.A N.w.length h.c, .slice h.L N.l.length h.d, .slice h.C N.c.length h.e], .int .i64 r] w (CopiedN w (opN N r)) := by
  obtain ⟨h48, h48l⟩ := valN_size hv
  have hcl := valN_conc_le hv
  obtain ⟨i0, hi0, hz0, hz1, hz2⟩ := info_parts info_i64
  have HI := Lib.hid hi0; have HZ0 := Lib.hid hz0; have HZ1 := Lib.hid hz1; have HZ2 := Lib.hid hz2
  obtain ⟨w0, hw0⟩ : ∃ w0, w0 = (w.alloc (.cells #[.slice h.A N.w.length h.c, .slice h.L N.l.length h.d, .slice h.C N.c.length h.e] 30)).alloc (.cells #[.slice none 0 0, .slice none 0 0, .slice none 0 0] 30) := ⟨_, rfl⟩
  obtain ⟨hb, g0, g1, hsz⟩ := two_any' w (.cells #[.slice h.A N.w.length h.c, .slice h.L N.l.length h.d, .slice h.C N.c.length h.e] 30) (.cells #[.slice none 0 0, .slice none 0 0, .slice none 0 0] 30)
  rw [← hw0] at hb g0 g1 hsz
  have hs0 : w.heap.size + 2 ≤ w0.heap.size := by omega
  have HKB := Lib.hid (fun (wx : World) (hx : Below w0.heap.size w0 wx) => three_cells ((hx.block w.heap.size (by omega)).trans g0))
  have HK2 := Lib.hid (fun (wx : World) (hx : Below w0.heap.size w0 wx) => (hx.block (w.heap.size + 1) (by omega)).trans g1)
  have HR := Lib.hid (fun (wx : World) (hx : Below w0.heap.size w0 wx) => show RdN wx wx.heap.size h N from (rN.below (hb.trans (hx.mono hb.size))).more (Nat.le_trans hb.size hx.size))
  have hopl := opC_len N r N.c
  have hkl := selU_len (koX r) N.l.length
  have HCU := Lib.hid (fun (wx : World) (A C : Option Addr) (c d : Nat) (hx : Below w0.heap.size w0 wx) (rK : RdI wx wx.heap.size A (selU (koX r) N.l.length).length (selU (koX r) N.l.length)) (rC : RdI wx wx.heap.size C (opC N r N.c).length (opC N r N.c)) => show Calls Tryz.prog 56 #[.agg #[.slice h.A N.w.length h.c, .slice h.L N.l.length h.d, .slice h.C N.c.length h.e], .slice A (selU (koX r) N.l.length).length c, .slice C (opC N r N.c).length d] wx (CopiedN wx (opN N r)) from by
    have q := sCut_any h N (koX r) A C c d (selU (koX r) N.l.length) (opC N r N.c) wx hv (HR.out wx hx) rK rC (by omega) (fun x hx => (opC_in hv hr htp hx).1) (by omega) (fun k hk => koX_sel N r k hk)
    rw [List.filter_eq_self.2 (fun x hx => (opC_in hv hr htp hx).2)] at q
    exact q)
  have HB0 := Lib.hid hb
  obtain ⟨b, off, hLe, hbb, hcells⟩ := (HR.out w0 (Below.refl _ _)).2.1.at (by omega)
  obtain ⟨l0, l1, l2, l3⟩ := hcells r hr
  have HOC : Hid (∀ j, j < N.c.length → opC N r (N.c.take (j + 1)) = opC N r (N.c.take j) ++ (if N.c.getD j 0 = (N.l.getD r Lk.nil).c then [(N.l.getD r Lk.nil).a, (N.l.getD r Lk.nil).b] else [N.c.getD j 0])) := Lib.hid fun j hj => opC_snoc hj
  obtain ⟨bl, z0, z1, z2, z3, zs⟩ := lnk_any w0 (N.l.getD r Lk.nil) 54
  generalize N.l.getD r Lk.nil = l at *
  obtain ⟨lk, la, lb, lc⟩ := l
  dsimp only at bl z0 z1 z2 z3 zs l0 l1 l2 l3 HOC
  obtain ⟨u2, hu2⟩ : ∃ u2, u2 = w0.alloc (.cells #[.int .i64 lk, .int .i64 la, .int .i64 lb, .int .i64 lc] 54) := ⟨_, rfl⟩
  rw [← hu2] at bl z0 z1 z2 z3 zs
  have HB2 := Lib.hid bl
  have hzl : w0.heap.size < u2.heap.size := by omega
  have HZK := Lib.hid (fun (wx : World) (hx : Below u2.heap.size u2 wx) => And.intro ((hx.cell (p := ⟨w0.heap.size, 1, none⟩) hzl).trans z1) (And.intro ((hx.cell (p := ⟨w0.heap.size, 2, none⟩) hzl).trans z2) ((hx.cell (p := ⟨w0.heap.size, 3, none⟩) hzl).trans z3)))
  have S0 := Lib.hid (TwQ.start2 u2)
  obtain ⟨u4, hu4⟩ : ∃ u4, u4 = (u2.alloc (.cells #[] 2)).alloc (.cells #[] 2) := ⟨_, rfl⟩
  rw [← hu4] at S0
  have HU2 := Lib.hid hu2; have HU4 := Lib.hid hu4; have HLE := Lib.hid hLe
  have hri : (r : Int) < (N.l.length : Int) := by omega
  clear hb g0 g1 hsz rN hcells bl zs hu2 hu4 hLe hv htp z0 z1 z2 z3
  go_enter Tryz.func41, Tryz.ntmps41
  go_upto_region 1 with (fail)
  rw [← hw0]
  clear hw0
  obtain ⟨y0, y1, y2⟩ := HKB.out w0 (Below.refl _ _)
  rw [HLE.out] at y1
  go_upto_region 2 with (fail)
  rw [← HU2.out]
  clear y0 y1 y2 l0 l1 l2 l3
  go_upto_region 3 with (fail)
  rw [← HU4.out]
  go_wp2
  go_loopw [6, 8] (fun v i wx => ∃ k : Nat, k ≤ N.l.length ∧ i = .int .i64 k ∧ TwQ u2 wx v (.slice (some ⟨u2.heap.size + 1, 0, none⟩) 0 0) (selU (koX r) k) []) (fun _ i _ => N.l.length - (intOf i).toNat)
  case atStart => exact ⟨0, Nat.zero_le _, rfl, S0.out⟩
  case round =>
    obtain ⟨k, hk, rfl, hS⟩ := hrel
    have hBI := HB2.out.trans (hS.bel.mono HB2.out.size)
    obtain ⟨y0, y1, y2⟩ := HKB.out wr hBI
    obtain ⟨A1, c1, rfl⟩ := own_shapeP hS.o1
    by_cases hlt : k < N.l.length
    · have HS := Lib.hid hS
      have hn1 : (selU (koX r) k).length ≤ 48 := Nat.le_trans (selU_len (koX r) k) (by omega)
      have hus := hS.bel.size
      clear hS hBI
      by_cases hkr : k = r
      · have HX := Lib.hid (selU_no (p := koX r) (k := k) (by unfold koX; rw [hkr]; simp))
        have d1 : ((k : Int) != (r : Int)) = false := by simp [hkr]
        clear hkr
        go_wp2
        go_roundw
        case rel => exact ⟨k + 1, by omega, by go_num, by rw [HX.out]; exact HS.out⟩
        case measure => simp [intOf]; omega
      · have HX := Lib.hid (selU_yes (p := koX r) (k := k) (by unfold koX; rw [decide_eq_false hkr]; rfl))
        have d1 : ((k : Int) != (r : Int)) = true := by simp; omega
        clear hkr
        go_wp2_with (at_builtin; refine wpList_append_own_at _ rfl _ _ 24 rfl u2.heap.size 2 i0 (.int .i64 0) 1 8 Tryz.underlying24 HI.out HZ0.out HZ1.out HZ2.out rfl (by decide) _ _ _ rfl (HS.out.o1.alloc _) ⟨wr.heap.size, 0, none⟩ 1 1 [.int .i64 k] rfl rfl ?c1 ?c2 ?c3 ?c4 ?c5 ?_)
        case c1 => exact cell_one_new _ _ _
        case c2 => intro u hu; simp at hu; subst hu; rfl
        case c3 => unfold maxLen; omega
        case c4 => omega
        case c5 => simp; omega
        intro v7 w7 hown7 hgrow7 _ hat7
        have HS2 := Lib.hid (HS.out.push1 hown7 hgrow7 (by rw [World.size_alloc]; exact hat7))
        clear hown7 hgrow7 hat7
        go_wp2
        go_roundw
        case rel => exact ⟨k + 1, by omega, by go_num, by rw [HX.out]; exact HS2.out⟩
        case measure => simp [intOf]; omega
    · have hkl2 : k = N.l.length := by omega
      subst hkl2
      have S1 := Lib.hid hS
      clear hS hBI
      generalize selU (koX r) N.l.length = ks at *
      go_wp2
      clear y0 y1 y2
      go_loopw [7, 9] (fun v i wx => ∃ k : Nat, k ≤ N.c.length ∧ i = .int .i64 k ∧ TwQ u2 wx (.slice A1 ks.length c1) v ks (opC N r (N.c.take k))) (fun _ i _ => N.c.length - (intOf i).toNat)
      case atStart => exact ⟨0, Nat.zero_le _, rfl, S1.out⟩
      case round =>
        rename World => wy
        obtain ⟨k, hk, rfl, hS⟩ := hrel
        have hBI := HB2.out.trans (hS.bel.mono HB2.out.size)
        obtain ⟨y0, y1, y2⟩ := HKB.out wy hBI
        obtain ⟨A2, c2, rfl⟩ := own_shapeP hS.o2
        by_cases hlt : k < N.c.length
        · have HS := Lib.hid hS
          have hn2 : (opC N r (N.c.take k)).length ≤ 96 := Nat.le_trans (opC_len N r (N.c.take k)) (by rw [List.length_take]; omega)
          have hus := hS.bel.size
          have HX := Lib.hid (HOC.out k hlt)
          obtain ⟨z1, z2, z3⟩ := HZK.out wy hS.bel
          obtain ⟨bC, oC, hCe, hCb, hCc⟩ := (HR.out wy hBI).2.2.2 (by omega)
          have xk := hCc k hlt
          rw [hCe] at y2
          generalize N.c.getD k 0 = x at *
          obtain ⟨OC, hOC⟩ : ∃ q, opC N r (N.c.take k) = q := ⟨_, rfl⟩
          rw [hOC] at HS HX hn2 ⊢
          have hki : (k : Int) < (N.c.length : Int) := by omega
          clear hS hBI hCe hCb hCc hOC
          by_cases hx : x = lc
          · rw [if_pos hx] at HX
            have d1 : (x == lc) = true := by simp [hx]
            clear hx
            go_upto_region 11 with (fail)
            go_quiet (fail)
            go_wp2_with (at_builtin; refine wpList_append_own_at _ rfl _ _ 24 rfl u2.heap.size 2 i0 (.int .i64 0) 1 8 Tryz.underlying24 HI.out HZ0.out HZ1.out HZ2.out rfl (by decide) _ _ _ rfl (HS.out.o2.alloc _) ⟨wy.heap.size, 0, none⟩ 2 2 [.int .i64 la, .int .i64 lb] rfl rfl ?c1 ?c2 ?c3 ?c4 ?c5 ?_)
            case c1 => exact twoQ _ _ _ _
            case c2 => intro u hu; simp at hu; rcases hu with rfl | rfl <;> rfl
            case c3 => unfold maxLen; omega
            case c4 => omega
            case c5 => simp; omega
            intro v7 w7 hown7 hgrow7 _ hat7
            have HS2 := Lib.hid ((HS.out.below (below_drewN (Below.refl _ _) _)).pushTwo hown7 hgrow7 (by rw [World.size_alloc]; exact hat7))
            clear hown7 hgrow7 hat7
            go_wp2
            go_roundw
            case rel => exact ⟨k + 1, by omega, by go_num, by rw [HX.out]; exact HS2.out⟩
            case measure => simp [intOf]; omega
          · rw [if_neg hx] at HX
            have d1 : (x == lc) = false := by simpa using hx
            clear hx
            go_upto_region 11 with (fail)
            go_quiet (fail)
            go_wp2_with (at_builtin; refine wpList_append_own_at _ rfl _ _ 24 rfl u2.heap.size 2 i0 (.int .i64 0) 1 8 Tryz.underlying24 HI.out HZ0.out HZ1.out HZ2.out rfl (by decide) _ _ _ rfl (HS.out.o2.alloc _) ⟨wy.heap.size, 0, none⟩ 1 1 [.int .i64 x] rfl rfl ?c1 ?c2 ?c3 ?c4 ?c5 ?_)
            case c1 => exact cell_one_new _ _ _
            case c2 => intro u hu; simp at hu; subst hu; rfl
            case c3 => unfold maxLen; omega
            case c4 => omega
            case c5 => simp; omega
            intro v7 w7 hown7 hgrow7 _ hat7
            have HS2 := Lib.hid ((HS.out.below (below_drewN (Below.refl _ _) _)).push2 hown7 hgrow7 (by rw [World.size_alloc]; exact hat7))
            clear hown7 hgrow7 hat7
            go_wp2
            go_roundw
            case rel => exact ⟨k + 1, by omega, by go_num, by rw [HX.out]; exact HS2.out⟩
            case measure => simp [intOf]; omega
        · have hkl3 : k = N.c.length := by omega
          subst hkl3
          rw [List.take_length] at hS ⊢
          have BY := Lib.hid hBI
          have HC := Lib.hid (HCU.out wy A1 A2 c1 c2 hBI (RdI.of_own hS.o1) (RdI.of_own hS.o2))
          clear hS hBI HCU
          generalize opN N r = NE at *
          generalize opC N r N.c = OC at *
          go_wp2_with (fail)
          refine HC.out.mono ?_
          rintro e w5 ⟨h5, rfl, own5, bel5⟩
          have B5 := Lib.hid (BY.out.trans (bel5.mono BY.out.size))
          have O5 := Lib.hid (own5.more BY.out.size (Nat.le_refl _))
          have q1 := HK2.out _ B5.out
          obtain ⟨a0, a1, a2⟩ := three_cells q1
          have f0 := frozen_of_row _ _ 0 _ _ q1; have f1 := frozen_of_row _ _ 1 _ _ q1; have f2 := frozen_of_row _ _ 2 _ _ q1
          have Q1 := Lib.hid q1
          clear own5 bel5 q1 y0 y1 y2
          go_wp2
          (try simp only [Exit.inBlock, Exit.then])
          refine bodyPost_ret (results_cell_row rfl _ _ (w.heap.size + 1) _ _ (0, 0) _ rfl (set3_at Q1.out _ _ _) Tryz.underlying30 rfl (by kernel_rfl)) rfl ?_
          exact nlDone HB0.out B5.out O5.out hs0
set_option maxRecDepth 100000 in
set_option maxHeartbeats 1000000 in
theorem sRemovePar_any (h : NH) (N : Nt) (i : Int) (w : World) (rN : RdN w w.heap.size h N) (hn : N.w.length ≤ 1048576) (hl : N.l.length ≤ 1048576) (hc : N.c.length ≤ 1048576) :
    Calls Tryz.prog 13 #[.agg #[.slice h.A N.w.length h.c, .slice h.L N.l.length h.d, .slice h.C N.c.length h.e], .int .i64 i] w (GivesNB w (opV N i) (opB N i)) := by
  obtain ⟨w0, hw0⟩ : ∃ w0, w0 = (w.alloc (.cells #[.slice h.A N.w.length h.c, .slice h.L N.l.length h.d, .slice h.C N.c.length h.e] 30)).alloc (.cells #[.slice none 0 0, .slice none 0 0, .slice none 0 0] 30) := ⟨_, rfl⟩
  obtain ⟨hb, g0, g1, hsz⟩ := two_any' w (.cells #[.slice h.A N.w.length h.c, .slice h.L N.l.length h.d, .slice h.C N.c.length h.e] 30) (.cells #[.slice none 0 0, .slice none 0 0, .slice none 0 0] 30)
  rw [← hw0] at hb g0 g1 hsz
  have hs0 : w.heap.size + 2 ≤ w0.heap.size := by omega
  have HKB := Lib.hid (fun (wx : World) (hx : Below w0.heap.size w0 wx) => three_cells ((hx.block w.heap.size (by omega)).trans g0))
  have HK2 := Lib.hid (fun (wx : World) (hx : Below w0.heap.size w0 wx) => (hx.block (w.heap.size + 1) (by omega)).trans g1)
  have HR := Lib.hid (fun (wx : World) (hx : Below w0.heap.size w0 wx) => show RdN wx wx.heap.size h N from (rN.below (hb.trans (hx.mono hb.size))).more (Nat.le_trans hb.size hx.size))
  have HV := Lib.hid (sValidNet_any h N w0 ((rN.below hb).more hb.size) hn hl hc)
  have HB0 := Lib.hid hb
  have HNO : Hid (∀ (w2 : World), Below w0.heap.size w0 w2 → opB N i = false → GivesNB w (opV N i) (opB N i) (.returned (.tuple #[.agg #[.slice none 0 0, .slice none 0 0, .slice none 0 0], .bool false])) (((w2.setCell ⟨w.heap.size + 1, 0, none⟩ (.slice none 0 0)).setCell ⟨w.heap.size + 1, 1, none⟩ (.slice none 0 0)).setCell ⟨w.heap.size + 1, 2, none⟩ (.slice none 0 0))) := Lib.hid fun w2 hx e => by
    rw [show opV N i = Nt.nil from if_neg (by rw [e]; decide), e]
    exact givesNB_of (nlDone (h := NH.nil) (N := Nt.nil) HB0.out hx (OwnN.nil w2 w0.heap.size w2.heap.size) hs0)
  obtain ⟨y0, y1, y2⟩ := HKB.out _ (Below.refl _ w0)
  clear hb g0 g1 hsz rN hn hc
  cases hv : valN N with
  | false =>
    rw [hv] at HV
    have HOB : Hid (opB N i = false) := Lib.hid (by unfold opB; rw [hv]; rfl)
    clear hv
    go_enter Tryz.func13, Tryz.ntmps13
    go_upto_region 1 with (fail)
    rw [← hw0]
    clear hw0
    go_wp2_with (fail)
    refine HV.out.mono ?_
    rintro e w1 ⟨rfl, bel1⟩
    have B1 := Lib.hid bel1
    have q1 := HK2.out _ B1.out
    obtain ⟨a0, a1, a2⟩ := three_cells q1
    have f0 := frozen_of_row _ _ 0 _ _ q1; have f1 := frozen_of_row _ _ 1 _ _ q1; have f2 := frozen_of_row _ _ 2 _ _ q1
    have Q1 := Lib.hid q1
    clear q1 bel1 y0 y1 y2
    go_wp2
    (try simp only [Exit.inBlock, Exit.then])
    refine bodyPost_ret (results_cell_row_tmp rfl _ _ (w.heap.size + 1) _ _ (0, 0) _ rfl (set3_at Q1.out _ _ _) Tryz.underlying30 rfl (by kernel_rfl)) rfl ?_
    exact HNO.out _ B1.out HOB.out
  | true =>
    rw [hv] at HV
    have h48l := (valN_size hv).2
    have HIR := Lib.hid (fun (wx : World) => show Calls Tryz.prog 21 #[.int .i64 i, .int .i64 0, .int .i64 ((N.l.length : Int) - 1)] wx fun e w' => e = .returned (.bool (inW N.l.length i)) ∧ wx = w' from inRange_any i 0 ((N.l.length : Int) - 1) wx)
    have hw1 : IntKind.i64.wrap ((N.l.length : Int) - 1) = (N.l.length : Int) - 1 := IntWalk.i64_in _ (by omega)
    cases hin : inW N.l.length i with
    | false =>
      rw [hin] at HIR
      have HOB : Hid (opB N i = false) := Lib.hid (by unfold opB; rw [hin]; simp)
      clear hv hin
      go_enter Tryz.func13, Tryz.ntmps13
      go_upto_region 1 with (fail)
      rw [← hw0]
      clear hw0
      go_wp2_with (fail)
      refine HV.out.mono ?_
      rintro e w1 ⟨rfl, bel1⟩
      have B1 := Lib.hid bel1
      clear bel1 y0 y1 y2
      obtain ⟨y0, y1, y2⟩ := HKB.out _ B1.out
      go_wp2_with (fail)
      refine (HIR.out w1).mono ?_
      rintro e w2 ⟨rfl, rfl⟩
      have q1 := HK2.out _ B1.out
      obtain ⟨a0, a1, a2⟩ := three_cells q1
      have f0 := frozen_of_row _ _ 0 _ _ q1; have f1 := frozen_of_row _ _ 1 _ _ q1; have f2 := frozen_of_row _ _ 2 _ _ q1
      have Q1 := Lib.hid q1
      clear q1 y0 y1 y2
      go_wp2
      (try simp only [Exit.inBlock, Exit.then])
      refine bodyPost_ret (results_cell_row_tmp rfl _ _ (w.heap.size + 1) _ _ (0, 0) _ rfl (set3_at Q1.out _ _ _) Tryz.underlying30 rfl (by kernel_rfl)) rfl ?_
      exact HNO.out _ B1.out HOB.out
    | true =>
      rw [hin] at HIR
      obtain ⟨_, hr, e⟩ := inW_yes hin
      have HOBQ : Hid (opB N i = tpB N i.toNat) := Lib.hid (by unfold opB; rw [hv, hin]; rfl)
      have HOV : Hid (opB N i = true → opV N i = opN N i.toNat) := Lib.hid fun e => if_pos e
      generalize i.toNat = r at *
      subst e
      have HTE := Lib.hid (fun (wx : World) (hx : Below w0.heap.size w0 wx) => sTerminal_any h N r wx hv (HR.out wx hx) hr)
      have HOP := Lib.hid (fun (wx : World) (hx : Below w0.heap.size w0 wx) (htp : tpB N r = true) => sOpen_any h N r wx hv (HR.out wx hx) hr htp)
      have HTPE : Hid (tpB N r = (decide ((N.l.getD r Lk.nil).k = 4) && tmB N r)) := Lib.hid rfl
      have hri : (r : Int) < (N.l.length : Int) := by omega
      obtain ⟨b, off, hLe, hbb, hcells⟩ := (HR.out w0 (Below.refl _ _)).2.1.at (by omega)
      obtain ⟨l0, l1, l2, l3⟩ := hcells r hr
      have HLE := Lib.hid hLe
      have HL0 : Hid (∀ wx : World, Below w0.heap.size w0 wx → wx.cell? ⟨b, off + r * 4, none⟩ = some (.int .i64 (N.l.getD r Lk.nil).k)) := Lib.hid fun wx hx => (hx.cell (p := ⟨b, off + r * 4, none⟩) hbb).trans l0
      clear hv hin l0 l1 l2 l3 hcells hLe hbb
      generalize (N.l.getD r Lk.nil).k = lk at *
      by_cases hk : lk = 4
      · have d1 : (lk != 4) = false := by simp [hk]
        have HTP2 : Hid (opB N (r : Int) = tmB N r) := Lib.hid (by rw [HOBQ.out, HTPE.out, decide_eq_true hk]; rfl)
        clear hk
        cases htm : tmB N r with
        | false =>
          rw [htm] at HTE
          have HOB : Hid (opB N (r : Int) = false) := Lib.hid (HTP2.out.trans htm)
          clear htm
          go_enter Tryz.func13, Tryz.ntmps13
          go_upto_region 1 with (fail)
          rw [← hw0]
          clear hw0
          go_wp2_with (fail)
          refine HV.out.mono ?_
          rintro e w1 ⟨rfl, bel1⟩
          have B1 := Lib.hid bel1
          clear bel1 y0 y1 y2
          obtain ⟨y0, y1, y2⟩ := HKB.out _ B1.out
          rw [HLE.out] at y1
          have l0 := HL0.out _ B1.out
          go_wp2_with (fail)
          refine (HIR.out w1).mono ?_
          rintro e w2 ⟨rfl, hwq⟩
          subst hwq
          go_wp2_with (fail)
          rw [← HLE.out]
          refine (HTE.out _ B1.out).mono ?_
          rintro e w3 ⟨rfl, bel3⟩
          have B3 := Lib.hid (B1.out.trans (bel3.mono B1.out.size))
          have q1 := HK2.out _ B3.out
          obtain ⟨a0, a1, a2⟩ := three_cells q1
          have f0 := frozen_of_row _ _ 0 _ _ q1; have f1 := frozen_of_row _ _ 1 _ _ q1; have f2 := frozen_of_row _ _ 2 _ _ q1
          have Q1 := Lib.hid q1
          clear q1 y0 y1 y2 l0 bel3
          go_wp2
          (try simp only [Exit.inBlock, Exit.then])
          refine bodyPost_ret (results_cell_row_tmp rfl _ _ (w.heap.size + 1) _ _ (0, 0) _ rfl (set3_at Q1.out _ _ _) Tryz.underlying30 rfl (by kernel_rfl)) rfl ?_
          exact HNO.out _ B3.out HOB.out
        | true =>
          rw [htm] at HTE
          have HOB : Hid (opB N (r : Int) = true) := Lib.hid (HTP2.out.trans htm)
          have HOP2 := Lib.hid (fun (wx : World) (hx : Below w0.heap.size w0 wx) => HOP.out wx hx (HOBQ.out.symm.trans HOB.out))
          rw [HOV.out HOB.out, HOB.out]
          clear htm
          go_enter Tryz.func13, Tryz.ntmps13
          go_upto_region 1 with (fail)
          rw [← hw0]
          clear hw0
          go_wp2_with (fail)
          refine HV.out.mono ?_
          rintro e w1 ⟨rfl, bel1⟩
          have B1 := Lib.hid bel1
          clear bel1 y0 y1 y2
          obtain ⟨y0, y1, y2⟩ := HKB.out _ B1.out
          rw [HLE.out] at y1
          have l0 := HL0.out _ B1.out
          go_wp2_with (fail)
          refine (HIR.out w1).mono ?_
          rintro e w2 ⟨rfl, hwq⟩
          subst hwq
          go_wp2_with (fail)
          rw [← HLE.out]
          refine (HTE.out _ B1.out).mono ?_
          rintro e w3 ⟨rfl, bel3⟩
          have B3 := Lib.hid (B1.out.trans (bel3.mono B1.out.size))
          clear y0 y1 y2 l0 bel3
          obtain ⟨y0, y1, y2⟩ := HKB.out _ B3.out
          go_wp2_with (fail)
          refine (HOP2.out _ B3.out).mono ?_
          rintro e w4 ⟨h4, rfl, own4, bel4⟩
          have B4 := Lib.hid (B3.out.trans (bel4.mono B3.out.size))
          have O4 := Lib.hid (own4.more B3.out.size (Nat.le_refl _))
          have q1 := HK2.out _ B4.out
          obtain ⟨a0, a1, a2⟩ := three_cells q1
          have f0 := frozen_of_row _ _ 0 _ _ q1; have f1 := frozen_of_row _ _ 1 _ _ q1; have f2 := frozen_of_row _ _ 2 _ _ q1
          have Q1 := Lib.hid q1
          clear q1 y0 y1 y2 own4 bel4
          go_wp2
          (try simp only [Exit.inBlock, Exit.then])
          refine bodyPost_ret (results_cell_row_tmp rfl _ _ (w.heap.size + 1) _ _ (0, 0) _ rfl (set3_at Q1.out _ _ _) Tryz.underlying30 rfl (by kernel_rfl)) rfl ?_
          exact givesNB_of (nlDone HB0.out B4.out O4.out hs0)
      · have d1 : (lk != 4) = true := by simp [hk]
        have HOB : Hid (opB N (r : Int) = false) := Lib.hid (by rw [HOBQ.out, HTPE.out, decide_eq_false hk]; rfl)
        clear hk
        go_enter Tryz.func13, Tryz.ntmps13
        go_upto_region 1 with (fail)
        rw [← hw0]
        clear hw0
        go_wp2_with (fail)
        refine HV.out.mono ?_
        rintro e w1 ⟨rfl, bel1⟩
        have B1 := Lib.hid bel1
        clear bel1 y0 y1 y2
        obtain ⟨y0, y1, y2⟩ := HKB.out _ B1.out
        rw [HLE.out] at y1
        have l0 := HL0.out _ B1.out
        go_wp2_with (fail)
        refine (HIR.out w1).mono ?_
        rintro e w2 ⟨rfl, hwq⟩
        subst hwq
        have q1 := HK2.out _ B1.out
        obtain ⟨a0, a1, a2⟩ := three_cells q1
        have f0 := frozen_of_row _ _ 0 _ _ q1; have f1 := frozen_of_row _ _ 1 _ _ q1; have f2 := frozen_of_row _ _ 2 _ _ q1
        have Q1 := Lib.hid q1
        clear q1 y0 y2
        go_wp2
        (try simp only [Exit.inBlock, Exit.then])
        refine bodyPost_ret (results_cell_row_tmp rfl _ _ (w.heap.size + 1) _ _ (0, 0) _ rfl (set3_at Q1.out _ _ _) Tryz.underlying30 rfl (by kernel_rfl)) rfl ?_
        exact HNO.out _ B1.out HOB.out
end Go.Proofs.YtgpocnapkflihaaGreatDoor
