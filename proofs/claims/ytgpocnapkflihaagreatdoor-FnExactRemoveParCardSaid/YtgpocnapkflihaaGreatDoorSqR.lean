/- The program's RemovePar. Made by mksqr.py. -/
import Derived.Test.YtgpocnapkflihaaGreatDoorSqH
import Derived.Test.YtgpocnapkflihaaGreatDoorSqX
import Derived.Test.YtgpocnapkflihaaGreatDoorSrW
import Derived.Deep.RegionHeldLaw
import Derived.Deep.DeepCutAuto
import Derived.BigQuiet
namespace Go.Proofs.YtgpocnapkflihaaGreatDoor
set_option linter.unusedSimpArgs false
set_option linter.unusedVariables false
open Go.ChangeAt Go.ChangeShapes Go.RowKit Go.WideShapes

set_option maxHeartbeats 4000000 in
theorem without1_any (A : Option Addr) (n c : Nat) (cs : List Int) (B : Option Addr) (d : Nat) (i : Int) (w : World) (r : RdI w w.heap.size A n cs) (r2 : RdI w w.heap.size B 1 [i]) (hn : n ≤ 1048576) :
    Calls Tryz.prog 47 #[.slice A n c, .slice B 1 d] w (Gives w (lessL cs i i)) := by
  obtain ⟨i0, hi0, hz0, hz1, hz2⟩ := info_parts info_i64
  have HI := Lib.hid hi0; have HZ0 := Lib.hid hz0; have HZ1 := Lib.hid hz1; have HZ2 := Lib.hid hz2
  have hl := r.len
  subst hl
  have H := Lib.hid r; have H2 := Lib.hid r2
  have HLL : Hid (lessL cs i i = lessU cs i i cs.length) := Lib.hid rfl
  rw [HLL.out]
  clear r r2 hi0 hz0 hz1 hz2
  go_enter Tryz.func47, Tryz.ntmps47
  go_wp2
  go_loopw [5, 10] (fun v t wx => ∃ k : Nat, k ≤ cs.length ∧ t = .int .i64 k ∧ wx.ownsRow w.heap.size 2 1 v (lessU cs i i k).length ((lessU cs i i k).map (Value.int .i64)) ∧ Below w.heap.size w wx) (fun _ t _ => cs.length - (intOf t).toNat)
  case atStart => exact ⟨0, Nat.zero_le _, rfl, World.ownsRow_nil _ _ _ _, Below.refl _ _⟩
  case round =>
    obtain ⟨k, hk, rfl, hO, hB⟩ := hrel
    by_cases hlt : k < cs.length
    · obtain ⟨b, off, rfl, hbb, hcells⟩ := H.out.2 (by omega)
      have hc := (hB.cell (p := ⟨b, off + k, none⟩) hbb).trans (hcells k hlt)
      have HC := containsI_any B 1 d [i] (k : Int) wr ((H2.out.below hB).more hB.size) (by omega)
      have hln := lessU_len cs i i k
      have hyes := fun e => lessU_yes (cs := cs) (i := i) (j := i) (k := k) e
      have hno := fun e => lessU_no (cs := cs) (i := i) (j := i) (k := k) e
      obtain ⟨z, hz⟩ : ∃ z, cs.getD k 0 = z := ⟨_, rfl⟩
      rw [hz] at hc hyes
      have hdec : decide ((k : Int) ∈ [i]) = !((k : Int) != i && (k : Int) != i) := by
        rw [Bool.eq_iff_iff]
        simp
      rw [hdec] at HC
      cases hb : ((k : Int) != i && (k : Int) != i) with
      | false =>
        rw [hb] at HC
        have HCN := Lib.hid HC
        have HO := hO
        rw [← hno hb] at HO
        have HO2 := Lib.hid HO; have HB := Lib.hid hB
        clear HC hO hB hcells hz hyes hno hb hdec HO
        go_wp2_with (fail)
        refine HCN.out.mono ?_
        rintro e w1 ⟨rfl, rfl⟩
        go_wp2
        go_roundw
        case rel => exact ⟨k + 1, by omega, by go_num, HO2.out, HB.out⟩
        case measure => simp [intOf]; omega
      | true =>
        rw [hb] at HC
        have HCN := Lib.hid HC
        have HS := Lib.hid (hyes hb)
        have HLN : Hid ((lessU cs i i (k + 1)).length = (lessU cs i i k).length + 1) := Lib.hid (by rw [HS.out]; simp)
        have HO1 := Lib.hid hO; have HB := Lib.hid hB
        have hsz1 := hB.size
        clear HC hO hB hcells hz hyes hno hb hdec
        go_wp2_with (fail)
        refine HCN.out.mono ?_
        rintro e w1 ⟨rfl, rfl⟩
        go_wp2_with (at_builtin; refine wpList_append_own _ rfl _ _ 24 rfl w.heap.size 2 i0 (.int .i64 0) 1 8 Tryz.underlying24 HI.out HZ0.out HZ1.out HZ2.out rfl (by decide) _ _ _ rfl (HO1.out.alloc _) ⟨wr.heap.size, 0, none⟩ 1 1 [.int .i64 z] rfl rfl ?c1 ?c2 ?c3 ?c4 ?c5 ?_)
        (try (case c1 => exact cell_one_new _ _ _))
        case c2 => first | rfl | (intro u hu; simp at hu; subst hu; rfl)
        case c3 => unfold maxLen; omega
        case c4 => omega
        case c5 => first | omega | (simp; omega)
        intro v' w2 hown' hgrow _
        have hb2 := Lib.hid ((HB.out.alloc hsz1 (.cells #[.int .i64 z] 2)).grown hgrow (by simp; omega) (fun q hq => (HO1.out.lt q hq).1))
        have hown2 : w2.ownsRow w.heap.size 2 1 v' (lessU cs i i (k + 1)).length ((lessU cs i i (k + 1)).map (Value.int .i64)) := by
          rw [HLN.out, HS.out, List.map_append]; exact hown'
        have hown1 := Lib.hid hown2
        clear hown' hgrow hown2 hsz1
        go_wp2
        go_roundw
        case rel => exact ⟨k + 1, by omega, by go_num, hown1.out, hb2.out⟩
        case measure => simp [intOf]; omega
    · have hkl : k = cs.length := by omega
      subst hkl
      have HG := Lib.hid (gives_own hO (Nat.le_refl _) hB)
      clear hO hB
      go_wp2
      go_ret
      exact HG.out
theorem take_at {xs : List Int} {m j : Nat} (h : j < m) : (xs.take m).getD j 0 = xs.getD j 0 := by
  simp only [List.getD]; rw [List.getElem?_take, if_pos h]
theorem drop_at {xs : List Int} {m j : Nat} : (xs.drop m).getD j 0 = xs.getD (m + j) 0 := by
  simp only [List.getD]; rw [List.getElem?_drop]
theorem opB_is (N : Nt) (i : Int) : decide (i ∈ tpV N) = opB N i := by
  unfold opB tpV
  cases hv : valN N with
  | false => rw [if_neg (by decide)]; simp
  | true =>
    rw [if_pos rfl, Bool.true_and, Bool.eq_iff_iff, decide_eq_true_eq, Bool.and_eq_true]
    unfold tpL
    rw [selU_mem]
    constructor
    · rintro ⟨j, h1, h2, rfl⟩
      exact ⟨decide_eq_true (by omega), by rw [Int.toNat_natCast]; exact h2⟩
    · rintro ⟨h1, h2⟩
      obtain ⟨_, h3, e⟩ := inW_yes h1
      exact ⟨i.toNat, h3, h2, e⟩
theorem par_pos {N : Nt} (hv : valN N = true) {r : Nat} (hr : r < N.l.length) (h : tpB N r = true) : posI N.c (N.l.getD r Lk.nil).c = ((N.c.idxOf (N.l.getD r Lk.nil).c : Nat) : Int) ∧ N.c.idxOf (N.l.getD r Lk.nil).c < N.c.length := by
  have hm := par_concl h
  exact ⟨by unfold posI; rw [if_pos hm], List.idxOf_lt_length_of_mem hm⟩
set_option maxRecDepth 100000 in
set_option maxHeartbeats 3000000 in
theorem removePar_yes (h : NH) (N : Nt) (r : Nat) (w : World) (hv : valN N = true) (rN : RdN w w.heap.size h N) (sm : SmallN N) (hce : N.c.length ≤ h.e) (ht : Arit w) (hu : Dual w) (hr : r < N.l.length) (htp : tpB N r = true) (hmem : decide ((r : Int) ∈ tpV N) = true) :
    Calls Tryz.prog 14 #[.agg #[.slice h.A N.w.length h.c, .slice h.L N.l.length h.d, .slice h.C N.c.length h.e], .int .i64 r] w (GivesNB w (opN N r) true) := by
  obtain ⟨w0, hw0⟩ : ∃ w0, w0 = (w.alloc (.cells #[.slice h.A N.w.length h.c, .slice h.L N.l.length h.d, .slice h.C N.c.length h.e] 30)).alloc (.cells #[.slice none 0 0, .slice none 0 0, .slice none 0 0] 30) := ⟨_, rfl⟩
  obtain ⟨hb, g0, g1, hsz⟩ := two_any' w (.cells #[.slice h.A N.w.length h.c, .slice h.L N.l.length h.d, .slice h.C N.c.length h.e] 30) (.cells #[.slice none 0 0, .slice none 0 0, .slice none 0 0] 30)
  rw [← hw0] at hb g0 g1 hsz
  have hs0 : w.heap.size + 2 ≤ w0.heap.size := by omega
  have HKB := Lib.hid (fun (wx : World) (hx : Below w0.heap.size w0 wx) => three_cells ((hx.block w.heap.size (by omega)).trans g0))
  have HK2 := Lib.hid (fun (wx : World) (hx : Below w0.heap.size w0 wx) => (hx.block (w.heap.size + 1) (by omega)).trans g1)
  have HR := Lib.hid (fun (wx : World) (hx : Below w0.heap.size w0 wx) => show RdN wx wx.heap.size h N from (rN.below (hb.trans (hx.mono hb.size))).more (Nat.le_trans hb.size hx.size))
  have HTP := Lib.hid (terminalPars_any h N w0 ((rN.below hb).more hb.size) sm (ht.below hb ht.lt) (hu.below hb hu.lt))
  have HB0 := Lib.hid hb
  have htl : (tpV N).length ≤ 1048576 := by
    unfold tpV
    rw [if_pos hv]
    exact Nat.le_trans (selU_len _ _) sm.l
  obtain ⟨h48, h48l⟩ := valN_size hv
  have hcl := valN_conc_le hv
  obtain ⟨hpos, hat⟩ := par_pos hv hr htp
  have HIS := opC_is hv htp
  rw [← (par_out (tpB_yes htp).1).2] at HIS
  have hopl := opC_len N r N.c
  have hpo := par_out (tpB_yes htp).1
  have hKC := koX_cl hv hr (tpB_yes htp).2
  have hma : (N.l.getD r Lk.nil).a ∈ inL (N.l.getD r Lk.nil) := by rw [hpo.2]; simp
  have hne : 0 < (kpW N (koX r) N.w.length).length := List.length_pos_of_mem (kpW_mem.2 ⟨in_in hv hr hma, by unfold koX; rw [decide_eq_false (fr_ne hv hr hr (tpB_yes htp).2 hma)]; rfl⟩)
  have HKS : Hid (lessL (markL 0 N.l.length) (r : Int) (r : Int) = selU (koX r) N.l.length) := Lib.hid (by unfold lessL; rw [markL_len]; exact less_one r N.l.length)
  have HNL := Lib.hid (fun (wx : World) (A C : Option Addr) (c d : Nat) (hx : Below w0.heap.size w0 wx) (rK : RdI wx wx.heap.size A (selU (koX r) N.l.length).length (selU (koX r) N.l.length)) (rC : RdI wx wx.heap.size C (opC N r N.c).length (opC N r N.c)) => netOfLinks_any h N (koX r) A C c d (opC N r N.c) wx hv (HR.out wx hx) rK rC hKC (fun y hy => opC_in hv hr htp hy) (by omega) hne)
  have HON : Hid (cutN N (koX r) (opC N r N.c) = opN N r) := Lib.hid rfl
  rw [HON.out] at HNL
  obtain ⟨b, off, hLe, hbb, hcells⟩ := (HR.out w0 (Below.refl _ _)).2.1.at (by omega)
  obtain ⟨l0, l1, l2, l3⟩ := hcells r hr
  obtain ⟨bC, oC, hCe, hcb, hcc⟩ := (HR.out w0 (Below.refl _ _)).2.2.2 (by omega)
  have HPO := Lib.hid (fun (wx : World) (hx : Below w0.heap.size w0 wx) => posOf_any h.C N.c.length h.e N.c (N.l.getD r Lk.nil).c wx (HR.out wx hx).2.2 (by omega))
  rw [hpos] at HPO
  have hri : (r : Int) < (N.l.length : Int) := by omega
  have hkl := selU_len (koX r) N.l.length
  have HKN : Hid ((koX r) = koX r) := Lib.hid rfl
  have HP1 : Hid (∀ (wx : World), Below w0.heap.size w0 wx → PartI wx wx.heap.size (.slice (some ⟨bC, oC, none⟩) (N.c.idxOf (N.l.getD r Lk.nil).c) h.e) (N.c.take (N.c.idxOf (N.l.getD r Lk.nil).c))) := Lib.hid fun wx hx => by
    have hl : (N.c.take (N.c.idxOf (N.l.getD r Lk.nil).c)).length = N.c.idxOf (N.l.getD r Lk.nil).c := by rw [List.length_take]; omega
    refine .inr ⟨_, h.e, by rw [hl], rfl, fun _ => ⟨bC, oC, rfl, Nat.lt_of_lt_of_le hcb hx.size, fun j hj => ?_⟩⟩
    rw [hl] at hj
    rw [take_at hj]
    exact (hx.cell (p := ⟨bC, oC + j, none⟩) hcb).trans (hcc j (by omega))
  obtain ⟨ad, hif, HP3⟩ : ∃ ad : Addr, (if h.e = N.c.idxOf (N.l.getD r Lk.nil).c + 1 then some (⟨bC, oC, none⟩ : Addr) else some ⟨bC, oC + (N.c.idxOf (N.l.getD r Lk.nil).c + 1), none⟩) = some ad ∧ Hid (∀ (wx : World), Below w0.heap.size w0 wx → PartI wx wx.heap.size (.slice (some ad) (N.c.length - (N.c.idxOf (N.l.getD r Lk.nil).c + 1)) (h.e - (N.c.idxOf (N.l.getD r Lk.nil).c + 1))) (N.c.drop (N.c.idxOf (N.l.getD r Lk.nil).c + 1))) := by
    have hl : (N.c.drop (N.c.idxOf (N.l.getD r Lk.nil).c + 1)).length = N.c.length - (N.c.idxOf (N.l.getD r Lk.nil).c + 1) := by rw [List.length_drop]
    by_cases e : h.e = N.c.idxOf (N.l.getD r Lk.nil).c + 1
    · rw [if_pos e]
      refine ⟨_, rfl, Lib.hid fun wx hx => .inr ⟨_, h.e - (N.c.idxOf (N.l.getD r Lk.nil).c + 1), by rw [hl], rfl, fun h0 => ?_⟩⟩
      rw [hl] at h0; omega
    · rw [if_neg e]
      refine ⟨_, rfl, Lib.hid fun wx hx => .inr ⟨_, h.e - (N.c.idxOf (N.l.getD r Lk.nil).c + 1), by rw [hl], rfl, fun h0 => ⟨bC, _, rfl, Nat.lt_of_lt_of_le hcb hx.size, fun j hj => ?_⟩⟩⟩
      rw [hl] at hj
      rw [drop_at, Nat.add_assoc]
      exact (hx.cell (p := ⟨bC, _, none⟩) hcb).trans (hcc _ (by omega))
  obtain ⟨y0, y1, y2⟩ := HKB.out _ (Below.refl _ w0)
  have HIS2 := HIS.symm
  clear hb g0 g1 hsz rN sm ht hu hpos hcells htp hpo hKC hma hne hv hcc HIS
  generalize hT1 : N.c.take (N.c.idxOf (N.l.getD r Lk.nil).c) = T1 at *
  generalize hT3 : N.c.drop (N.c.idxOf (N.l.getD r Lk.nil).c + 1) = T3 at *
  generalize N.c.idxOf (N.l.getD r Lk.nil).c = at1 at *
  have hl1 : T1.length = at1 := by rw [← hT1, List.length_take]; omega
  have hl3 : T3.length = N.c.length - (at1 + 1) := by rw [← hT3, List.length_drop]
  have HL13 := Lib.hid (And.intro hl1 hl3)
  have HLE := Lib.hid hLe; have HCE := Lib.hid hCe
  clear hT1 hT3 hl1 hl3 hLe hCe
  go_enter Tryz.func14, Tryz.ntmps14
  go_upto_region 1 with (fail)
  rw [← hw0]
  clear hw0
  go_wp2_with (fail)
  refine HTP.out.mono ?_
  rintro e w1 ⟨A1, c1, rfl, own1, bel1⟩
  have B1 := Lib.hid bel1
  have HCI := Lib.hid (containsI_any A1 (tpV N).length c1 (tpV N) (r : Int) w1 (RdI.of_own own1) htl)
  rw [hmem] at HCI
  clear own1 bel1 y0 y1 y2 htl hmem
  generalize (tpV N).length = q at *
  go_wp2_with (fail)
  refine HCI.out.mono ?_
  rintro e w2 ⟨rfl, rfl⟩
  obtain ⟨y0, y1, y2⟩ := HKB.out _ B1.out
  have l0 := (B1.out.cell (p := ⟨b, off + r * 4, none⟩) hbb).trans l0
  have l1 := (B1.out.cell (p := ⟨b, off + r * 4 + 1, none⟩) hbb).trans l1
  have l2 := (B1.out.cell (p := ⟨b, off + r * 4 + 2, none⟩) hbb).trans l2
  have l3 := (B1.out.cell (p := ⟨b, off + r * 4 + 3, none⟩) hbb).trans l3
  generalize N.l.getD r Lk.nil = l at *
  obtain ⟨lk, la, lb, lc⟩ := l
  obtain ⟨bl, z0, z1, z2, z3, zs⟩ := lnk_any w1 ⟨lk, la, lb, lc⟩ 54
  dsimp only at bl z0 z1 z2 z3 zs l0 l1 l2 l3
  obtain ⟨u2, hu2⟩ : ∃ u2, u2 = w1.alloc (.cells #[.int .i64 lk, .int .i64 la, .int .i64 lb, .int .i64 lc] 54) := ⟨_, rfl⟩
  rw [← hu2] at bl z0 z1 z2 z3 zs
  have B2 := Lib.hid (B1.out.trans (bl.mono B1.out.size))
  have hzl : w1.heap.size < u2.heap.size := by omega
  have HZK := Lib.hid (fun (wx : World) (hx : Below u2.heap.size u2 wx) => And.intro ((hx.cell (p := ⟨w1.heap.size, 0, none⟩) hzl).trans z0) (And.intro ((hx.cell (p := ⟨w1.heap.size, 1, none⟩) hzl).trans z1) (And.intro ((hx.cell (p := ⟨w1.heap.size, 2, none⟩) hzl).trans z2) ((hx.cell (p := ⟨w1.heap.size, 3, none⟩) hzl).trans z3))))
  have HU2 := Lib.hid hu2
  have HPO2 := Lib.hid (HPO.out u2 B2.out)
  dsimp only at HPO2
  have HIN := Lib.hid (fun (wx : World) => inputsOf_any ⟨lk, la, lb, lc⟩ wx)
  dsimp only at HIN
  have hil := inL_len ⟨lk, la, lb, lc⟩
  have HISS : Hid (T1 ++ (inL ⟨lk, la, lb, lc⟩ ++ T3) = opC N r N.c) := Lib.hid HIS2
  rw [HLE.out] at y1
  clear HPO HTP HCI bl zs hu2 HIS2
  generalize inL ⟨lk, la, lb, lc⟩ = X at *
  go_upto_region 4 with (fail)
  rw [← HU2.out]
  clear y0 y1 y2 l0 l1 l2 l3
  obtain ⟨y0, y1, y2⟩ := HKB.out _ B2.out
  go_wp2_with (fail)
  refine HPO2.out.mono ?_
  rintro e w3 ⟨rfl, rfl⟩
  clear y0 y1 y2 z0 z1 z2 z3 HPO2
  have hw1 : IntKind.i64.wrap ((at1 : Int) + 1) = (at1 : Int) + 1 := IntWalk.i64_in _ (by omega)
  have hat2 : (at1 : Int) < (N.c.length : Int) := by omega
  have hat3 : at1 ≤ h.e := by omega
  have hat4 : at1 + 1 ≤ N.c.length := by omega
  have hat5 : at1 + 1 ≤ h.e := by omega
  have hat6 : (0 : Int) ≤ (at1 : Int) + 1 := by omega
  have hat7 : (at1 : Int) + 1 ≤ (N.c.length : Int) := by omega
  have HSX : Hid (∀ wx : World, Below u2.heap.size u2 wx → wx.cell? ⟨w.heap.size, 2, none⟩ = some (.slice (some ⟨bC, oC, none⟩) N.c.length h.e) ∧ wx.cell? ⟨w1.heap.size, 0, none⟩ = some (.int .i64 lk) ∧ wx.cell? ⟨w1.heap.size, 1, none⟩ = some (.int .i64 la) ∧ wx.cell? ⟨w1.heap.size, 2, none⟩ = some (.int .i64 lb) ∧ wx.cell? ⟨w1.heap.size, 3, none⟩ = some (.int .i64 lc)) := Lib.hid fun wx hx => by
    obtain ⟨a0, a1, a2⟩ := HKB.out wx (B2.out.trans (hx.mono B2.out.size))
    obtain ⟨a3, a4, a5, a6⟩ := HZK.out wx hx
    rw [HCE.out] at a2
    exact ⟨a2, a3, a4, a5, a6⟩
  go_upto_region 5 with (fail)
  go_cut [8] (fun v wx => ∃ A c, v = .slice A (opC N r N.c).length c ∧ wx.ownsRow u2.heap.size 2 1 (.slice A (opC N r N.c).length c) (opC N r N.c).length ((opC N r N.c).map (Value.int .i64)) ∧ Below u2.heap.size u2 wx)
  case first =>
    have FB_0 := Lib.hid (Below.refl u2.heap.size u2)
    refine wp_region_held_drew (S := fun wx => wx.cell? ⟨w.heap.size, 2, none⟩ = some (.slice (some ⟨bC, oC, none⟩) N.c.length h.e) ∧ wx.cell? ⟨w1.heap.size, 0, none⟩ = some (.int .i64 lk) ∧ wx.cell? ⟨w1.heap.size, 1, none⟩ = some (.int .i64 la) ∧ wx.cell? ⟨w1.heap.size, 2, none⟩ = some (.int .i64 lb) ∧ wx.cell? ⟨w1.heap.size, 3, none⟩ = some (.int .i64 lc)) (by kernel_rfl) (HSX.out _ (Below.refl _ _).drew) (fun hHeld => ?_)
    obtain ⟨wp1, hwp1⟩ : ∃ w', w' = u2.drew := ⟨_, rfl⟩
    rw [← hwp1] at hHeld ⊢
    have bp1 : Below u2.heap.size u2 wp1 := by rw [hwp1]; exact (Below.refl _ _).drew
    clear hwp1
    have FB_p2 := Lib.hid ((FB_0.out).trans ((bp1).mono (FB_0.out).size))
    clear FB_0
    refine wpAnyH_take (i := 0) (v := ?vp3) rfl (by kernel_rfl) (by kernel_rfl) (by kernel_rfl) (fun _ _ _ h => h) (Or.inl ⟨by rfl, ?yp3⟩) (by assumption) ?_
    case yp3 => (intro w hSw; (try dsimp only at hSw); go_simp; all_goals (with_reducible rfl))
    (try simp only [Act.put, List.setIfInBounds_toArray, List.set_cons_zero, List.set_cons_succ, List.getElem_toArray, List.getElem_cons_succ, List.getElem_cons_zero])
    refine wpAnyH_take (i := 2) (v := ?vp4) rfl (by kernel_rfl) (by kernel_rfl) (by kernel_rfl) (fun _ _ _ h => h) (Or.inl ⟨by rfl, ?yp4⟩) (by assumption) ?_
    case yp4 => (intro w hSw; (try dsimp only at hSw); go_simp; all_goals (with_reducible rfl))
    (try simp only [Act.put, List.setIfInBounds_toArray, List.set_cons_zero, List.set_cons_succ, List.getElem_toArray, List.getElem_cons_succ, List.getElem_cons_zero])
    refine wpAnyH_take (i := 4) (v := ?vp5) rfl (by kernel_rfl) (by kernel_rfl) (by kernel_rfl) (fun _ _ _ h => h) (Or.inl ⟨by rfl, ?yp5⟩) (by assumption) ?_
    case yp5 => (intro w hSw; (try dsimp only at hSw); go_simp; all_goals (with_reducible rfl))
    (try simp only [Act.put, List.setIfInBounds_toArray, List.set_cons_zero, List.set_cons_succ, List.getElem_toArray, List.getElem_cons_succ, List.getElem_cons_zero])
    refine wpAnyH_take (i := 6) (v := ?vp6) rfl (by kernel_rfl) (by kernel_rfl) (by kernel_rfl) (fun _ _ _ h => h) (Or.inl ⟨by rfl, ?yp6⟩) (by assumption) ?_
    case yp6 => (intro w hSw; (try dsimp only at hSw); go_simp; all_goals (with_reducible rfl))
    (try simp only [Act.put, List.setIfInBounds_toArray, List.set_cons_zero, List.set_cons_succ, List.getElem_toArray, List.getElem_cons_succ, List.getElem_cons_zero])
    refine wpAnyH_take (i := 8) (v := ?vp7) rfl (by kernel_rfl) (by kernel_rfl) (by kernel_rfl) (fun _ _ _ h => h) (Or.inl ⟨by rfl, ?yp7⟩) (by assumption) ?_
    case yp7 => (intro w hSw; (try dsimp only at hSw); go_simp; all_goals (with_reducible rfl))
    (try simp only [Act.put, List.setIfInBounds_toArray, List.set_cons_zero, List.set_cons_succ, List.getElem_toArray, List.getElem_cons_succ, List.getElem_cons_zero])
    refine wpAnyH_take (i := 1) (v := ?vp8) rfl (by kernel_rfl) (by kernel_rfl) (by kernel_rfl) (fun _ _ _ h => h) (Or.inl ⟨by rfl, ?yp8⟩) (by assumption) ?_
    case yp8 => (intro w hSw; (try dsimp only at hSw); go_simp; all_goals (with_reducible rfl))
    (try simp only [Act.put, List.setIfInBounds_toArray, List.set_cons_zero, List.set_cons_succ, List.getElem_toArray, List.getElem_cons_succ, List.getElem_cons_zero])
    refine wpAnyH_take (i := 7) (v := ?vp9) rfl (by kernel_rfl) (by kernel_rfl) (by kernel_rfl) (fun _ _ _ h => h) (Or.inl ⟨by rfl, ?yp9⟩) (by assumption) ?_
    case yp9 => (intro w hSw; (try dsimp only at hSw); go_simp; all_goals (with_reducible rfl))
    (try simp only [Act.put, List.setIfInBounds_toArray, List.set_cons_zero, List.set_cons_succ, List.getElem_toArray, List.getElem_cons_succ, List.getElem_cons_zero])
    refine wpAnyH_take (i := 9) (v := ?vp10) rfl (by kernel_rfl) (by kernel_rfl) (by kernel_rfl) (fun _ _ _ h => h) (Or.inl ⟨by rfl, ?yp10⟩) (by assumption) ?_
    case yp10 => (intro w hSw; (try dsimp only at hSw); go_simp; all_goals (with_reducible rfl))
    (try simp only [Act.put, List.setIfInBounds_toArray, List.set_cons_zero, List.set_cons_succ, List.getElem_toArray, List.getElem_cons_succ, List.getElem_cons_zero])
    refine wpAnyH_take (i := 3) (v := ?vp11) rfl (by kernel_rfl) (by kernel_rfl) (by kernel_rfl) (fun _ _ _ h => h) (Or.inl ⟨by rfl, ?yp11⟩) (by assumption) ?_
    case yp11 => (intro w hSw; (try dsimp only at hSw); go_simp; all_goals (with_reducible rfl))
    (try simp only [Act.put, List.setIfInBounds_toArray, List.set_cons_zero, List.set_cons_succ, List.getElem_toArray, List.getElem_cons_succ, List.getElem_cons_zero])
    refine wpAnyH_take (i := 10) (v := ?vp12) rfl (by kernel_rfl) (by kernel_rfl) (by kernel_rfl) (fun _ _ _ h => h) (Or.inl ⟨by rfl, ?yp12⟩) (by assumption) ?_
    case yp12 => (intro w hSw; (try dsimp only at hSw); go_simp; all_goals (with_reducible rfl))
    (try simp only [Act.put, List.setIfInBounds_toArray, List.set_cons_zero, List.set_cons_succ, List.getElem_toArray, List.getElem_cons_succ, List.getElem_cons_zero])
    refine wpAnyH_ready (rs := [5]) (by kernel_rfl) (by simp) ?_
    refine AllReadyH.cons rfl (fun K hK => ?_) ?_
    · go_simp
      refine (HIN.out wp1).mono ?_
      rintro e wp13 ⟨Ap13, cp13, rfl, ownp13, belp13⟩
      dsimp only
      have FB_p14 := Lib.hid ((FB_p2.out).trans ((belp13).mono (FB_p2.out).size))
      clear FB_p2
      have FI_p15 := Lib.hid ownp13
      clear ownp13 belp13
      refine hK.out _ _ (HSX.out _ FB_p14.out) (fun hHeld => ?_)
      clear hK K
      (try simp only [Act.put, List.setIfInBounds_toArray, List.set_cons_zero, List.set_cons_succ, List.getElem_toArray, List.getElem_cons_succ, List.getElem_cons_zero])
      refine wpAnyH_ready (rs := [11]) (by kernel_rfl) (by simp) ?_
      refine AllReadyH.cons rfl (fun K hK => ?_) ?_
      · go_simp
        obtain ⟨wp16, hwp16⟩ : ∃ w', w' = wp13.alloc (.cells #[.slice (some ⟨bC, oC, none⟩) at1 h.e, .slice Ap13 X.length cp13, .slice (some ad) (N.c.length - (at1 + 1)) (h.e - (at1 + 1))] 24) := ⟨_, rfl⟩
        rw [← hwp16]
        have bp16 : Below wp13.heap.size wp13 wp16 := by rw [hwp16]; exact (Below.refl _ _).alloc (Nat.le_refl _) _
        have gp16 : wp16.heap[wp13.heap.size]? = some (.cells #[.slice (some ⟨bC, oC, none⟩) at1 h.e, .slice Ap13 X.length cp13, .slice (some ad) (N.c.length - (at1 + 1)) (h.e - (at1 + 1))] 24 (0, 0)) := by rw [hwp16]; exact heap_alloc_new _ _
        have HG9 := Lib.hid gp16
        clear hwp16 gp16
        have FB_p17 := Lib.hid ((FB_p14.out).trans ((bp16).mono (FB_p14.out).size))
        have FI_p18 := Lib.hid (own_below (FI_p15.out) (bp16) (Nat.le_refl _))
        clear FB_p14 FI_p15
        clear bp16
        refine hK.out _ _ (HSX.out _ FB_p17.out) (fun hHeld => ?_)
        clear hK K
        (try simp only [Act.put, List.setIfInBounds_toArray, List.set_cons_zero, List.set_cons_succ, List.getElem_toArray, List.getElem_cons_succ, List.getElem_cons_zero])
        refine wpAnyH_ready (rs := [12]) (by kernel_rfl) (by simp) ?_
        refine AllReadyH.cons rfl (fun K hK => ?_) ?_
        · have hby := B2.out.trans (FB_p17.out.mono B2.out.size)
          have HCX := concatX_any wp13.heap.size 3 3 [.slice (some ⟨bC, oC, none⟩) at1 h.e, .slice Ap13 X.length cp13, .slice (some ad) (N.c.length - (at1 + 1)) (h.e - (at1 + 1))] [T1, X, T3] wp16 rfl (by omega) (fun i hi => by match i, hi with | 0, _ => exact cell_of_row _ _ 0 _ _ (0, 0) HG9.out | 1, _ => exact cell_of_row _ _ 1 _ _ (0, 0) HG9.out | 2, _ => exact cell_of_row _ _ 2 _ _ (0, 0) HG9.out) (Array.getElem?_eq_some_iff.1 HG9.out).1 (fun i hi => by match i, hi with | 0, _ => exact HP1.out _ hby | 1, _ => exact PartI.of_own FI_p18.out | 2, _ => exact HP3.out _ hby) (by have h1 := HL13.out.1; have h2 := HL13.out.2; simp; omega)
          have hfl : [T1, X, T3].flatten = opC N r N.c := by rw [← HISS.out]; simp
          rw [hfl] at HCX
          clear hby hfl
          go_simp
          refine HCX.mono ?_
          rintro e w9 ⟨A9, c9, rfl, own9, bel9⟩
          dsimp only
          have HB9 := Lib.hid (FB_p17.out.trans (bel9.mono FB_p17.out.size))
          have HO9 := Lib.hid (own9.mono FB_p17.out.size)
          clear own9 bel9 HCX
          refine hK.out _ _ (HSX.out _ HB9.out) (fun hHeld => ?_)
          clear hK K
          (try simp only [Act.put, List.setIfInBounds_toArray, List.set_cons_zero, List.set_cons_succ, List.getElem_toArray, List.getElem_cons_succ, List.getElem_cons_zero])
          refine wpAnyH_ready (rs := [13]) (by kernel_rfl) (by simp) ?_
          refine AllReadyH.cons rfl (fun K hK => ?_) ?_
          · go_simp
            refine hK.out _ _ hHeld (fun hHeld => ?_)
            clear hK K
            (try simp only [Act.put, List.setIfInBounds_toArray, List.set_cons_zero, List.set_cons_succ, List.getElem_toArray, List.getElem_cons_succ, List.getElem_cons_zero])
            refine wpAnyH_done (by kernel_rfl) ?_ _
            go_wp2_with (fail)
            go_meet
            exact ⟨A9, c9, rfl, HO9.out, HB9.out⟩
          exact AllReadyH.nil
        exact AllReadyH.nil
      exact AllReadyH.nil
    exact AllReadyH.nil
  case rest =>
  obtain ⟨A8, c8, rfl, own8, bel8⟩ := hcut
  have B8 := Lib.hid (B2.out.trans (bel8.mono B2.out.size))
  have O8 := Lib.hid own8
  have hs8 := B8.out.size
  have HNF := Lib.hid (fun (wx : World) => numbersFrom_any 0 N.l.length wx (by omega) (by omega))
  have HML := Lib.hid (markL_len 0 N.l.length)
  clear own8 bel8 HSX hif HP1 HP3 HISS HIN hw1 hat2 HL13
  have HSY : Hid (∀ wx : World, Below wc.heap.size wc wx → wx.cell? ⟨w.heap.size, 0, none⟩ = some (.slice h.A N.w.length h.c) ∧ wx.cell? ⟨w.heap.size, 1, none⟩ = some (.slice h.L N.l.length h.d) ∧ wx.cell? ⟨w.heap.size, 2, none⟩ = some (.slice h.C N.c.length h.e)) := Lib.hid fun wx hx => HKB.out wx (B8.out.trans (hx.mono B8.out.size))
  generalize opN N r = NE at *
  generalize opC N r N.c = OC at *
  generalize selU (koX r) N.l.length = ks at *
  go_upto_region 6 with (fail)
  have FB_0 := Lib.hid (Below.refl wc.heap.size wc)
  refine wp_region_held_drew (S := fun wx => wx.cell? ⟨w.heap.size, 0, none⟩ = some (.slice h.A N.w.length h.c) ∧ wx.cell? ⟨w.heap.size, 1, none⟩ = some (.slice h.L N.l.length h.d) ∧ wx.cell? ⟨w.heap.size, 2, none⟩ = some (.slice h.C N.c.length h.e)) (by kernel_rfl) (HSY.out _ (Below.refl _ _).drew) (fun hHeld => ?_)
  obtain ⟨wq1, hwq1⟩ : ∃ w', w' = wc.drew := ⟨_, rfl⟩
  rw [← hwq1] at hHeld ⊢
  have bq1 : Below wc.heap.size wc wq1 := by rw [hwq1]; exact (Below.refl _ _).drew
  clear hwq1
  have FB_q2 := Lib.hid ((FB_0.out).trans ((bq1).mono (FB_0.out).size))
  clear FB_0
  refine wpAnyH_take (i := 0) (v := ?vq3) rfl (by kernel_rfl) (by kernel_rfl) (by kernel_rfl) (fun _ _ _ h => h) (Or.inl ⟨by rfl, ?yq3⟩) (by assumption) ?_
  case yq3 => (intro w hSw; (try dsimp only at hSw); go_simp; all_goals (with_reducible rfl))
  (try simp only [Act.put, List.setIfInBounds_toArray, List.set_cons_zero, List.set_cons_succ, List.getElem_toArray, List.getElem_cons_succ, List.getElem_cons_zero])
  refine wpAnyH_take (i := 1) (v := ?vq4) rfl (by kernel_rfl) (by kernel_rfl) (by kernel_rfl) (fun _ _ _ h => h) (Or.inl ⟨by rfl, ?yq4⟩) (by assumption) ?_
  case yq4 => (intro w hSw; (try dsimp only at hSw); go_simp; all_goals (with_reducible rfl))
  (try simp only [Act.put, List.setIfInBounds_toArray, List.set_cons_zero, List.set_cons_succ, List.getElem_toArray, List.getElem_cons_succ, List.getElem_cons_zero])
  refine wpAnyH_take (i := 5) (v := ?vq5) rfl (by kernel_rfl) (by kernel_rfl) (by kernel_rfl) (fun _ _ _ h => h) (Or.inl ⟨by rfl, ?yq5⟩) (by assumption) ?_
  case yq5 => (intro w hSw; (try dsimp only at hSw); go_simp; all_goals (with_reducible rfl))
  (try simp only [Act.put, List.setIfInBounds_toArray, List.set_cons_zero, List.set_cons_succ, List.getElem_toArray, List.getElem_cons_succ, List.getElem_cons_zero])
  refine wpAnyH_take (i := 8) (v := ?vq6) rfl (by kernel_rfl) (by kernel_rfl) (by kernel_rfl) (fun _ _ _ h => h) (Or.inl ⟨by rfl, ?yq6⟩) (by assumption) ?_
  case yq6 => (intro w hSw; (try dsimp only at hSw); go_simp; all_goals (with_reducible rfl))
  (try simp only [Act.put, List.setIfInBounds_toArray, List.set_cons_zero, List.set_cons_succ, List.getElem_toArray, List.getElem_cons_succ, List.getElem_cons_zero])
  refine wpAnyH_take (i := 2) (v := ?vq7) rfl (by kernel_rfl) (by kernel_rfl) (by kernel_rfl) (fun _ _ _ h => h) (Or.inl ⟨by rfl, ?yq7⟩) (by assumption) ?_
  case yq7 => (intro w hSw; (try dsimp only at hSw); go_simp; all_goals (with_reducible rfl))
  (try simp only [Act.put, List.setIfInBounds_toArray, List.set_cons_zero, List.set_cons_succ, List.getElem_toArray, List.getElem_cons_succ, List.getElem_cons_zero])
  refine wpAnyH_take (i := 3) (v := ?vq8) rfl (by kernel_rfl) (by kernel_rfl) (by kernel_rfl) (fun _ _ _ h => h) (Or.inl ⟨by rfl, ?yq8⟩) (by assumption) ?_
  case yq8 => (intro w hSw; (try dsimp only at hSw); go_simp; all_goals (with_reducible rfl))
  (try simp only [Act.put, List.setIfInBounds_toArray, List.set_cons_zero, List.set_cons_succ, List.getElem_toArray, List.getElem_cons_succ, List.getElem_cons_zero])
  refine wpAnyH_ready (rs := [4, 6]) (by kernel_rfl) (by simp) ?_
  refine AllReadyH.cons rfl (fun K hK => ?_) ?_
  · go_simp
    refine (HNF.out wq1).mono ?_
    rintro e wq9 ⟨Aq9, cq9, rfl, ownq9, belq9⟩
    dsimp only
    have FB_q10 := Lib.hid ((FB_q2.out).trans ((belq9).mono (FB_q2.out).size))
    clear FB_q2
    rw [show ((0 : Nat) : Int) = 0 from rfl, HML.out] at ownq9
    (try rw [show ((0 : Nat) : Int) = 0 from rfl])
    (try rw [HML.out])
    have FN_q11 := Lib.hid ownq9
    clear ownq9 belq9
    refine hK.out _ _ (HSY.out _ FB_q10.out) (fun hHeld => ?_)
    clear hK K
    (try simp only [Act.put, List.setIfInBounds_toArray, List.set_cons_zero, List.set_cons_succ, List.getElem_toArray, List.getElem_cons_succ, List.getElem_cons_zero])
    refine wpAnyH_ready (rs := [6]) (by kernel_rfl) (by simp) ?_
    refine AllReadyH.cons rfl (fun K hK => ?_) ?_
    · go_simp
      obtain ⟨wq12, hwq12⟩ : ∃ w', w' = wq9.alloc (.cells #[.int .i64 r] 2) := ⟨_, rfl⟩
      rw [← hwq12]
      have bq12 : Below wq9.heap.size wq9 wq12 := by rw [hwq12]; exact (Below.refl _ _).alloc (Nat.le_refl _) _
      have gq12 : wq12.heap[wq9.heap.size]? = some (.cells #[.int .i64 r] 2 (0, 0)) := by rw [hwq12]; exact heap_alloc_new _ _
      clear hwq12
      have FB_q13 := Lib.hid ((FB_q10.out).trans ((bq12).mono (FB_q10.out).size))
      have FN_q14 := Lib.hid (own_below (FN_q11.out) (bq12) (Nat.le_refl _))
      clear FB_q10 FN_q11
      obtain ⟨grq15, hgq15⟩ : ∃ b, wq9.heap.size = b := ⟨_, rfl⟩
      have FR_q15 := Lib.hid gq12
      rw [hgq15] at FR_q15 ⊢
      clear hgq15 gq12 bq12
      refine hK.out _ _ (HSY.out _ FB_q13.out) (fun hHeld => ?_)
      clear hK K
      (try simp only [Act.put, List.setIfInBounds_toArray, List.set_cons_zero, List.set_cons_succ, List.getElem_toArray, List.getElem_cons_succ, List.getElem_cons_zero])
      refine wpAnyH_ready (rs := [7]) (by kernel_rfl) (by simp) ?_
      refine AllReadyH.cons rfl (fun K hK => ?_) ?_
      · have hrn : RdI wq12 wq12.heap.size Aq9 N.l.length (markL 0 N.l.length) := by have q := RdI.of_own (A := Aq9) (c := cq9) (n := N.l.length) FN_q14.out; exact q
        have hr1 : RdI wq12 wq12.heap.size (some ⟨grq15, 0, none⟩) 1 [(r : Int)] := ⟨rfl, fun _ => ⟨grq15, 0, rfl, (Array.getElem?_eq_some_iff.1 FR_q15.out).1, fun j hj => by (obtain rfl : j = 0 := by omega); exact cell_of_row _ _ 0 _ _ (0, 0) FR_q15.out⟩⟩
        have HWO := without1_any Aq9 N.l.length cq9 (markL 0 N.l.length) (some ⟨grq15, 0, none⟩) 1 (r : Int) wq12 hrn hr1 (by omega)
        rw [HKS.out] at HWO
        clear hrn hr1
        go_simp
        refine (HWO).mono ?_
        rintro e wq16 ⟨Aq16, cq16, rfl, ownq16, belq16⟩
        dsimp only
        have FB_q17 := Lib.hid ((FB_q13.out).trans ((belq16).mono (FB_q13.out).size))
        have FN_q18 := Lib.hid (own_below (FN_q14.out) (belq16) (Nat.le_refl _))
        have FR_q19 := Lib.hid (((belq16).block _ (Array.getElem?_eq_some_iff.1 (FR_q15.out)).1).trans (FR_q15.out))
        clear FB_q13 FN_q14 FR_q15
        have FK_q20 := Lib.hid ownq16
        clear ownq16 belq16 HWO
        refine hK.out _ _ (HSY.out _ FB_q17.out) (fun hHeld => ?_)
        clear hK K
        (try simp only [Act.put, List.setIfInBounds_toArray, List.set_cons_zero, List.set_cons_succ, List.getElem_toArray, List.getElem_cons_succ, List.getElem_cons_zero])
        refine wpAnyH_ready (rs := [9]) (by kernel_rfl) (by simp) ?_
        refine AllReadyH.cons rfl (fun K hK => ?_) ?_
        · have hby := B8.out.trans (FB_q17.out.mono B8.out.size)
          have HNN := HNL.out wq16 Aq16 A8 cq16 c8 hby (RdI.of_own FK_q20.out) ((RdI.of_own O8.out).below FB_q17.out |>.more FB_q17.out.size)
          clear hby
          go_simp
          refine HNN.mono ?_
          rintro e w10 ⟨h10, rfl, own10, bel10⟩
          dsimp only
          have HB10 := Lib.hid ((B8.out.trans (FB_q17.out.mono B8.out.size)).trans (bel10.mono (by have := B8.out.size; have := FB_q17.out.size; omega)))
          have O10 := Lib.hid (own10.more (show w0.heap.size ≤ wq16.heap.size by have := B8.out.size; have := FB_q17.out.size; omega) (Nat.le_refl _))
          clear own10 bel10 HNN
          refine hK.out _ _ (HKB.out _ HB10.out) (fun hHeld => ?_)
          clear hK K
          (try simp only [Act.put, List.setIfInBounds_toArray, List.set_cons_zero, List.set_cons_succ, List.getElem_toArray, List.getElem_cons_succ, List.getElem_cons_zero])
          refine wpAnyH_ready (rs := [10]) (by kernel_rfl) (by simp) ?_
          refine AllReadyH.cons rfl (fun K hK => ?_) ?_
          · have q1 := HK2.out _ HB10.out
            obtain ⟨a0, a1, a2⟩ := three_cells q1
            have f0 := frozen_of_row _ _ 0 _ _ q1; have f1 := frozen_of_row _ _ 1 _ _ q1; have f2 := frozen_of_row _ _ 2 _ _ q1
            have Q1 := Lib.hid q1
            go_simp
            clear a0 a1 a2 f0 f1 f2 q1
            have HKF : Hid ((((w10.setCell ⟨w.heap.size + 1, 0, none⟩ (.slice h10.A NE.w.length h10.c)).setCell ⟨w.heap.size + 1, 1, none⟩ (.slice h10.L NE.l.length h10.d)).setCell ⟨w.heap.size + 1, 2, none⟩ (.slice h10.C NE.c.length h10.e)).cell? ⟨w.heap.size, 0, none⟩ = some (.slice h.A N.w.length h.c) ∧ (((w10.setCell ⟨w.heap.size + 1, 0, none⟩ (.slice h10.A NE.w.length h10.c)).setCell ⟨w.heap.size + 1, 1, none⟩ (.slice h10.L NE.l.length h10.d)).setCell ⟨w.heap.size + 1, 2, none⟩ (.slice h10.C NE.c.length h10.e)).cell? ⟨w.heap.size, 1, none⟩ = some (.slice h.L N.l.length h.d) ∧ (((w10.setCell ⟨w.heap.size + 1, 0, none⟩ (.slice h10.A NE.w.length h10.c)).setCell ⟨w.heap.size + 1, 1, none⟩ (.slice h10.L NE.l.length h10.d)).setCell ⟨w.heap.size + 1, 2, none⟩ (.slice h10.C NE.c.length h10.e)).cell? ⟨w.heap.size, 2, none⟩ = some (.slice h.C N.c.length h.e)) := Lib.hid (by obtain ⟨k0, k1, k2⟩ := HKB.out _ HB10.out; exact ⟨((World.cell?_setCell_other _ _ _ _ (fun e => by injection e with e1 e2 e3; omega)).trans ((World.cell?_setCell_other _ _ _ _ (fun e => by injection e with e1 e2 e3; omega)).trans ((World.cell?_setCell_other _ _ _ _ (fun e => by injection e with e1 e2 e3; omega)).trans k0))), ((World.cell?_setCell_other _ _ _ _ (fun e => by injection e with e1 e2 e3; omega)).trans ((World.cell?_setCell_other _ _ _ _ (fun e => by injection e with e1 e2 e3; omega)).trans ((World.cell?_setCell_other _ _ _ _ (fun e => by injection e with e1 e2 e3; omega)).trans k1))), ((World.cell?_setCell_other _ _ _ _ (fun e => by injection e with e1 e2 e3; omega)).trans ((World.cell?_setCell_other _ _ _ _ (fun e => by injection e with e1 e2 e3; omega)).trans ((World.cell?_setCell_other _ _ _ _ (fun e => by injection e with e1 e2 e3; omega)).trans k2)))⟩)
            refine hK.out _ _ (HKF.out) (fun hHeld => ?_)
            clear hK K
            (try simp only [Act.put, List.setIfInBounds_toArray, List.set_cons_zero, List.set_cons_succ, List.getElem_toArray, List.getElem_cons_succ, List.getElem_cons_zero])
            refine wpAnyH_ready (rs := [11]) (by kernel_rfl) (by simp) ?_
            refine AllReadyH.cons rfl (fun K hK => ?_) ?_
            · go_simp
              refine hK.out _ _ hHeld (fun hHeld => ?_)
              clear hK K
              (try simp only [Act.put, List.setIfInBounds_toArray, List.set_cons_zero, List.set_cons_succ, List.getElem_toArray, List.getElem_cons_succ, List.getElem_cons_zero])
              refine wpAnyH_done (by kernel_rfl) ?_ _
              go_wp2
              (try simp only [Exit.inBlock, Exit.then])
              refine bodyPost_ret (results_cell_row_tmp rfl _ _ (w.heap.size + 1) _ _ (0, 0) _ rfl (set3_at Q1.out _ _ _) Tryz.underlying30 rfl (by kernel_rfl)) rfl ?_
              exact givesNB_of (nlDone HB0.out HB10.out O10.out hs0)
            exact AllReadyH.nil
          exact AllReadyH.nil
        exact AllReadyH.nil
      exact AllReadyH.nil
    exact AllReadyH.nil
  refine AllReadyH.cons rfl (fun K hK => ?_) ?_
  · go_simp
    obtain ⟨wq21, hwq21⟩ : ∃ w', w' = wq1.alloc (.cells #[.int .i64 r] 2) := ⟨_, rfl⟩
    rw [← hwq21]
    have bq21 : Below wq1.heap.size wq1 wq21 := by rw [hwq21]; exact (Below.refl _ _).alloc (Nat.le_refl _) _
    have gq21 : wq21.heap[wq1.heap.size]? = some (.cells #[.int .i64 r] 2 (0, 0)) := by rw [hwq21]; exact heap_alloc_new _ _
    clear hwq21
    have FB_q22 := Lib.hid ((FB_q2.out).trans ((bq21).mono (FB_q2.out).size))
    clear FB_q2
    obtain ⟨grq23, hgq23⟩ : ∃ b, wq1.heap.size = b := ⟨_, rfl⟩
    have FR_q23 := Lib.hid gq21
    rw [hgq23] at FR_q23 ⊢
    clear hgq23 gq21 bq21
    refine hK.out _ _ (HSY.out _ FB_q22.out) (fun hHeld => ?_)
    clear hK K
    (try simp only [Act.put, List.setIfInBounds_toArray, List.set_cons_zero, List.set_cons_succ, List.getElem_toArray, List.getElem_cons_succ, List.getElem_cons_zero])
    refine wpAnyH_ready (rs := [4]) (by kernel_rfl) (by simp) ?_
    refine AllReadyH.cons rfl (fun K hK => ?_) ?_
    · go_simp
      refine (HNF.out wq21).mono ?_
      rintro e wq24 ⟨Aq24, cq24, rfl, ownq24, belq24⟩
      dsimp only
      have FB_q25 := Lib.hid ((FB_q22.out).trans ((belq24).mono (FB_q22.out).size))
      have FR_q26 := Lib.hid (((belq24).block _ (Array.getElem?_eq_some_iff.1 (FR_q23.out)).1).trans (FR_q23.out))
      clear FB_q22 FR_q23
      rw [show ((0 : Nat) : Int) = 0 from rfl, HML.out] at ownq24
      (try rw [show ((0 : Nat) : Int) = 0 from rfl])
      (try rw [HML.out])
      have FN_q27 := Lib.hid ownq24
      clear ownq24 belq24
      refine hK.out _ _ (HSY.out _ FB_q25.out) (fun hHeld => ?_)
      clear hK K
      (try simp only [Act.put, List.setIfInBounds_toArray, List.set_cons_zero, List.set_cons_succ, List.getElem_toArray, List.getElem_cons_succ, List.getElem_cons_zero])
      refine wpAnyH_ready (rs := [7]) (by kernel_rfl) (by simp) ?_
      refine AllReadyH.cons rfl (fun K hK => ?_) ?_
      · have hrn : RdI wq24 wq24.heap.size Aq24 N.l.length (markL 0 N.l.length) := by have q := RdI.of_own (A := Aq24) (c := cq24) (n := N.l.length) FN_q27.out; exact q
        have hr1 : RdI wq24 wq24.heap.size (some ⟨grq23, 0, none⟩) 1 [(r : Int)] := ⟨rfl, fun _ => ⟨grq23, 0, rfl, (Array.getElem?_eq_some_iff.1 FR_q26.out).1, fun j hj => by (obtain rfl : j = 0 := by omega); exact cell_of_row _ _ 0 _ _ (0, 0) FR_q26.out⟩⟩
        have HWO := without1_any Aq24 N.l.length cq24 (markL 0 N.l.length) (some ⟨grq23, 0, none⟩) 1 (r : Int) wq24 hrn hr1 (by omega)
        rw [HKS.out] at HWO
        clear hrn hr1
        go_simp
        refine (HWO).mono ?_
        rintro e wq28 ⟨Aq28, cq28, rfl, ownq28, belq28⟩
        dsimp only
        have FB_q29 := Lib.hid ((FB_q25.out).trans ((belq28).mono (FB_q25.out).size))
        have FR_q30 := Lib.hid (((belq28).block _ (Array.getElem?_eq_some_iff.1 (FR_q26.out)).1).trans (FR_q26.out))
        have FN_q31 := Lib.hid (own_below (FN_q27.out) (belq28) (Nat.le_refl _))
        clear FB_q25 FR_q26 FN_q27
        have FK_q32 := Lib.hid ownq28
        clear ownq28 belq28 HWO
        refine hK.out _ _ (HSY.out _ FB_q29.out) (fun hHeld => ?_)
        clear hK K
        (try simp only [Act.put, List.setIfInBounds_toArray, List.set_cons_zero, List.set_cons_succ, List.getElem_toArray, List.getElem_cons_succ, List.getElem_cons_zero])
        refine wpAnyH_ready (rs := [9]) (by kernel_rfl) (by simp) ?_
        refine AllReadyH.cons rfl (fun K hK => ?_) ?_
        · have hby := B8.out.trans (FB_q29.out.mono B8.out.size)
          have HNN := HNL.out wq28 Aq28 A8 cq28 c8 hby (RdI.of_own FK_q32.out) ((RdI.of_own O8.out).below FB_q29.out |>.more FB_q29.out.size)
          clear hby
          go_simp
          refine HNN.mono ?_
          rintro e w10 ⟨h10, rfl, own10, bel10⟩
          dsimp only
          have HB10 := Lib.hid ((B8.out.trans (FB_q29.out.mono B8.out.size)).trans (bel10.mono (by have := B8.out.size; have := FB_q29.out.size; omega)))
          have O10 := Lib.hid (own10.more (show w0.heap.size ≤ wq28.heap.size by have := B8.out.size; have := FB_q29.out.size; omega) (Nat.le_refl _))
          clear own10 bel10 HNN
          refine hK.out _ _ (HKB.out _ HB10.out) (fun hHeld => ?_)
          clear hK K
          (try simp only [Act.put, List.setIfInBounds_toArray, List.set_cons_zero, List.set_cons_succ, List.getElem_toArray, List.getElem_cons_succ, List.getElem_cons_zero])
          refine wpAnyH_ready (rs := [10]) (by kernel_rfl) (by simp) ?_
          refine AllReadyH.cons rfl (fun K hK => ?_) ?_
          · have q1 := HK2.out _ HB10.out
            obtain ⟨a0, a1, a2⟩ := three_cells q1
            have f0 := frozen_of_row _ _ 0 _ _ q1; have f1 := frozen_of_row _ _ 1 _ _ q1; have f2 := frozen_of_row _ _ 2 _ _ q1
            have Q1 := Lib.hid q1
            go_simp
            clear a0 a1 a2 f0 f1 f2 q1
            have HKF : Hid ((((w10.setCell ⟨w.heap.size + 1, 0, none⟩ (.slice h10.A NE.w.length h10.c)).setCell ⟨w.heap.size + 1, 1, none⟩ (.slice h10.L NE.l.length h10.d)).setCell ⟨w.heap.size + 1, 2, none⟩ (.slice h10.C NE.c.length h10.e)).cell? ⟨w.heap.size, 0, none⟩ = some (.slice h.A N.w.length h.c) ∧ (((w10.setCell ⟨w.heap.size + 1, 0, none⟩ (.slice h10.A NE.w.length h10.c)).setCell ⟨w.heap.size + 1, 1, none⟩ (.slice h10.L NE.l.length h10.d)).setCell ⟨w.heap.size + 1, 2, none⟩ (.slice h10.C NE.c.length h10.e)).cell? ⟨w.heap.size, 1, none⟩ = some (.slice h.L N.l.length h.d) ∧ (((w10.setCell ⟨w.heap.size + 1, 0, none⟩ (.slice h10.A NE.w.length h10.c)).setCell ⟨w.heap.size + 1, 1, none⟩ (.slice h10.L NE.l.length h10.d)).setCell ⟨w.heap.size + 1, 2, none⟩ (.slice h10.C NE.c.length h10.e)).cell? ⟨w.heap.size, 2, none⟩ = some (.slice h.C N.c.length h.e)) := Lib.hid (by obtain ⟨k0, k1, k2⟩ := HKB.out _ HB10.out; exact ⟨((World.cell?_setCell_other _ _ _ _ (fun e => by injection e with e1 e2 e3; omega)).trans ((World.cell?_setCell_other _ _ _ _ (fun e => by injection e with e1 e2 e3; omega)).trans ((World.cell?_setCell_other _ _ _ _ (fun e => by injection e with e1 e2 e3; omega)).trans k0))), ((World.cell?_setCell_other _ _ _ _ (fun e => by injection e with e1 e2 e3; omega)).trans ((World.cell?_setCell_other _ _ _ _ (fun e => by injection e with e1 e2 e3; omega)).trans ((World.cell?_setCell_other _ _ _ _ (fun e => by injection e with e1 e2 e3; omega)).trans k1))), ((World.cell?_setCell_other _ _ _ _ (fun e => by injection e with e1 e2 e3; omega)).trans ((World.cell?_setCell_other _ _ _ _ (fun e => by injection e with e1 e2 e3; omega)).trans ((World.cell?_setCell_other _ _ _ _ (fun e => by injection e with e1 e2 e3; omega)).trans k2)))⟩)
            refine hK.out _ _ (HKF.out) (fun hHeld => ?_)
            clear hK K
            (try simp only [Act.put, List.setIfInBounds_toArray, List.set_cons_zero, List.set_cons_succ, List.getElem_toArray, List.getElem_cons_succ, List.getElem_cons_zero])
            refine wpAnyH_ready (rs := [11]) (by kernel_rfl) (by simp) ?_
            refine AllReadyH.cons rfl (fun K hK => ?_) ?_
            · go_simp
              refine hK.out _ _ hHeld (fun hHeld => ?_)
              clear hK K
              (try simp only [Act.put, List.setIfInBounds_toArray, List.set_cons_zero, List.set_cons_succ, List.getElem_toArray, List.getElem_cons_succ, List.getElem_cons_zero])
              refine wpAnyH_done (by kernel_rfl) ?_ _
              go_wp2
              (try simp only [Exit.inBlock, Exit.then])
              refine bodyPost_ret (results_cell_row_tmp rfl _ _ (w.heap.size + 1) _ _ (0, 0) _ rfl (set3_at Q1.out _ _ _) Tryz.underlying30 rfl (by kernel_rfl)) rfl ?_
              exact givesNB_of (nlDone HB0.out HB10.out O10.out hs0)
            exact AllReadyH.nil
          exact AllReadyH.nil
        exact AllReadyH.nil
      exact AllReadyH.nil
    exact AllReadyH.nil
  exact AllReadyH.nil
set_option maxRecDepth 100000 in
set_option maxHeartbeats 1000000 in
theorem removePar_impl (h : NH) (N : Nt) (i : Int) (w : World) (rN : RdN w w.heap.size h N) (sm : SmallN N) (hce : N.c.length ≤ h.e) (ht : Arit w) (hu : Dual w) :
    Calls Tryz.prog 14 #[.agg #[.slice h.A N.w.length h.c, .slice h.L N.l.length h.d, .slice h.C N.c.length h.e], .int .i64 i] w (GivesNB w (opV N i) (opB N i)) := by
  cases hob : opB N i with
  | true =>
    have hmem := opB_is N i
    rw [hob] at hmem
    rw [show opV N i = opN N i.toNat from if_pos hob]
    unfold opB at hob
    simp only [Bool.and_eq_true] at hob
    obtain ⟨hv, hin, htp⟩ := hob
    obtain ⟨_, h1, e⟩ := inW_yes hin
    rw [e] at hmem ⊢
    exact removePar_yes h N i.toNat w hv rN sm hce ht hu h1 htp hmem
  | false =>
    have HOB := Lib.hid (opB_is N i)
    rw [hob] at HOB
    have HVN : Hid (opV N i = Nt.nil) := Lib.hid (if_neg (by rw [hob]; decide))
    obtain ⟨w0, hw0⟩ : ∃ w0, w0 = (w.alloc (.cells #[.slice h.A N.w.length h.c, .slice h.L N.l.length h.d, .slice h.C N.c.length h.e] 30)).alloc (.cells #[.slice none 0 0, .slice none 0 0, .slice none 0 0] 30) := ⟨_, rfl⟩
    obtain ⟨hb, g0, g1, hsz⟩ := two_any' w (.cells #[.slice h.A N.w.length h.c, .slice h.L N.l.length h.d, .slice h.C N.c.length h.e] 30) (.cells #[.slice none 0 0, .slice none 0 0, .slice none 0 0] 30)
    rw [← hw0] at hb g0 g1 hsz
    have hs0 : w.heap.size + 2 ≤ w0.heap.size := by omega
    have HK2 := Lib.hid (fun (wx : World) (hx : Below w0.heap.size w0 wx) => (hx.block (w.heap.size + 1) (by omega)).trans g1)
    have HTP := Lib.hid (terminalPars_any h N w0 ((rN.below hb).more hb.size) sm (ht.below hb ht.lt) (hu.below hb hu.lt))
    have HB0 := Lib.hid hb
    have htl : (tpV N).length ≤ 1048576 := by
      unfold tpV
      split
      · exact Nat.le_trans (selU_len _ _) sm.l
      · exact Nat.zero_le _
    obtain ⟨y0, y1, y2⟩ := three_cells g0
    clear hb g0 g1 hsz rN sm ht hu hob
    rw [HVN.out]
    go_enter Tryz.func14, Tryz.ntmps14
    go_upto_region 1 with (fail)
    rw [← hw0]
    clear hw0
    go_wp2_with (fail)
    refine HTP.out.mono ?_
    rintro e w1 ⟨A1, c1, rfl, own1, bel1⟩
    have B1 := Lib.hid bel1
    have HCI := Lib.hid (containsI_any A1 (tpV N).length c1 (tpV N) i w1 (RdI.of_own own1) htl)
    rw [HOB.out] at HCI
    clear own1 bel1 y0 y1 y2 htl
    generalize (tpV N).length = q at *
    go_wp2_with (fail)
    refine HCI.out.mono ?_
    rintro e w2 ⟨rfl, rfl⟩
    have O2 := Lib.hid (OwnN.nil w1 w0.heap.size w1.heap.size)
    have q1 := HK2.out _ B1.out
    obtain ⟨a0, a1, a2⟩ := three_cells q1
    have f0 := frozen_of_row _ _ 0 _ _ q1; have f1 := frozen_of_row _ _ 1 _ _ q1; have f2 := frozen_of_row _ _ 2 _ _ q1
    have Q1 := Lib.hid q1
    clear q1
    go_wp2
    (try simp only [Exit.inBlock, Exit.then])
    refine bodyPost_ret (results_cell_row_tmp rfl _ _ (w.heap.size + 1) _ _ (0, 0) _ rfl (set3_at Q1.out _ _ _) Tryz.underlying30 rfl (by kernel_rfl)) rfl ?_
    exact givesNB_of (nlDone HB0.out B1.out O2.out hs0)
end Go.Proofs.YtgpocnapkflihaaGreatDoor
