/- The model: l11Has, l13Parts, l13Ready, l13All. The model: l13All, l13Order, FiringOrder, LastFiringOrder, StuckLinks, CorrectByParsing. Made by mkpbc.py. -/
import Derived.Test.YtfdpkhiiboghiaaGreatDoorKPbA
import Derived.Test.YtfdpkhiiboghiaaGreatDoorKQPaH
import Derived.Deep.RegionHeldLaw
import Derived.Deep.DeepCutAuto
import Derived.BigQuiet
import Derived.Deep.LoopGhost
import Derived.Maps.AppendAt
namespace Go.Proofs.YtfdpkhiiboghiaaGreatDoor
set_option linter.unusedSimpArgs false
set_option linter.unusedVariables false
section
set_option linter.unusedSimpArgs false
set_option linter.unusedVariables false
open Go.ChangeAt Go.ChangeShapes Go.RowKit Go.WideShapes

theorem memAtP {p : List Int} {x : Int} (h : x ∈ p) : ∃ i, i < p.length ∧ p.getD i 0 = x := by
  obtain ⟨i, hi, e⟩ := List.getElem_of_mem h
  exact ⟨i, hi, by simp [List.getD, hi, e]⟩
theorem cont_is (p : List Int) (x : Int) : decide (x ∈ p) = p.contains x := by
  rw [Bool.eq_iff_iff, List.contains_iff_mem, decide_eq_true_eq]
set_option maxRecDepth 100000 in
set_option maxHeartbeats 1000000 in
theorem sHasP_any (A : Option Addr) (n c : Nat) (p : List Int) (x : Int) (w : World) (hl : n ≤ 1048576) (r : RdI w w.heap.size A n p) :
    Calls Tryz.prog 87 #[.slice A n c, .int .i64 x] w fun e w' => e = .returned (.bool (p.contains x)) ∧ w' = w := by
  rw [← cont_is]
  have RS := Lib.hid r
  have hlen := r.1
  have HLN := Lib.hid hlen
  clear r hlen
  go_enter Tryz.func87, Tryz.ntmps87
  go_wp2
  go_loopw [5] (fun i wr => ∃ k : Nat, k ≤ n ∧ i = .int .i64 k ∧ (∀ m, m < k → ¬ p.getD m 0 = x) ∧ wr = w) (fun i _ => n - (intOf i).toNat)
  case atStart => exact ⟨0, Nat.zero_le _, rfl, fun m hm => absurd hm (by omega), rfl⟩
  case round =>
    obtain ⟨k, hk, rfl, hpl, rfl⟩ := hrel
    have HP := Lib.hid hpl
    clear hpl
    by_cases hlt : k < n
    · obtain ⟨b, off, hA, hbb, hcells⟩ := RS.out.2 (show 0 < n by omega)
      have x0 := hcells k hlt
      have HM := Lib.hid (getL_mem (d := 0) (show k < p.length by have := HLN.out; omega))
      have HPP : Hid (¬ p.getD k 0 = x → ∀ m, m < k + 1 → ¬ p.getD m 0 = x) := Lib.hid fun e m hm => by
        by_cases e2 : m < k
        · exact HP.out m e2
        · obtain rfl : m = k := by omega
          exact e
      generalize p.getD k 0 = z at *
      subst hA
      clear hcells
      by_cases hz : z = x
      · have hd : (z == x) = true := by simp [hz]
        have HE : Hid (true = decide (x ∈ p)) := Lib.hid (decide_eq_true (by rw [← hz]; exact HM.out)).symm
        clear hz
        go_wp2
        go_ret
        exact ⟨ret_bool HE.out, rfl⟩
      · have hd : (z == x) = false := by simp [hz]
        have HQ := Lib.hid (HPP.out hz)
        clear hz
        go_wp2
        go_roundw
        case rel => exact ⟨k + 1, by omega, by go_num, HQ.out, by first | rfl | trivial⟩
        case measure => simp [intOf]; omega
    · have hkl : k = n := by omega
      subst hkl
      have HE : Hid (false = decide (x ∈ p)) := Lib.hid (decide_eq_false fun hm => by
        obtain ⟨i, hi, e⟩ := memAtP hm
        exact HP.out i (by have := HLN.out; omega) e).symm
      go_wp2
      go_ret
      exact ⟨ret_bool HE.out, rfl⟩
theorem paU_succ (N : Nt) (fs : List Int) (k : Nat) : paU N fs (k + 1) = paU N fs k ++ [qN N fs (frN N (k : Int))] := by unfold paU; rw [List.range_succ, List.map_append]; rfl
theorem paU_at {N : Nt} {fs : List Int} {n k : Nat} (h : k < n) : (paU N fs n).getD k 0 = qN N fs (frN N (k : Int)) := by simp [paU, List.getD, h]
set_option maxRecDepth 100000 in
set_option maxHeartbeats 2000000 in
theorem sParts_any (h : NH) (N : Nt) (fs : List Int) (FA : Option Addr) (fc : Nat) (w : World) (hv : valN N = true) (hF : isF N fs = true) (r : RdN w w.heap.size h N) (rF : RdI w w.heap.size FA fs.length fs) :
    Calls Tryz.prog 114 #[.agg #[.slice h.A N.w.length h.c, .slice h.L N.l.length h.d, .slice h.C N.c.length h.e], .slice FA fs.length fc] w (Gives w (paU N fs N.w.length)) := by
  obtain ⟨h48, h48l⟩ := valN_size hv
  obtain ⟨i0, hi0, hz0, hz1, hz2⟩ := info_parts info_i64
  have HI := Lib.hid hi0; have HZ0 := Lib.hid hz0; have HZ1 := Lib.hid hz1; have HZ2 := Lib.hid hz2
  obtain ⟨w0, hw0⟩ : ∃ w0, w0 = w.alloc (.cells #[.slice h.A N.w.length h.c, .slice h.L N.l.length h.d, .slice h.C N.c.length h.e] 30) := ⟨_, rfl⟩
  obtain ⟨hb, hh, hsz⟩ := box3_any w (.slice h.A N.w.length h.c) (.slice h.L N.l.length h.d) (.slice h.C N.c.length h.e) 30
  rw [← hw0] at hb hh hsz
  have hs0 : w.heap.size + 1 ≤ w0.heap.size := by omega
  have HK : Hid (∀ w', Below w0.heap.size w0 w' → w'.cell? ⟨w.heap.size, 0, none⟩ = some (.slice h.A N.w.length h.c) ∧ w'.cell? ⟨w.heap.size, 1, none⟩ = some (.slice h.L N.l.length h.d) ∧ w'.cell? ⟨w.heap.size, 2, none⟩ = some (.slice h.C N.c.length h.e)) := Lib.hid fun w' hw => three_cells ((hw.block _ (by omega)).trans hh)
  have HFR := Lib.hid (fun (x : Int) (w' : World) (hw : Below w0.heap.size w0 w') => smFrom_any h.A h.L h.C N.w.length h.c h.d N.c.length h.e N.l x w' (((r.below (hb.trans (hw.mono hb.size))).more (Nat.le_trans hb.size hw.size))).2.1 (by omega))
  have HLI := Lib.hid (sLinks_any h N fs FA fc w0 hv hF ((r.below hb).more hb.size) ((rF.below hb).more hb.size))
  have HB0 := Lib.hid hb
  have HVV := Lib.hid hv
  obtain ⟨y0, y1, y2⟩ := three_cells hh
  clear hb hh hsz r rF hi0 hz0 hz1 hz2 hF hv
  go_enter Tryz.func114, Tryz.ntmps114
  go_wp2_with (fail)
  rw [← hw0]
  clear hw0
  refine HLI.out.mono ?_
  rintro e w1 ⟨A1, c1, rfl, own1, bel1⟩
  have B1 := Lib.hid bel1
  have O1 := Lib.hid (RdI.of_own own1)
  have hln : (lkL N fs).length = N.l.length := lkL_len N fs
  rw [hln] at O1 ⊢
  have hs1 : w0.heap.size ≤ w1.heap.size := bel1.size
  have h0 : (w1.alloc (.cells #[] 2)).ownsRow w1.heap.size 2 1 (.slice (some ⟨w1.heap.size, 0, none⟩) 0 0) (paU N fs 0).length ((paU N fs 0).map (Value.int .i64)) := World.ownsRow_made w1 #[] 0 (Nat.le_refl _) (by simp [maxLen]) rfl
  have hb1 : Below w1.heap.size w1 (w1.alloc (.cells #[] 2)) := (Below.refl _ _).alloc (Nat.le_refl _) _
  have H0 := Lib.hid h0; have HB1 := Lib.hid hb1
  clear bel1 own1 hln y0 y1 y2 h0 hb1
  go_wp2
  go_loopw [6, 7] (fun v i wx => ∃ k : Nat, k ≤ N.w.length ∧ i = .int .i64 k ∧ wx.ownsRow w1.heap.size 2 1 v (paU N fs k).length ((paU N fs k).map (Value.int .i64)) ∧ Below w1.heap.size w1 wx) (fun _ i _ => N.w.length - (intOf i).toNat)
  case atStart => exact ⟨0, Nat.zero_le _, rfl, H0.out, HB1.out⟩
  case round =>
    obtain ⟨k, hk, rfl, hO, hB⟩ := hrel
    clear H0 HB1
    obtain ⟨y0, y1, y2⟩ := HK.out _ (B1.out.trans (hB.mono B1.out.size))
    have HO := Lib.hid hO; have HB := Lib.hid hB
    clear hO hB
    by_cases hlt : k < N.w.length
    · have hin : inW N.w.length (k : Int) = true := decide_eq_true (by omega)
      obtain ⟨hfr, hfl⟩ := fr_lt HVV.out hin
      have HF := Lib.hid (HFR.out (k : Int) wr (B1.out.trans (HB.out.mono B1.out.size)))
      rw [from_lxP HVV.out, hfr] at HF
      have HS := Lib.hid (paU_succ N fs k)
      have HLN : Hid ((paU N fs (k + 1)).length = (paU N fs k).length + 1) := Lib.hid (by rw [HS.out]; simp)
      have hpl : (paU N fs k).length = k := paU_len N fs k
      have hq := lkL_at (fs := fs) hfl
      generalize frN N (k : Int) = f at *
      generalize qN N fs f = q at *
      have HQ := Lib.hid hq
      have hfi : (f : Int) < (N.l.length : Int) := by omega
      have HPL := Lib.hid hpl
      clear hfr hin hq hpl
      go_wp2_with (fail)
      refine HF.out.mono ?_
      rintro e w3 ⟨rfl, bel3⟩
      have HB3 := Lib.hid (HB.out.trans (bel3.mono HB.out.size))
      have HO3 := Lib.hid (own_below HO.out bel3 (Nat.le_refl _))
      obtain ⟨bL, oL, rfl, _, hcL⟩ := (O1.out.below HB3.out).2 (by omega)
      have x0 := hcL f hfl
      rw [HQ.out] at x0
      have hsz3 := HB3.out.size
      have hkk : (paU N fs k).length ≤ 48 := by rw [HPL.out]; omega
      clear bel3 hcL y0 y1 y2 HF
      go_wp2_with (at_builtin; refine wpList_append_own _ rfl _ _ 24 rfl w1.heap.size 2 i0 (.int .i64 0) 1 8 Tryz.underlying24 HI.out HZ0.out HZ1.out HZ2.out rfl (by decide) _ _ _ rfl (HO3.out.alloc _) ⟨w3.heap.size, 0, none⟩ 1 1 [.int .i64 q] rfl rfl ?c1 ?c2 ?c3 ?c4 ?c5 ?_)
      case c1 => exact cell_one_new _ _ _
      case c2 => intro u hu; simp at hu; subst hu; rfl
      case c3 => unfold maxLen; omega
      case c4 => omega
      case c5 => simp; omega
      intro v' w4 hown' hgrow _
      have hb2 := Lib.hid ((HB3.out.alloc hsz3 (.cells #[.int .i64 q] 2)).grown hgrow (by simp; omega) (fun q hq => (HO3.out.lt q hq).1))
      have hown2 : w4.ownsRow w1.heap.size 2 1 v' (paU N fs (k + 1)).length ((paU N fs (k + 1)).map (Value.int .i64)) := by
        rw [HLN.out, HS.out, List.map_append]; exact hown'
      have hown1 := Lib.hid hown2
      clear hown' hgrow hown2 hsz3 x0 hkk
      go_wp2
      go_roundw
      case rel => exact ⟨k + 1, by omega, by go_num, hown1.out, hb2.out⟩
      case measure => simp [intOf]; omega
    · have hkn : k = N.w.length := by omega
      have ho1 := HO.out
      rw [hkn] at ho1
      obtain ⟨A, c, rfl⟩ := own_shapeL ho1
      have HG : Hid (Gives w (paU N fs N.w.length) (.returned (.slice A (paU N fs N.w.length).length c)) wr) := Lib.hid ⟨A, c, rfl, ho1.mono (Nat.le_trans HB0.out.size hs1), HB0.out.trans ((B1.out.trans (HB.out.mono B1.out.size)).mono HB0.out.size)⟩
      subst hkn
      clear ho1 HO HB
      generalize (paU N fs N.w.length).length = ql at *
      go_wp2
      go_ret
      exact HG.out
set_option maxRecDepth 100000 in
set_option maxHeartbeats 2000000 in
theorem sReady_any (h : NH) (N : Nt) (fs : List Int) (PA : Option Addr) (pc : Nat) (k : Nat) (w : World) (hv : valN N = true) (hk : k < N.l.length) (r : RdN w w.heap.size h N) (rP : RdI w w.heap.size PA N.w.length (paU N fs N.w.length)) :
    Calls Tryz.prog 186 #[.agg #[.slice h.A N.w.length h.c, .slice h.L N.l.length h.d, .slice h.C N.c.length h.e], .slice PA N.w.length pc, .int .i64 k] w fun e w' => e = .returned (.bool (rdyQ N (qN N fs) (N.l.getD k Lk.nil))) ∧ Below w.heap.size w w' := by
  obtain ⟨h48, h48l⟩ := valN_size hv
  obtain ⟨w0, hw0⟩ : ∃ w0, w0 = w.alloc (.cells #[.slice h.A N.w.length h.c, .slice h.L N.l.length h.d, .slice h.C N.c.length h.e] 30) := ⟨_, rfl⟩
  obtain ⟨hb, hh, hsz⟩ := box3_any w (.slice h.A N.w.length h.c) (.slice h.L N.l.length h.d) (.slice h.C N.c.length h.e) 30
  rw [← hw0] at hb hh hsz
  have hs0 : w.heap.size + 1 ≤ w0.heap.size := by omega
  obtain ⟨b, off, hLe, _, hcl⟩ := (r.2.1.below hb).at (show 0 < N.l.length by omega)
  obtain ⟨l0, l1, l2, l3⟩ := hcl k hk
  have hfit := fitsN_yes (link_fits hv hk)
  have hki : (k : Int) < (N.l.length : Int) := by omega
  obtain ⟨y0, y1, y2⟩ := three_cells hh
  obtain ⟨⟨lk, la, lb, lc⟩, hl⟩ : ∃ l, N.l.getD k Lk.nil = l := ⟨_, rfl⟩
  rw [hl] at l0 l1 l2 l3 hfit ⊢
  dsimp only at l0 l1 l2 l3 hfit
  have ha1 := (inW_yes hfit.1).2.1; have ha2 := (inW_yes hfit.1).2.2
  have hb1 := (inW_yes hfit.2.1).2.1; have hb2 := (inW_yes hfit.2.1).2.2
  obtain ⟨bl, z0, z1, z2, z3, zs⟩ := lnk_any w0 ⟨lk, la, lb, lc⟩ 103
  dsimp only at bl z0 z1 z2 z3
  obtain ⟨u1, hu1⟩ : ∃ u1, u1 = w0.alloc (.cells #[.int .i64 lk, .int .i64 la, .int .i64 lb, .int .i64 lc] 103) := ⟨_, rfl⟩
  rw [← hu1] at bl zs z0 z1 z2 z3
  have HU1 := Lib.hid hu1
  have HBU := Lib.hid (hb.trans (bl.mono hb.size))
  have HBN := Lib.hid (fun n => below_drewN HBU.out n)
  obtain ⟨bp, op, hPe, hbp, hpc⟩ := (rP.below HBU.out).2 (by omega)
  have p0 := hpc la.toNat ha1
  have p1 := hpc lb.toNat hb1
  rw [paU_at ha1, ← ha2] at p0
  rw [paU_at hb1, ← hb2] at p1
  have HRQ : Hid (rdyQ N (qN N fs) ⟨lk, la, lb, lc⟩ = (decide (lk = 1) || (decide (0 ≤ qN N fs (frN N la)) && decide (0 ≤ qN N fs (frN N lb)) && ((qN N fs (frN N la) == qN N fs (frN N lb)) == (lk == 4))))) := Lib.hid rfl
  have HZN := Lib.hid (fun n => drewN_cell (wr := u1.drewN n) ⟨n, rfl⟩ z0)
  generalize rdyQ N (qN N fs) ⟨lk, la, lb, lc⟩ = res at *
  generalize qN N fs (frN N la) = pa at *
  generalize qN N fs (frN N lb) = pb at *
  subst hPe
  clear hb hh hsz r rP hcl hfit hl hpc bl zs hu1 hv
  obtain ⟨hAd, hcd, hhs, hL, hd, hC, he⟩ := h
  dsimp only at hLe y0 y1 y2 hw0 ⊢
  subst hLe
  by_cases h1 : lk = 1
  · subst h1
    have HE : Hid (true = res) := Lib.hid (by rw [HRQ.out]; rfl)
    clear HRQ ha2 hb2
    go_enter Tryz.func186, Tryz.ntmps186
    go_upto_region 1 with (fail)
    rw [← hw0]
    clear hw0
    go_wp2_with (fail)
    rw [← HU1.out]
    go_wp2
    go_ret
    exact ⟨ret_bool HE.out, HBU.out⟩
  · have d1 : (lk == 1) = false := by simpa using h1
    have HE : Hid ((decide (0 ≤ pa) && decide (0 ≤ pb) && ((pa == pb) == (lk == 4))) = res) := Lib.hid (by rw [HRQ.out, decide_eq_false h1, Bool.false_or])
    generalize la.toNat = ia at *
    generalize lb.toNat = ib at *
    subst ha2; subst hb2
    have hiai : (ia : Int) < (N.w.length : Int) := by omega
    have hibi : (ib : Int) < (N.w.length : Int) := by omega
    clear HRQ h1
    by_cases hpa : 0 ≤ pa
    · by_cases hpb : 0 ≤ pb
      · have HEE : Hid (((pa == pb) == (lk == 4)) = res) := Lib.hid (by rw [← HE.out, decide_eq_true hpa, decide_eq_true hpb]; rfl)
        have d2 : decide (0 ≤ pa) = true := decide_eq_true hpa
        have d3 : decide (0 ≤ pb) = true := decide_eq_true hpb
        clear hpa hpb HE
        go_enter Tryz.func186, Tryz.ntmps186
        go_upto_region 1 with (fail)
        rw [← hw0]
        clear hw0
        go_upto_region 4 with (fail)
        rw [← HU1.out]
        go_quiet (fail)
        have zn := HZN.out nq
        have HBQ := Lib.hid (HBN.out nq)
        go_wp2
        go_ret
        exact ⟨ret_bool HEE.out, HBQ.out⟩
      · have HEE : Hid (false = res) := Lib.hid (by rw [← HE.out, decide_eq_true hpa, decide_eq_false hpb]; rfl)
        have d2 : decide (0 ≤ pa) = true := decide_eq_true hpa
        have d3 : decide (0 ≤ pb) = false := decide_eq_false hpb
        clear hpa hpb HE
        go_enter Tryz.func186, Tryz.ntmps186
        go_upto_region 1 with (fail)
        rw [← hw0]
        clear hw0
        go_upto_region 4 with (fail)
        rw [← HU1.out]
        go_quiet (fail)
        have zn := HZN.out nq
        have HBQ := Lib.hid (HBN.out nq)
        go_wp2
        go_ret
        exact ⟨ret_bool HEE.out, HBQ.out⟩
    · have HEE : Hid (false = res) := Lib.hid (by rw [← HE.out, decide_eq_false hpa]; rfl)
      have d2 : decide (0 ≤ pa) = false := decide_eq_false hpa
      clear hpa HE
      go_enter Tryz.func186, Tryz.ntmps186
      go_upto_region 1 with (fail)
      rw [← hw0]
      clear hw0
      go_upto_region 4 with (fail)
      rw [← HU1.out]
      go_quiet (fail)
      have zn := HZN.out nq
      have HBQ := Lib.hid (HBN.out nq)
      go_wp2
      go_ret
      exact ⟨ret_bool HEE.out, HBQ.out⟩
end
section
set_option linter.unusedSimpArgs false
set_option linter.unusedVariables false
open Go.ChangeAt Go.ChangeShapes Go.RowKit Go.WideShapes

set_option maxRecDepth 100000 in
set_option maxHeartbeats 2000000 in
theorem sAll_any (h : NH) (N : Nt) (fs : List Int) (FA : Option Addr) (fc : Nat) (w : World) (hv : valN N = true) (hF : isF N fs = true) (r : RdN w w.heap.size h N) (rF : RdI w w.heap.size FA fs.length fs) :
    Calls Tryz.prog 161 #[.agg #[.slice h.A N.w.length h.c, .slice h.L N.l.length h.d, .slice h.C N.c.length h.e], .slice FA fs.length fc] w (Gives w (allQ N fs)) := by
  obtain ⟨h48, h48l⟩ := valN_size hv
  have hfl := (isF_ok hF).len
  obtain ⟨i0, hi0, hz0, hz1, hz2⟩ := info_parts info_i64
  have HI := Lib.hid hi0; have HZ0 := Lib.hid hz0; have HZ1 := Lib.hid hz1; have HZ2 := Lib.hid hz2
  obtain ⟨w0, hw0⟩ : ∃ w0, w0 = w.alloc (.cells #[.slice h.A N.w.length h.c, .slice h.L N.l.length h.d, .slice h.C N.c.length h.e] 30) := ⟨_, rfl⟩
  obtain ⟨hb, hh, hsz⟩ := box3_any w (.slice h.A N.w.length h.c) (.slice h.L N.l.length h.d) (.slice h.C N.c.length h.e) 30
  rw [← hw0] at hb hh hsz
  have hs0 : w.heap.size + 1 ≤ w0.heap.size := by omega
  have HK : Hid (∀ w', Below w0.heap.size w0 w' → w'.cell? ⟨w.heap.size, 0, none⟩ = some (.slice h.A N.w.length h.c) ∧ w'.cell? ⟨w.heap.size, 1, none⟩ = some (.slice h.L N.l.length h.d) ∧ w'.cell? ⟨w.heap.size, 2, none⟩ = some (.slice h.C N.c.length h.e)) := Lib.hid fun w' hw => three_cells ((hw.block _ (by omega)).trans hh)
  have HR := Lib.hid (fun (w' : World) (hw : Below w0.heap.size w0 w') => ((r.below (hb.trans (hw.mono hb.size))).more (Nat.le_trans hb.size hw.size)))
  have HB0 := Lib.hid hb
  have hg0 : w0.heap.size = w.heap.size + 1 := by omega
  have hb1 : Below w0.heap.size w0 (w0.alloc (.cells #[] 2)) := (Below.refl _ _).alloc (Nat.le_refl _) _
  have h0 : (w0.alloc (.cells #[] 2)).ownsRow w0.heap.size 2 1 (.slice (some ⟨w.heap.size + 1, 0, none⟩) 0 0) (alU N fs 0).length ((alU N fs 0).map (Value.int .i64)) := by rw [← hg0]; exact World.ownsRow_made w0 #[] 0 (Nat.le_refl _) (by simp [maxLen]) rfl
  have HPA := Lib.hid (sParts_any h N fs FA fc (w0.alloc (.cells #[] 2)) hv hF (HR.out _ hb1) ((rF.below (hb.trans (hb1.mono hb.size))).more (Nat.le_trans hb.size hb1.size)))
  have HRF := Lib.hid (fun (w' : World) (hw : Below w0.heap.size w0 w') => show RdI w' w'.heap.size FA fs.length fs from ((rF.below (hb.trans (hw.mono hb.size))).more (Nat.le_trans hb.size hw.size)))
  obtain ⟨w1, hw1⟩ : ∃ w1, w1 = w0.alloc (.cells #[] 2) := ⟨_, rfl⟩
  rw [← hw1] at hb1 h0 HPA
  have H0 := Lib.hid h0; have HB1 := Lib.hid hb1
  have HVV := Lib.hid hv; have HFF := Lib.hid hF; have HW1 := Lib.hid hw1
  obtain ⟨y0, y1, y2⟩ := HK.out _ hb1
  clear hb hh hsz r rF hi0 hz0 hz1 hz2 hF hv h0 hb1 hg0 hw1
  go_enter Tryz.func161, Tryz.ntmps161
  go_upto_region 2 with (fail)
  rw [← hw0, ← HW1.out]
  clear hw0
  go_wp2_with (fail)
  refine HPA.out.mono ?_
  rintro e w2 ⟨A2, c2, rfl, own2, bel2⟩
  have B2 := Lib.hid (HB1.out.trans (bel2.mono HB1.out.size))
  have O2 := Lib.hid own2
  have HLT := Lib.hid (fun q (e : Value.ownBlock (.slice A2 (paU N fs N.w.length).length c2) = some q) => own2.lt q e)
  have HO0 := Lib.hid (own_below H0.out bel2 (Nat.le_refl _))
  have hln : (paU N fs N.w.length).length = N.w.length := paU_len N fs _
  rw [hln] at O2 HLT ⊢
  have hs2 : w0.heap.size ≤ w2.heap.size := B2.out.size
  have HLN2 := Lib.hid hln
  have HS1 : Hid (w1.heap.size = w0.heap.size + 1) := Lib.hid (by rw [HW1.out]; simp)
  have HF0 : Hid (∀ q, Value.ownBlock (.slice (some ⟨w.heap.size + 1, 0, none⟩) 0 0) = some q → q < w1.heap.size ∨ w2.heap.size ≤ q) := Lib.hid fun q e => .inl (H0.out.lt q e).2
  clear own2 bel2 hln y0 y1 y2 H0
  go_wp2
  go_loopw [5, 7] (fun v i wx => ∃ k : Nat, k ≤ N.l.length ∧ i = .int .i64 k ∧ wx.ownsRow w0.heap.size 2 1 v (alU N fs k).length ((alU N fs k).map (Value.int .i64)) ∧ Below w0.heap.size w0 wx ∧ wx.ownsRow w1.heap.size 2 1 (.slice A2 N.w.length c2) N.w.length ((paU N fs N.w.length).map (Value.int .i64)) ∧ (∀ q, v.ownBlock = some q → q < w1.heap.size ∨ w2.heap.size ≤ q) ∧ w2.heap.size ≤ wx.heap.size) (fun _ i _ => N.l.length - (intOf i).toNat)
  case atStart => exact ⟨0, Nat.zero_le _, rfl, HO0.out, B2.out, O2.out, HF0.out, Nat.le_refl _⟩
  case round =>
    obtain ⟨k, hk, rfl, hO, hB, hP, hF, hZ⟩ := hrel
    clear HO0 B2 O2
    obtain ⟨y0, y1, y2⟩ := HK.out _ hB
    have HO := Lib.hid hO; have HB := Lib.hid hB; have HP := Lib.hid hP; have HF := Lib.hid hF; have HZ := Lib.hid hZ
    clear hO hB hP hF hZ HF0
    by_cases hlt : k < N.l.length
    · have hln := alU_len N fs k
      have HYE := Lib.hid (fun e => alU_yes (N := N) (fs := fs) (k := k) e)
      have HNO := Lib.hid (fun e => alU_no (N := N) (fs := fs) (k := k) e)
      have HOI := Lib.hid (okF_is (fs := fs) hlt)
      have HHAS := Lib.hid (sHasP_any FA fs.length fc fs (k : Int) wr (by omega) (HRF.out _ HB.out))
      have HRDY := Lib.hid (sReady_any h N fs A2 c2 k wr HVV.out hlt (HR.out _ HB.out) (by have := RdI.of_own (by rw [HLN2.out]; exact HP.out : wr.ownsRow w1.heap.size 2 1 (.slice A2 (paU N fs N.w.length).length c2) (paU N fs N.w.length).length ((paU N fs N.w.length).map (Value.int .i64))); rwa [HLN2.out] at this))
      generalize rdyQ N (qN N fs) (N.l.getD k Lk.nil) = rd at *
      generalize fs.contains (k : Int) = ct at *
      cases ct with
      | true =>
        have HS := Lib.hid (HNO.out (by rw [HOI.out]; rfl))
        go_wp2_with (fail)
        refine HHAS.out.mono ?_
        rintro e wz ⟨rfl, rfl⟩
        have ho1 := HO.out
        rw [← HS.out] at ho1
        have HO1 := Lib.hid ho1
        clear ho1
        go_wp2
        go_roundw
        case rel => exact ⟨k + 1, by omega, by go_num, HO1.out, HB.out, HP.out, HF.out, HZ.out⟩
        case measure => simp [intOf]; omega
      | false =>
        go_wp2_with (fail)
        refine HHAS.out.mono ?_
        rintro e wz ⟨rfl, rfl⟩
        cases rd with
        | false =>
          have HS := Lib.hid (HNO.out (by rw [HOI.out]; rfl))
          go_wp2_with (fail)
          refine HRDY.out.mono ?_
          rintro e w3 ⟨rfl, bel3⟩
          have HB3 := Lib.hid (HB.out.trans (bel3.mono HB.out.size))
          have ho1 := own_below HO.out bel3 (Nat.le_refl _)
          rw [← HS.out] at ho1
          have HO1 := Lib.hid ho1
          have HP3 := Lib.hid (own_below HP.out bel3 (Nat.le_refl _))
          have HZ3 := Lib.hid (Nat.le_trans HZ.out bel3.size)
          clear ho1 bel3 y0 y1 y2
          go_wp2
          go_roundw
          case rel => exact ⟨k + 1, by omega, by go_num, HO1.out, HB3.out, HP3.out, HF.out, HZ3.out⟩
          case measure => simp [intOf]; omega
        | true =>
          have HS := Lib.hid (HYE.out (by rw [HOI.out]; rfl))
          have HLN : Hid ((alU N fs (k + 1)).length = (alU N fs k).length + 1) := Lib.hid (by rw [HS.out]; simp)
          go_wp2_with (fail)
          refine HRDY.out.mono ?_
          rintro e w3 ⟨rfl, bel3⟩
          have HB3 := Lib.hid (HB.out.trans (bel3.mono HB.out.size))
          have HO3 := Lib.hid (own_below HO.out bel3 (Nat.le_refl _))
          have HP3 := Lib.hid (own_below HP.out bel3 (Nat.le_refl _))
          have HZ3 := Lib.hid (Nat.le_trans HZ.out bel3.size)
          have hsz9 := HB3.out.size
          clear bel3 y0 y1 y2
          go_wp2_with (at_builtin; refine wpList_append_own_at _ rfl _ _ 24 rfl w0.heap.size 2 i0 (.int .i64 0) 1 8 Tryz.underlying24 HI.out HZ0.out HZ1.out HZ2.out rfl (by decide) _ _ _ rfl (HO3.out.alloc _) ⟨w3.heap.size, 0, none⟩ 1 1 [.int .i64 k] rfl rfl ?c1 ?c2 ?c3 ?c4 ?c5 ?_)
          case c1 => exact cell_one_new _ _ _
          case c2 => intro u hu; simp at hu; subst hu; rfl
          case c3 => unfold maxLen; omega
          case c4 => omega
          case c5 => simp; omega
          intro v' w9 hown' hgrow _ hat
          have hb2 := Lib.hid ((HB3.out.alloc hsz9 (.cells #[.int .i64 k] 2)).grown hgrow (by simp; omega) (fun q hq => (HO3.out.lt q hq).1))
          have hown2 : w9.ownsRow w0.heap.size 2 1 v' (alU N fs (k + 1)).length ((alU N fs (k + 1)).map (Value.int .i64)) := by
            rw [HLN.out, HS.out, List.map_append]; exact hown'
          have hown1 := Lib.hid hown2
          have hs3 := HZ3.out
          have hal : (w3.alloc (.cells #[.int .i64 k] 2)).heap.size = w3.heap.size + 1 := by simp
          have HP9 := Lib.hid (own_same HP3.out fun q e => by
            have hq := HLT.out q e
            rw [hgrow.block q (by rw [hal]; omega) (fun e2 => by rcases HF.out q e2.symm with h | h <;> omega)]
            exact ((Below.refl w3.heap.size w3).alloc (Nat.le_refl _) _).block q (by omega))
          have HF9 : Hid (∀ q, v'.ownBlock = some q → q < w1.heap.size ∨ w2.heap.size ≤ q) := Lib.hid fun q e => by
            rcases hat with h | h
            · exact HF.out q (h ▸ e)
            · rw [h] at e; injection e with e; exact .inr (by omega)
          have HZ9 : Hid (w2.heap.size ≤ w9.heap.size) := Lib.hid (by have := hgrow.size; rw [hal] at this; omega)
          clear hown' hgrow hown2 hsz9 hat hs3 hal
          go_wp2
          go_roundw
          case rel => exact ⟨k + 1, by omega, by go_num, hown1.out, hb2.out, HP9.out, HF9.out, HZ9.out⟩
          case measure => simp [intOf]; omega
    · have hkn : k = N.l.length := by omega
      have ho1 := HO.out
      rw [hkn, alU_all] at ho1
      obtain ⟨A, c, rfl⟩ := own_shapeL ho1
      have HG : Hid (Gives w (allQ N fs) (.returned (.slice A (allQ N fs).length c)) wr) := Lib.hid ⟨A, c, rfl, ho1.mono HB0.out.size, HB0.out.trans (HB.out.mono HB0.out.size)⟩
      subst hkn
      clear ho1 HO HB HP
      generalize (allQ N fs).length = ql at *
      go_wp2
      go_ret
      exact HG.out
set_option maxRecDepth 100000 in
set_option maxHeartbeats 2000000 in
theorem sOrder_any (h : NH) (N : Nt) (last : Bool) (w : World) (hv : valN N = true) (r : RdN w w.heap.size h N) :
    Calls Tryz.prog 113 #[.agg #[.slice h.A N.w.length h.c, .slice h.L N.l.length h.d, .slice h.C N.c.length h.e], .bool last] w (Gives w (ordN N last)) := by
  obtain ⟨h48, h48l⟩ := valN_size hv
  obtain ⟨i0, hi0, hz0, hz1, hz2⟩ := info_parts info_i64
  have HI := Lib.hid hi0; have HZ0 := Lib.hid hz0; have HZ1 := Lib.hid hz1; have HZ2 := Lib.hid hz2
  obtain ⟨w0, hw0⟩ : ∃ w0, w0 = w.alloc (.cells #[.slice h.A N.w.length h.c, .slice h.L N.l.length h.d, .slice h.C N.c.length h.e] 30) := ⟨_, rfl⟩
  obtain ⟨hb, hh, hsz⟩ := box3_any w (.slice h.A N.w.length h.c) (.slice h.L N.l.length h.d) (.slice h.C N.c.length h.e) 30
  rw [← hw0] at hb hh hsz
  have hs0 : w.heap.size + 1 ≤ w0.heap.size := by omega
  have HK : Hid (∀ w', Below w0.heap.size w0 w' → w'.cell? ⟨w.heap.size, 0, none⟩ = some (.slice h.A N.w.length h.c) ∧ w'.cell? ⟨w.heap.size, 1, none⟩ = some (.slice h.L N.l.length h.d) ∧ w'.cell? ⟨w.heap.size, 2, none⟩ = some (.slice h.C N.c.length h.e)) := Lib.hid fun w' hw => three_cells ((hw.block _ (by omega)).trans hh)
  have HR := Lib.hid (fun (w' : World) (hw : Below w0.heap.size w0 w') => ((r.below (hb.trans (hw.mono hb.size))).more (Nat.le_trans hb.size hw.size)))
  have HB0 := Lib.hid hb
  have hg0 : w0.heap.size = w.heap.size + 1 := by omega
  have hb1 : Below w0.heap.size w0 (w0.alloc (.cells #[] 2)) := (Below.refl _ _).alloc (Nat.le_refl _) _
  have h0 : (w0.alloc (.cells #[] 2)).ownsRow w0.heap.size 2 1 (.slice (some ⟨w0.heap.size, 0, none⟩) ([] : List Int).length 0) ([] : List Int).length (([] : List Int).map (Value.int .i64)) := World.ownsRow_made w0 #[] 0 (Nat.le_refl _) (by simp [maxLen]) rfl
  have HAL := Lib.hid (fun (fs : List Int) (A : Option Addr) (c : Nat) (wx : World) (hx : Below w0.heap.size w0 wx) (hF : isF N fs = true) rF => sAll_any h N fs A c wx hv hF (HR.out _ hx) rF)
  have H0 := Lib.hid h0; have HB1 := Lib.hid hb1
  have HLQ := Lib.hid (fun (fs : List Int) => show (allQ N fs).length ≤ 48 from by have := alU_len N fs N.l.length; rw [alU_all] at this; omega)
  have HOL := Lib.hid (fun (fs : List Int) (hO : OrdS N last fs) => show fs.length ≤ 48 from by have := hO.len; omega)
  clear hb hh hsz r hi0 hz0 hz1 hz2 hv h0 hb1 hg0
  go_enter Tryz.func113, Tryz.ntmps113
  go_upto_region 1 with (fail)
  rw [← hw0]
  clear hw0
  go_wp2
  go_loopg [5] N.l.length (fun k v wr => ∃ (fs : List Int) (A : Option Addr) (c : Nat), Hid (k = N.l.length - fs.length) ∧ v = .slice A fs.length c ∧ Hid (OrdS N last fs) ∧ wr.ownsRow w0.heap.size 2 1 (.slice A fs.length c) fs.length (fs.map (Value.int .i64)) ∧ Below w0.heap.size w0 wr)
  case atStart => exact ⟨[], _, _, Lib.hid rfl, rfl, Lib.hid (OrdS.start N last), H0.out, HB1.out⟩
  case round =>
    obtain ⟨fs, A, c, hk, rfl, hO, hown, hB⟩ := hrel
    clear H0 HB1
    obtain ⟨y0, y1, y2⟩ := HK.out _ hB
    have HOW := Lib.hid hown; have HB := Lib.hid hB
    have HA := Lib.hid (HAL.out fs A c wr hB hO.out.isf (RdI.of_own hown))
    have hfl := HOL.out fs hO.out
    clear hown hB
    go_wp2_with (fail)
    refine HA.out.mono ?_
    rintro e w2 ⟨A2, c2, rfl, own2, bel2⟩
    have HB2 := Lib.hid (HB.out.trans (bel2.mono HB.out.size))
    have HO2 := Lib.hid (own_below HOW.out bel2 (Nat.le_refl _))
    have R2 := Lib.hid (RdI.of_own own2)
    clear own2 bel2 y0 y1 y2 HA
    by_cases hne : allQ N fs = []
    · have hstop := hO.out.stop hne
      have hlen : (allQ N fs).length = 0 := by rw [hne]; rfl
      have HE : Hid (Gives w (ordN N last) (.returned (.slice A fs.length c)) w2) := Lib.hid (by
        rw [← hstop]
        exact ⟨A, c, rfl, HO2.out.mono HB0.out.size, HB0.out.trans (HB2.out.mono HB0.out.size)⟩)
      clear hstop hne hO hk R2
      generalize (allQ N fs).length = q at *
      subst hlen
      go_wp2
      go_ret
      exact HE.out
    · have hpos : 0 < (allQ N fs).length := List.length_pos_iff.2 hne
      have d1 : (((allQ N fs).length : Int) == 0) = false := by simp; omega
      have hl48 := HLQ.out fs
      have hmem := pkF_mem (last := last) hne
      obtain ⟨f, hf, hfl2⟩ := allQ_nat hmem
      have hos := hO.out.step hne
      have hosl := hos.len
      rw [List.length_append, List.length_singleton] at hosl
      have HOS := Lib.hid hos
      have HKK : Hid (N.l.length - (fs ++ [pkF last (allQ N fs)]).length < gk) := Lib.hid (by rw [hk.out, List.length_append, List.length_singleton]; omega)
      obtain ⟨b2, o2, rfl, _, hc2⟩ := R2.out.2 hpos
      have HLL : Hid ((fs ++ [pkF last (allQ N fs)]).length = fs.length + 1) := Lib.hid (by simp)
      have hsz9 := HB2.out.size
      have HPK : Hid (∀ i, i = (if last = true then (allQ N fs).length - 1 else 0) → w2.cell? ⟨b2, o2 + i, none⟩ = some (.int .i64 (pkF last (allQ N fs)))) := Lib.hid fun i hi => by
        have := hc2 i (by rw [hi]; split <;> omega)
        rw [this]
        unfold pkF
        rw [hi]
      have hl1 : ((allQ N fs).length : Int) - 1 = (((allQ N fs).length - 1 : Nat) : Int) := by omega
      have hwr : IntKind.i64.wrap (((allQ N fs).length : Int) - 1) = (((allQ N fs).length - 1 : Nat) : Int) := by rw [hl1]; exact IntWalk.i64_in _ (by omega)
      clear hne hmem hf hos hosl hO hk hl1 hc2
      cases last with
      | false =>
        have x0 := HPK.out 0 rfl
        rw [Nat.add_zero] at x0
        clear hwr
        generalize allQ N fs = L at *
        generalize pkF false L = z at *
        go_wp2_with (at_builtin; refine wpList_append_own _ rfl _ _ 24 rfl w0.heap.size 2 i0 (.int .i64 0) 1 8 Tryz.underlying24 HI.out HZ0.out HZ1.out HZ2.out rfl (by decide) _ _ _ rfl (HO2.out.alloc _) ⟨w2.heap.size, 0, none⟩ 1 1 [.int .i64 z] rfl rfl ?c1 ?c2 ?c3 ?c4 ?c5 ?_)
        case c1 => exact cell_one_new _ _ _
        case c2 => intro u hu; simp at hu; subst hu; rfl
        case c3 => unfold maxLen; omega
        case c4 => omega
        case c5 => simp; omega
        intro v' w9 hown' hgrow _
        have hb2 := Lib.hid ((HB2.out.alloc hsz9 (.cells #[.int .i64 z] 2)).grown hgrow (by simp; omega) (fun q hq => (HO2.out.lt q hq).1))
        have hown2 : w9.ownsRow w0.heap.size 2 1 v' (fs ++ [z]).length ((fs ++ [z]).map (Value.int .i64)) := by
          rw [HLL.out, List.map_append]; exact hown'
        obtain ⟨A9, c9, rfl⟩ := own_shapeL hown2
        have hown1 := Lib.hid hown2
        clear hown' hgrow hown2 hsz9
        go_wp2
        go_roundg (N.l.length - (fs ++ [z]).length)
        case measure => exact HKK.out
        case rel => exact ⟨fs ++ [z], A9, c9, Lib.hid rfl, rfl, HOS, hown1.out, hb2.out⟩
      | true =>
        have x0 := HPK.out _ rfl
        simp only [if_true] at x0
        have x1 := HPK.out ((allQ N fs).length - 1) rfl
        have x00 : ∃ z0, w2.cell? ⟨b2, o2, none⟩ = some (.int .i64 z0) := by
          have := (R2.out.2 hpos)
          obtain ⟨b', o', e', _, hc⟩ := this
          injection e' with e'; injection e' with e1 e2 _
          subst e1; subst e2
          exact ⟨_, by have := hc 0 hpos; rwa [Nat.add_zero] at this⟩
        obtain ⟨z0, x00⟩ := x00
        have hl3 : (allQ N fs).length - 1 < (allQ N fs).length := by omega
        generalize (allQ N fs).length - 1 = j at *
        have hj1 : (j : Int) < ((allQ N fs).length : Int) := by omega
        clear x0
        generalize allQ N fs = L at *
        generalize pkF true L = z at *
        go_wp2_with (at_builtin; refine wpList_append_own _ rfl _ _ 24 rfl w0.heap.size 2 i0 (.int .i64 0) 1 8 Tryz.underlying24 HI.out HZ0.out HZ1.out HZ2.out rfl (by decide) _ _ _ rfl (HO2.out.alloc _) ⟨w2.heap.size, 0, none⟩ 1 1 [.int .i64 z] rfl rfl ?c1 ?c2 ?c3 ?c4 ?c5 ?_)
        case c1 => exact cell_one_new _ _ _
        case c2 => intro u hu; simp at hu; subst hu; rfl
        case c3 => unfold maxLen; omega
        case c4 => omega
        case c5 => simp; omega
        intro v' w9 hown' hgrow _
        have hb2 := Lib.hid ((HB2.out.alloc hsz9 (.cells #[.int .i64 z] 2)).grown hgrow (by simp; omega) (fun q hq => (HO2.out.lt q hq).1))
        have hown2 : w9.ownsRow w0.heap.size 2 1 v' (fs ++ [z]).length ((fs ++ [z]).map (Value.int .i64)) := by
          rw [HLL.out, List.map_append]; exact hown'
        obtain ⟨A9, c9, rfl⟩ := own_shapeL hown2
        have hown1 := Lib.hid hown2
        clear hown' hgrow hown2 hsz9
        go_wp2
        go_roundg (N.l.length - (fs ++ [z]).length)
        case measure => exact HKK.out
        case rel => exact ⟨fs ++ [z], A9, c9, Lib.hid rfl, rfl, HOS, hown1.out, hb2.out⟩
end
end Go.Proofs.YtfdpkhiiboghiaaGreatDoor
