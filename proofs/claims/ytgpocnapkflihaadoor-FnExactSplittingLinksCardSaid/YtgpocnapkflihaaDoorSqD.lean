/- The program's partsWithout: the parts of the links when one is removed. -/
import Derived.Test.YtgpocnapkflihaaDoorSqA
import Derived.Test.YtgpocnapkflihaaDoorSqN
import Derived.Test.YtgpocnapkflihaaDoorSgM
import Derived.Deep.RegionHeldLaw
import Derived.Deep.DeepCutAuto
import Derived.BigQuiet
namespace Go.Proofs.YtgpocnapkflihaaDoor
set_option linter.unusedSimpArgs false
set_option linter.unusedVariables false
open Go.ChangeAt Go.ChangeShapes Go.RowKit Go.WideShapes

/-- What partsWithout leaves. -/
def GivesLp (w : World) (N : Nt) (r : Nat) (e : Ending) (w' : World) : Prop := ∃ T, e = .returned (.agg (npA T (cntQ (gpX N r)))) ∧ Uf T (gpX N r) ∧ Below w.heap.size w w'
/-- The parts in a box g, above which memory is one's own. -/
def LpS (w : World) (g : Nat) (Q : Nat → Int) (wr : World) : Prop := ∃ T, LpB wr g T (cntQ Q) ∧ Uf T Q ∧ Below g w wr
theorem LpS.add {w wr w' : World} {g f : Nat} {Q : Nat → Int} {T : List Int} (hB : Below g w wr) (U : Uf T Q) (hf : f < 48) (hq : Q f = -1) (h1 : LpB w' g (T.set f (f : Int)) (cntQ Q + 1)) (hk : KeptS (fun k => k = g) wr w') (hg : g < wr.heap.size) : LpS w g (updQ Q f) w' := by
  obtain ⟨u1, u2⟩ := U.add hf hq
  exact ⟨_, by rw [u2]; exact h1, u1, hB.trans (kept_below hk hg)⟩
set_option maxRecDepth 100000 in
set_option maxHeartbeats 600000 in
theorem partsWithout_any (h : NH) (N : Nt) (r : Nat) (w : World) (hv : valN N = true) (rN : RdN w w.heap.size h N) (hr : r < N.l.length) :
    Calls Tryd.prog 71 #[.agg #[.slice h.A N.w.length h.c, .slice h.L N.l.length h.d, .slice h.C N.c.length h.e], .int .i64 r] w (GivesLp w N r) := by
  obtain ⟨h48, h48l⟩ := valN_size hv
  obtain ⟨w1, hw1⟩ : ∃ w1, w1 = w.alloc (.cells #[.slice h.A N.w.length h.c, .slice h.L N.l.length h.d, .slice h.C N.c.length h.e] 31) := ⟨_, rfl⟩
  obtain ⟨hb, hh, hsz⟩ := box3_any w (.slice h.A N.w.length h.c) (.slice h.L N.l.length h.d) (.slice h.C N.c.length h.e) 31
  rw [← hw1] at hb hh hsz
  obtain ⟨w2, hw2⟩ : ∃ w2, w2 = w1.alloc (.cells #[Value.int .i64 0, Value.int .i64 0, Value.int .i64 0, Value.int .i64 0, Value.int .i64 0, Value.int .i64 0, Value.int .i64 0, Value.int .i64 0, Value.int .i64 0, Value.int .i64 0, Value.int .i64 0, Value.int .i64 0, Value.int .i64 0, Value.int .i64 0, Value.int .i64 0, Value.int .i64 0, Value.int .i64 0, Value.int .i64 0, Value.int .i64 0, Value.int .i64 0, Value.int .i64 0, Value.int .i64 0, Value.int .i64 0, Value.int .i64 0, Value.int .i64 0, Value.int .i64 0, Value.int .i64 0, Value.int .i64 0, Value.int .i64 0, Value.int .i64 0, Value.int .i64 0, Value.int .i64 0, Value.int .i64 0, Value.int .i64 0, Value.int .i64 0, Value.int .i64 0, Value.int .i64 0, Value.int .i64 0, Value.int .i64 0, Value.int .i64 0, Value.int .i64 0, Value.int .i64 0, Value.int .i64 0, Value.int .i64 0, Value.int .i64 0, Value.int .i64 0, Value.int .i64 0, Value.int .i64 0, Value.int .i64 0] 74) := ⟨_, rfl⟩
  have g2 : w2.heap[w.heap.size + 1]? = some (.cells #[Value.int .i64 0, Value.int .i64 0, Value.int .i64 0, Value.int .i64 0, Value.int .i64 0, Value.int .i64 0, Value.int .i64 0, Value.int .i64 0, Value.int .i64 0, Value.int .i64 0, Value.int .i64 0, Value.int .i64 0, Value.int .i64 0, Value.int .i64 0, Value.int .i64 0, Value.int .i64 0, Value.int .i64 0, Value.int .i64 0, Value.int .i64 0, Value.int .i64 0, Value.int .i64 0, Value.int .i64 0, Value.int .i64 0, Value.int .i64 0, Value.int .i64 0, Value.int .i64 0, Value.int .i64 0, Value.int .i64 0, Value.int .i64 0, Value.int .i64 0, Value.int .i64 0, Value.int .i64 0, Value.int .i64 0, Value.int .i64 0, Value.int .i64 0, Value.int .i64 0, Value.int .i64 0, Value.int .i64 0, Value.int .i64 0, Value.int .i64 0, Value.int .i64 0, Value.int .i64 0, Value.int .i64 0, Value.int .i64 0, Value.int .i64 0, Value.int .i64 0, Value.int .i64 0, Value.int .i64 0, Value.int .i64 0] 74 (0, 0)) := by rw [hw2, ← hsz]; exact heap_alloc_new _ _
  have b2 : Below w1.heap.size w1 w2 := by rw [hw2]; exact (Below.refl _ _).alloc (Nat.le_refl _) _
  have s2 : w2.heap.size = w.heap.size + 2 := by rw [hw2]; simp; omega
  have bb := hb.trans (b2.mono hb.size)
  have HKB := Lib.hid (fun (wx : World) (hx : Below w2.heap.size w2 wx) => (hx.block w.heap.size (by omega)).trans ((b2.block _ (by omega)).trans hh))
  have HKG := Lib.hid (fun (wx : World) (hx : Below w2.heap.size w2 wx) => (hx.block (w.heap.size + 1) (by omega)).trans g2)
  have HR := Lib.hid (fun (wx : World) (hx : Below w2.heap.size w2 wx) => show RdN wx wx.heap.size h N from (rN.below (bb.trans (hx.mono bb.size))).more (Nat.le_trans bb.size hx.size))
  have HB2 := Lib.hid bb
  have HS2 := Lib.hid s2
  have HVV := Lib.hid hv
  have HNP := Lib.hid (noParts_V w2)
  have HW1 := Lib.hid hw1; have HW2 := Lib.hid hw2; have HSZ := Lib.hid hsz
  have HAI := Lib.hid (fun j (hj : j < (arcsU N N.w.length).length) => arc_in hv (getL_mem (d := Ac.nil) hj))
  have HQG := Lib.hid (fun j (hj : j ≤ (arcsU N N.w.length).length) k => qA_ge hv (r := r) j hj k)
  have HQS := Lib.hid (fun j (hj : j < (arcsU N N.w.length).length) => qA_succ (N := N) (r := r) hj)
  have HQE := Lib.hid (qA_end hv r)
  have HQ0 := Lib.hid (qA_zero N r)
  have hal := arcsU_len N N.w.length
  clear hb hh hsz g2 b2 s2 bb rN hv
  go_enter Tryd.func71, Tryd.ntmps71
  go_upto_region 1 with (fail)
  rw [← HW1.out, ← HW2.out]
  clear hw1 hw2
  (try rw [HSZ.out])
  go_wp2_with (fail)
  refine HNP.out.mono ?_
  rintro e w3 ⟨rfl, bel3⟩
  have B3 := Lib.hid bel3
  have hl48 := npL_len
  have HN49 := Lib.hid (npA_size (c := 0) hl48)
  have HON := Lib.hid (one_np npL 0)
  have HG4 := Lib.hid (heap_alloc_new w3 (.cells #[Value.int .i64 0, Value.int .i64 0, Value.int .i64 0, Value.int .i64 0, Value.int .i64 0, Value.int .i64 0, Value.int .i64 0, Value.int .i64 0, Value.int .i64 0, Value.int .i64 0, Value.int .i64 0, Value.int .i64 0, Value.int .i64 0, Value.int .i64 0, Value.int .i64 0, Value.int .i64 0, Value.int .i64 0, Value.int .i64 0, Value.int .i64 0, Value.int .i64 0, Value.int .i64 0, Value.int .i64 0, Value.int .i64 0, Value.int .i64 0, Value.int .i64 0, Value.int .i64 0, Value.int .i64 0, Value.int .i64 0, Value.int .i64 0, Value.int .i64 0, Value.int .i64 0, Value.int .i64 0, Value.int .i64 0, Value.int .i64 0, Value.int .i64 0, Value.int .i64 0, Value.int .i64 0, Value.int .i64 0, Value.int .i64 0, Value.int .i64 0, Value.int .i64 0, Value.int .i64 0, Value.int .i64 0, Value.int .i64 0, Value.int .i64 0, Value.int .i64 0, Value.int .i64 0, Value.int .i64 0, Value.int .i64 0] 74))
  have HB4 : Hid (Below w3.heap.size w3 (w3.alloc (.cells #[Value.int .i64 0, Value.int .i64 0, Value.int .i64 0, Value.int .i64 0, Value.int .i64 0, Value.int .i64 0, Value.int .i64 0, Value.int .i64 0, Value.int .i64 0, Value.int .i64 0, Value.int .i64 0, Value.int .i64 0, Value.int .i64 0, Value.int .i64 0, Value.int .i64 0, Value.int .i64 0, Value.int .i64 0, Value.int .i64 0, Value.int .i64 0, Value.int .i64 0, Value.int .i64 0, Value.int .i64 0, Value.int .i64 0, Value.int .i64 0, Value.int .i64 0, Value.int .i64 0, Value.int .i64 0, Value.int .i64 0, Value.int .i64 0, Value.int .i64 0, Value.int .i64 0, Value.int .i64 0, Value.int .i64 0, Value.int .i64 0, Value.int .i64 0, Value.int .i64 0, Value.int .i64 0, Value.int .i64 0, Value.int .i64 0, Value.int .i64 0, Value.int .i64 0, Value.int .i64 0, Value.int .i64 0, Value.int .i64 0, Value.int .i64 0, Value.int .i64 0, Value.int .i64 0, Value.int .i64 0, Value.int .i64 0] 74))) := Lib.hid ((Below.refl _ _).alloc (Nat.le_refl _) _)
  obtain ⟨V, hV⟩ : ∃ V, npA npL 0 = V := ⟨_, rfl⟩
  have HVE := Lib.hid hV
  rw [hV] at HN49 HON ⊢
  clear bel3 hl48 hV
  go_upto_region 2 with (refine wpList_store_row rfl _ _ _ rfl w3.heap.size _ rfl rfl _ _ HG4.out (by rw [HN49.out]; exact size_np) (by rw [HN49.out]; rfl) HON.out ?_)
  have hP5 : LpB ((w3.alloc (.cells #[Value.int .i64 0, Value.int .i64 0, Value.int .i64 0, Value.int .i64 0, Value.int .i64 0, Value.int .i64 0, Value.int .i64 0, Value.int .i64 0, Value.int .i64 0, Value.int .i64 0, Value.int .i64 0, Value.int .i64 0, Value.int .i64 0, Value.int .i64 0, Value.int .i64 0, Value.int .i64 0, Value.int .i64 0, Value.int .i64 0, Value.int .i64 0, Value.int .i64 0, Value.int .i64 0, Value.int .i64 0, Value.int .i64 0, Value.int .i64 0, Value.int .i64 0, Value.int .i64 0, Value.int .i64 0, Value.int .i64 0, Value.int .i64 0, Value.int .i64 0, Value.int .i64 0, Value.int .i64 0, Value.int .i64 0, Value.int .i64 0, Value.int .i64 0, Value.int .i64 0, Value.int .i64 0, Value.int .i64 0, Value.int .i64 0, Value.int .i64 0, Value.int .i64 0, Value.int .i64 0, Value.int .i64 0, Value.int .i64 0, Value.int .i64 0, Value.int .i64 0, Value.int .i64 0, Value.int .i64 0, Value.int .i64 0] 74)).setRow w3.heap.size V) w3.heap.size npL (cntQ (q0X 0 r)) := by
    have := setRow_heap _ w3.heap.size _ V _ _ HG4.out
    unfold LpB
    rw [q0X_zero, cntQ_start, HVE.out]; exact this
  have hB5 : Below w3.heap.size w3 ((w3.alloc (.cells #[Value.int .i64 0, Value.int .i64 0, Value.int .i64 0, Value.int .i64 0, Value.int .i64 0, Value.int .i64 0, Value.int .i64 0, Value.int .i64 0, Value.int .i64 0, Value.int .i64 0, Value.int .i64 0, Value.int .i64 0, Value.int .i64 0, Value.int .i64 0, Value.int .i64 0, Value.int .i64 0, Value.int .i64 0, Value.int .i64 0, Value.int .i64 0, Value.int .i64 0, Value.int .i64 0, Value.int .i64 0, Value.int .i64 0, Value.int .i64 0, Value.int .i64 0, Value.int .i64 0, Value.int .i64 0, Value.int .i64 0, Value.int .i64 0, Value.int .i64 0, Value.int .i64 0, Value.int .i64 0, Value.int .i64 0, Value.int .i64 0, Value.int .i64 0, Value.int .i64 0, Value.int .i64 0, Value.int .i64 0, Value.int .i64 0, Value.int .i64 0, Value.int .i64 0, Value.int .i64 0, Value.int .i64 0, Value.int .i64 0, Value.int .i64 0, Value.int .i64 0, Value.int .i64 0, Value.int .i64 0, Value.int .i64 0] 74)).setRow w3.heap.size V) := below_setRow HB4.out (Nat.le_refl _) _
  have hU5 : Uf npL (q0X 0 r) := by rw [q0X_zero]; exact Uf.start
  generalize (w3.alloc (.cells #[Value.int .i64 0, Value.int .i64 0, Value.int .i64 0, Value.int .i64 0, Value.int .i64 0, Value.int .i64 0, Value.int .i64 0, Value.int .i64 0, Value.int .i64 0, Value.int .i64 0, Value.int .i64 0, Value.int .i64 0, Value.int .i64 0, Value.int .i64 0, Value.int .i64 0, Value.int .i64 0, Value.int .i64 0, Value.int .i64 0, Value.int .i64 0, Value.int .i64 0, Value.int .i64 0, Value.int .i64 0, Value.int .i64 0, Value.int .i64 0, Value.int .i64 0, Value.int .i64 0, Value.int .i64 0, Value.int .i64 0, Value.int .i64 0, Value.int .i64 0, Value.int .i64 0, Value.int .i64 0, Value.int .i64 0, Value.int .i64 0, Value.int .i64 0, Value.int .i64 0, Value.int .i64 0, Value.int .i64 0, Value.int .i64 0, Value.int .i64 0, Value.int .i64 0, Value.int .i64 0, Value.int .i64 0, Value.int .i64 0, Value.int .i64 0, Value.int .i64 0, Value.int .i64 0, Value.int .i64 0, Value.int .i64 0] 74)).setRow w3.heap.size V = w5 at *
  have hgs : w2.heap.size ≤ w3.heap.size := B3.out.size
  have HP5 := Lib.hid hP5; have HU5 := Lib.hid hU5
  have HB5 : Hid (∀ wx, Below w3.heap.size w5 wx → Below w2.heap.size w2 wx) := Lib.hid fun wx hx => B3.out.trans ((hB5.trans hx).mono hgs)
  clear hP5 hB5 hU5 HG4 HB4 HN49 HON HVE HNP
  have HGS := Lib.hid hgs
  clear hgs
  generalize w3.heap.size = g at *
  obtain ⟨y0, y1, y2⟩ := three_cells (HKB.out _ (HB5.out _ (Below.refl _ _)))
  go_wp2
  clear y0 y1 y2
  go_loopw [14] (fun i wr => ∃ k : Nat, k ≤ N.l.length ∧ i = .int .i64 k ∧ LpS w5 g (q0X k r) wr) (fun i _ => N.l.length - (intOf i).toNat)
  case atStart => exact ⟨0, Nat.zero_le _, rfl, _, HP5.out, HU5.out, Below.refl _ _⟩
  case round =>
    obtain ⟨k, hk, rfl, T, hP, hU, hB⟩ := hrel
    by_cases hlt : k < N.l.length
    · by_cases hkr : k = r
      · have d1 : ((k : Int) != (r : Int)) = false := by simp [hkr]
        have HS : Hid (LpS w5 g (q0X (k + 1) r) wr) := Lib.hid (by rw [hkr, q0X_skip]; rw [hkr] at hP hU; exact ⟨T, hP, hU, hB⟩)
        clear hP hU hB hkr
        go_wp2
        go_roundw
        case rel => exact ⟨k + 1, by omega, by go_num, HS.out⟩
        case measure => simp [intOf]; omega
      · have d1 : ((k : Int) != (r : Int)) = true := by simp; omega
        have hcc := cntQ_le (q0X k r)
        have HA := Lib.hid (addQ_any g T (cntQ (q0X k r)) k wr hP hU.len (by omega) hcc)
        have HS : Hid (∀ w', LpB w' g (T.set k (k : Int)) (cntQ (q0X k r) + 1) → KeptS (fun k => k = g) wr w' → LpS w5 g (q0X (k + 1) r) w') := Lib.hid fun w' h1 h2 => by
          rw [q0X_add hkr]
          exact LpS.add hB hU (by omega) q0X_out h1 h2 hP.lt
        clear hP hU hB hkr hcc
        go_wp2_with (fail)
        refine HA.out.mono ?_
        rintro e wa ⟨rfl, h1, h2⟩
        have HS2 := Lib.hid (HS.out wa h1 h2)
        clear h1 h2
        go_wp2
        go_roundw
        case rel => exact ⟨k + 1, by omega, by go_num, HS2.out⟩
        case measure => simp [intOf]; omega
    · have hkl : k = N.l.length := by omega
      subst hkl
      rw [← HQ0.out] at hP hU
      have HPk := Lib.hid hP; have HUk := Lib.hid hU
      have HBk := Lib.hid hB
      have hglt := hP.lt
      have HAR := Lib.hid (arcsOf_any h N wr HVV.out (HR.out _ (HB5.out _ hB)))
      obtain ⟨y0, y1, y2⟩ := three_cells (HKB.out _ (HB5.out _ hB))
      clear hP hU hB HP5 HU5
      go_wp2_with (fail)
      refine HAR.out.mono ?_
      rintro e w7 ⟨A7, c7, rfl, own7, bel7⟩
      have HP7 : Hid (LpB w7 g T (cntQ (qA N r 0))) := Lib.hid (HPk.out.below bel7)
      have HB7 : Hid (Below g w5 w7) := Lib.hid (HBk.out.trans (bel7.mono (by omega)))
      have RA := Lib.hid (RdA.of_own own7)
      have O7 := Lib.hid own7
      have hs7 := bel7.size
      clear own7 bel7 y0 y1 y2 HAR
      go_wp2
      go_loopw [27] (fun i wx => ∃ j : Nat, j ≤ (arcsU N N.w.length).length ∧ i = .int .i64 j ∧ ∃ T, LpB wx g T (cntQ (qA N r j)) ∧ Uf T (qA N r j) ∧ KeptS (fun k => k = g) w7 wx) (fun i _ => (arcsU N N.w.length).length - (intOf i).toNat)
      case atStart => exact ⟨0, Nat.zero_le _, rfl, T, HP7.out, HUk.out, KeptS.refl _ _⟩
      case round =>
        rename World => wy
        obtain ⟨j, hj, rfl, T2, hP, hU, hK⟩ := hrel
        by_cases hlt : j < (arcsU N N.w.length).length
        · obtain ⟨b, off, hAe, hbb, hcells⟩ := RA.out.at (by omega)
          have hbg : b ≠ g := by
            obtain ⟨gb, cap, hv, hlo, hhi⟩ := O7.out.form (by omega)
            rw [hAe] at hv
            injection hv with e1 e2 e3
            injection e1 with e1
            have : b = gb := by injection e1
            omega
          have hc : ∀ o, wy.cell? ⟨b, o, none⟩ = w7.cell? ⟨b, o, none⟩ := fun o => by unfold World.cell?; rw [hK.block b hbb hbg]
          obtain ⟨x0, x1, x2⟩ := hcells j hlt
          rw [← hc] at x0 x1 x2
          have hin := HAI.out j hlt
          have HSU := Lib.hid (HQS.out j hlt)
          have HGE := Lib.hid (HQG.out j (by omega))
          subst hAe
          obtain ⟨⟨aw, af, a3⟩, hl'⟩ : ∃ a, (arcsU N N.w.length).getD j Ac.nil = a := ⟨_, rfl⟩
          rw [hl'] at x0 x1 x2 hin HSU
          dsimp only at x0 x1 x2 hin
          obtain ⟨_, hf2, ef⟩ := inW_yes hin.1
          obtain ⟨_, ht2, et⟩ := inW_yes hin.2.1
          obtain ⟨u1, hu1⟩ : ∃ u1, u1 = wy.alloc (.cells #[.int .i64 aw, .int .i64 af, .int .i64 a3] 100) := ⟨_, rfl⟩
          have bu : Below wy.heap.size wy u1 := by rw [hu1]; exact (Below.refl _ _).alloc (Nat.le_refl _) _
          have gu : u1.heap[wy.heap.size]? = some (.cells #[.int .i64 aw, .int .i64 af, .int .i64 a3] 100 (0, 0)) := by rw [hu1]; exact heap_alloc_new _ _
          obtain ⟨z0, z1, z2⟩ := three_cells gu
          have HPu := Lib.hid (hP.below bu)
          have HKu : Hid (KeptS (fun k => k = g) w7 u1) := Lib.hid (hK.trans (KeptS.of_below bu))
          have HUU := Lib.hid hU
          have HST : Hid (qA N r (j + 1) = if af = (r : Int) ∨ a3 = (r : Int) then qA N r j else uniQ (qA N r j) af.toNat a3.toNat) := Lib.hid HSU.out
          generalize hfn : af.toNat = fn at *
          generalize htn : a3.toNat = tn at *
          subst ef; subst et
          have HU1 := Lib.hid hu1
          clear hcells hc hin hl' HSU bu gu hP hU hK hfn htn hbg
          by_cases hfr : fn = r
          · have d1 : ((fn : Int) != (r : Int)) = false := by simp [hfr]
            have HE : Hid (qA N r (j + 1) = qA N r j) := Lib.hid (by rw [HST.out, if_pos (.inl (by omega))])
            clear hfr
            go_upto_region 12 with (fail)
            rw [← HU1.out]
            clear hu1
            go_wp2
            go_roundw
            case rel => exact ⟨j + 1, by omega, by go_num, T2, by rw [HE.out]; exact HPu.out, by rw [HE.out]; exact HUU.out, HKu.out⟩
            case measure => simp [intOf]; omega
          · have d1 : ((fn : Int) != (r : Int)) = true := by simp; omega
            by_cases htr : tn = r
            · have d2 : ((tn : Int) != (r : Int)) = false := by simp [htr]
              have HE : Hid (qA N r (j + 1) = qA N r j) := Lib.hid (by rw [HST.out, if_pos (.inr (by omega))])
              clear hfr htr
              go_upto_region 12 with (fail)
              rw [← HU1.out]
              clear hu1
              go_wp2
              go_roundw
              case rel => exact ⟨j + 1, by omega, by go_num, T2, by rw [HE.out]; exact HPu.out, by rw [HE.out]; exact HUU.out, HKu.out⟩
              case measure => simp [intOf]; omega
            · have d2 : ((tn : Int) != (r : Int)) = true := by simp; omega
              have HE : Hid (qA N r (j + 1) = uniQ (qA N r j) fn tn) := Lib.hid (by rw [HST.out, if_neg (by omega)])
              have HUN := Lib.hid (uniteQ_any g T2 (qA N r j) fn tn u1 HPu.out HUU.out (by omega) (by omega) ((HGE.out fn).1.2 ⟨hf2, hfr⟩) ((HGE.out tn).1.2 ⟨ht2, htr⟩))
              clear hfr htr
              go_upto_region 12 with (fail)
              rw [← HU1.out]
              clear hu1
              go_wp2_with (fail)
              refine HUN.out.mono ?_
              rintro e u2 ⟨rfl, T3, hP3, hU3, hK3⟩
              have HP3 := Lib.hid hP3; have HU3 := Lib.hid hU3; have HK3 := Lib.hid (HKu.out.trans hK3)
              clear hP3 hU3 hK3
              go_wp2
              go_roundw
              case rel => exact ⟨j + 1, by omega, by go_num, T3, by rw [HE.out]; exact HP3.out, by rw [HE.out]; exact HU3.out, HK3.out⟩
              case measure => simp [intOf]; omega
        · have hjl : j = (arcsU N N.w.length).length := by omega
          subst hjl
          rw [HQE.out] at hP hU
          have hT2 := hU.len
          have HBy : Hid (Below w2.heap.size w2 wy) := Lib.hid (HB5.out _ (HB7.out.trans ⟨hK.os, hK.tape, hK.output, hK.size, fun k hk => hK.block k (by omega) (by omega)⟩))
          have H1 := Lib.hid (HKG.out _ HBy.out)
          have H2 : Hid (wy.heap[g]? = some (.cells (npA T2 (cntQ (gpX N r))) 74 (0, 0))) := Lib.hid hP
          have HSZ2 := Lib.hid (npA_size (c := cntQ (gpX N r)) hT2)
          have HON := Lib.hid (one_np T2 (cntQ (gpX N r)))
          have HUE := Lib.hid hU
          clear hP hU hK hT2
          obtain ⟨V2, hV2⟩ : ∃ V, npA T2 (cntQ (gpX N r)) = V := ⟨_, rfl⟩
          have HV2 := Lib.hid hV2
          rw [hV2] at H2 HSZ2 HON
          clear hV2
          have HWS := Lib.hid HS2.out
          go_wp2_with (first
            | (refine wpList_load_row rfl _ _ rfl g rfl _ _ _ _ H2.out Tryd.underlying74 rfl (by rw [HSZ2.out]; exact size_np) ?_)
            | (refine wpList_store_row rfl _ _ _ rfl (w.heap.size + 1) _ rfl rfl _ _ H1.out (by rw [HSZ2.out]; exact size_np) (by rw [HSZ2.out]; rfl) HON.out ?_))
          have hg3 := setRow_heap wy (w.heap.size + 1) _ V2 _ _ H1.out
          have hb3 : Below w.heap.size w (wy.setRow (w.heap.size + 1) V2) := below_setRow (HB2.out.trans (HBy.out.mono HB2.out.size)) (by omega) _
          have HG3 := Lib.hid hg3; have HB3 := Lib.hid hb3
          clear hg3 hb3
          generalize wy.setRow (w.heap.size + 1) V2 = w8 at *
          go_wp2
          (try simp only [Exit.inBlock, Exit.then])
          refine bodyPost_ret (results_cell_row rfl _ _ (w.heap.size + 1) _ _ (0, 0) _ rfl HG3.out Tryd.underlying74 rfl (by rw [HSZ2.out]; exact size_np)) rfl ?_
          exact ⟨T2, by rw [HV2.out], HUE.out, HB3.out⟩
end Go.Proofs.YtgpocnapkflihaaDoor
