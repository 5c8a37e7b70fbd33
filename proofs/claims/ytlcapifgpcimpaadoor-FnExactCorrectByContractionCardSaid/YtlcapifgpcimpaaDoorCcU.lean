/- The model's l12Parallel. -/
import Derived.Test.YtlcapifgpcimpaaDoorCcT
import Derived.Deep.RegionHeldLaw
import Derived.Deep.DeepCutAuto
import Derived.BigQuiet
import Derived.BigRegion
namespace Go.Proofs.YtlcapifgpcimpaaDoor
set_option linter.unusedSimpArgs false
set_option linter.unusedVariables false
open Go.ChangeAt Go.ChangeShapes Go.RowKit Go.WideShapes

theorem lohi_eq (a b c d : Int) : (loE ⟨c, d, 0⟩ = loE ⟨a, b, 0⟩ ∧ hiE ⟨c, d, 0⟩ = hiE ⟨a, b, 0⟩) ↔ ((a = c ∧ b = d) ∨ (a = d ∧ b = c)) := by
  show (min c d = min a b ∧ max c d = max a b) ↔ _
  omega
theorem prB_at {es : List Ed} {p : Int} {i j : Nat} (h : mtL es p es.length = [(i : Int), (j : Int)]) (hp : 0 ≤ p) : prB es p = (decide ((es.getD i Ed.nil).a ≠ (es.getD i Ed.nil).b) && decide (((es.getD i Ed.nil).a = (es.getD j Ed.nil).a ∧ (es.getD i Ed.nil).b = (es.getD j Ed.nil).b) ∨ ((es.getD i Ed.nil).a = (es.getD j Ed.nil).b ∧ (es.getD i Ed.nil).b = (es.getD j Ed.nil).a))) := by
  unfold prB
  rw [h, decide_eq_true hp, Bool.true_and]
  have e0 : ([(i : Int), (j : Int)].getD 0 0).toNat = i := by simp
  have e1 : ([(i : Int), (j : Int)].getD 1 0).toNat = j := by simp
  rw [e0, e1, show decide ([(i : Int), (j : Int)].length = 2) = true from rfl, Bool.true_and]
  congr 1
  exact decide_eq_decide.2 (lohi_eq _ _ _ _)
set_option maxRecDepth 100000 in
set_option maxHeartbeats 1000000 in
theorem sPar_any (h : GH) (G : Gr) (p : Int) (w : World) (r : RdG w w.heap.size h G) (hl : G.e.length ≤ 1048576) :
    Calls Tryd.prog 101 #[.agg #[.int .i64 G.n, .slice h.A G.e.length h.c], .int .i64 p] w fun e w' => e = .returned (.bool (prB G.e p)) ∧ Below w.heap.size w w' := by
  obtain ⟨A, c⟩ := h
  obtain ⟨nd, es⟩ := G
  have r1 : RdE w w.heap.size A es.length es := r
  dsimp only at hl ⊢
  obtain ⟨w0, hw0⟩ : ∃ w0, w0 = w.alloc (.cells #[.int .i64 nd, .slice A es.length c] 30) := ⟨_, rfl⟩
  obtain ⟨hb, hh, hsz⟩ := box2E w (.int .i64 nd) (.slice A es.length c) 30
  rw [← hw0] at hb hh hsz
  have hs0 : w.heap.size + 1 ≤ w0.heap.size := by omega
  have HK : Hid (∀ w', Below w0.heap.size w0 w' → w'.cell? ⟨w.heap.size, 0, none⟩ = some (.int .i64 nd) ∧ w'.cell? ⟨w.heap.size, 1, none⟩ = some (.slice A es.length c)) := Lib.hid fun w' hw => twE_cells ((hw.block _ (by omega)).trans hh)
  have HR := Lib.hid (fun (w' : World) (hw : Below w0.heap.size w0 w') => show RdE w' w'.heap.size A es.length es from ((r1.below (hb.trans (hw.mono hb.size))).more (Nat.le_trans hb.size hw.size)))
  have HM := Lib.hid (sMates_any ⟨A, c⟩ ⟨nd, es⟩ p w0 ((r1.below hb).more hb.size) hl)
  dsimp only at HM
  have HB0 := Lib.hid hb
  have HS0 := Lib.hid hs0
  obtain ⟨y0, y1⟩ := twE_cells hh
  clear hb hh hsz r r1 hs0
  by_cases hp : p < 0
  · have d0 : decide (p < 0) = true := decide_eq_true hp
    have HE : Hid (false = prB es p) := Lib.hid (prB_neg hp).symm
    clear hp
    go_enter Tryd.func101, Tryd.ntmps101
    go_wp2_with (fail)
    rw [← hw0]
    clear hw0
    refine HM.out.mono ?_
    rintro e w1 ⟨A1, c1, rfl, own1, bel1⟩
    have HBB := Lib.hid (HB0.out.trans (bel1.mono HB0.out.size))
    clear own1 bel1 y0 y1
    go_wp2
    go_ret
    exact ⟨ret_bool HE.out, HBB.out⟩
  have d0 : decide (p < 0) = false := decide_eq_false hp
  by_cases hlen : (mtL es p es.length).length = 2
  · have hx : ∃ x y, mtL es p es.length = [x, y] := by
      match h : mtL es p es.length, hlen with
      | [x, y], _ => exact ⟨x, y, rfl⟩
    obtain ⟨x, y, hxy⟩ := hx
    obtain ⟨i, rfl, hi, hip⟩ := mt_nat (x := x) (by rw [hxy]; simp)
    obtain ⟨j, rfl, hj, hjp⟩ := mt_nat (x := y) (by rw [hxy]; simp)
    have HE := Lib.hid (prB_at hxy (by omega))
    rw [hxy] at HM
    have hii : (i : Int) < (es.length : Int) := by omega
    have hjj : (j : Int) < (es.length : Int) := by omega
    obtain ⟨ba, oa, rfl, hba, hca⟩ := (HR.out _ (Below.refl _ _)).at (show 0 < es.length by omega)
    have HCI := Lib.hid (fun (wx : World) (hx : Below w0.heap.size w0 wx) => And.intro (And.intro ((hx.cell (p := ⟨ba, oa + i * 3, none⟩) hba).trans (hca i hi).1) (And.intro ((hx.cell (p := ⟨ba, oa + i * 3 + 1, none⟩) hba).trans (hca i hi).2.1) ((hx.cell (p := ⟨ba, oa + i * 3 + 2, none⟩) hba).trans (hca i hi).2.2))) (And.intro ((hx.cell (p := ⟨ba, oa + j * 3, none⟩) hba).trans (hca j hj).1) (And.intro ((hx.cell (p := ⟨ba, oa + j * 3 + 1, none⟩) hba).trans (hca j hj).2.1) ((hx.cell (p := ⟨ba, oa + j * 3 + 2, none⟩) hba).trans (hca j hj).2.2))))
    obtain ⟨⟨xa, xb, xp⟩, hex⟩ : ∃ e, es.getD i Ed.nil = e := ⟨_, rfl⟩
    obtain ⟨⟨ya, yb, yp⟩, hey⟩ : ∃ e, es.getD j Ed.nil = e := ⟨_, rfl⟩
    rw [hex, hey] at HCI HE
    dsimp only at HCI HE
    rw [HE.out]
    clear hex hey HE hxy hlen hip hjp hp hca hba
    have hn2 : ((2 : Int) != 2) = false := rfl
    go_enter Tryd.func101, Tryd.ntmps101
    go_wp2_with (fail)
    rw [← hw0]
    clear hw0
    refine HM.out.mono ?_
    rintro e w1 ⟨A1, c1, rfl, own1, bel1⟩
    have B1 := Lib.hid bel1
    have hr1 := RdI.of_own own1
    obtain ⟨b1, o1, rfl, hb1, hc1⟩ := hr1.2 (by simp)
    have s0 := hc1 0 (by simp)
    have s1 := hc1 1 (by simp)
    rw [Nat.add_zero] at s0
    simp only [List.getD, List.getElem?_cons_zero, List.getElem?_cons_succ, Option.getD_some] at s0 s1
    have HC2 := Lib.hid (fun (wx : World) (hx : Below w1.heap.size w1 wx) => And.intro ((hx.cell (p := ⟨b1, o1, none⟩) hb1).trans s0) ((hx.cell (p := ⟨b1, o1 + 1, none⟩) hb1).trans s1))
    clear y0 y1 s0 s1 hr1 hc1 hb1 own1 bel1
    have HF : Hid (∀ wx, Below w1.heap.size w1 wx → (wx.cell? ⟨w.heap.size, 1, none⟩ = some (.slice (some ⟨ba, oa, none⟩) es.length c)) ∧ (wx.cell? ⟨b1, o1, none⟩ = some (.int .i64 (i : Nat)) ∧ wx.cell? ⟨b1, o1 + 1, none⟩ = some (.int .i64 (j : Nat))) ∧ (wx.cell? ⟨ba, oa + i * 3, none⟩ = some (.int .i64 xa) ∧ wx.cell? ⟨ba, oa + i * 3 + 1, none⟩ = some (.int .i64 xb) ∧ wx.cell? ⟨ba, oa + i * 3 + 2, none⟩ = some (.int .i64 xp)) ∧ (wx.cell? ⟨ba, oa + j * 3, none⟩ = some (.int .i64 ya) ∧ wx.cell? ⟨ba, oa + j * 3 + 1, none⟩ = some (.int .i64 yb) ∧ wx.cell? ⟨ba, oa + j * 3 + 2, none⟩ = some (.int .i64 yp))) := Lib.hid fun wx hx => by
      have h5 := B1.out.trans (hx.mono B1.out.size)
      exact ⟨(HK.out wx h5).2, HC2.out wx hx, (HCI.out wx h5).1, (HCI.out wx h5).2⟩
    obtain ⟨f0, ⟨f1, f2⟩, ⟨f3, f4, f5⟩, f6, f7, f8⟩ := HF.out w1 (Below.refl _ _)
    have ba1 : ∀ o : Obj, Below w1.heap.size w1 (w1.alloc o) := fun o => (Below.refl _ _).alloc (Nat.le_refl _) _
    have ba2 : ∀ o o2 : Obj, Below w1.heap.size w1 ((w1.alloc o).alloc o2) := fun o o2 => (ba1 o).alloc (by simp) _
    have g0 := fun o => (HF.out _ (ba1 o)).1
    have k0 := fun o o2 => (HF.out _ (ba2 o o2)).1
    have g1 := fun o => (HF.out _ (ba1 o)).2.1.1
    have k1 := fun o o2 => (HF.out _ (ba2 o o2)).2.1.1
    have g2 := fun o => (HF.out _ (ba1 o)).2.1.2
    have k2 := fun o o2 => (HF.out _ (ba2 o o2)).2.1.2
    have g3 := fun o => (HF.out _ (ba1 o)).2.2.1.1
    have k3 := fun o o2 => (HF.out _ (ba2 o o2)).2.2.1.1
    have g4 := fun o => (HF.out _ (ba1 o)).2.2.1.2.1
    have k4 := fun o o2 => (HF.out _ (ba2 o o2)).2.2.1.2.1
    have g5 := fun o => (HF.out _ (ba1 o)).2.2.1.2.2
    have k5 := fun o o2 => (HF.out _ (ba2 o o2)).2.2.1.2.2
    have g6 := fun o => (HF.out _ (ba1 o)).2.2.2.1
    have k6 := fun o o2 => (HF.out _ (ba2 o o2)).2.2.2.1
    have g7 := fun o => (HF.out _ (ba1 o)).2.2.2.2.1
    have k7 := fun o o2 => (HF.out _ (ba2 o o2)).2.2.2.2.1
    have g8 := fun o => (HF.out _ (ba1 o)).2.2.2.2.2
    have k8 := fun o o2 => (HF.out _ (ba2 o o2)).2.2.2.2.2
    clear ba1 ba2
    have HBB := Lib.hid (HB0.out.trans (B1.out.mono HB0.out.size))
    go_upto_region 4 with (fail)
    go_cut [6, 7] (fun v6 v7 wx => ∃ b6 b7, v6 = .pointer (some ⟨b6, 0, none⟩) ∧ v7 = .pointer (some ⟨b7, 0, none⟩) ∧ wx.heap[b6]? = some (.cells #[.int .i64 xa, .int .i64 xb, .int .i64 xp] 52 (0, 0)) ∧ wx.heap[b7]? = some (.cells #[.int .i64 ya, .int .i64 yb, .int .i64 yp] 52 (0, 0)) ∧ Below w1.heap.size w1 wx)
    case first =>
      go_region
      all_goals (try go_wp2_with (fail))
      all_goals go_meet
      · exact ⟨w1.heap.size, w1.heap.size + 1, rfl, rfl, (two_anyC w1 _ _).2.1, (two_anyC w1 _ _).2.2.1, (two_anyC w1 _ _).1.drew⟩
      · exact ⟨w1.heap.size + 1, w1.heap.size, rfl, rfl, (two_anyC w1 _ _).2.2.1, (two_anyC w1 _ _).2.1, (two_anyC w1 _ _).1.drew⟩
    case rest =>
      obtain ⟨b6, b7, rfl, rfl, h6, h7, hbl⟩ := hcut
      have HG := Lib.hid (HBB.out.trans (hbl.mono HBB.out.size))
      obtain ⟨x0, x1, x2⟩ := th_cells h6
      obtain ⟨z0, z1, z2⟩ := th_cells h7
      obtain ⟨q1, h1⟩ : ∃ q, (xa != xb) = q := ⟨_, rfl⟩
      obtain ⟨q2, h2⟩ : ∃ q, (xa == ya) = q := ⟨_, rfl⟩
      obtain ⟨q3, h3⟩ : ∃ q, (xb == yb) = q := ⟨_, rfl⟩
      obtain ⟨q4, h4⟩ : ∃ q, (xa == yb) = q := ⟨_, rfl⟩
      obtain ⟨q5, h5⟩ : ∃ q, (xb == ya) = q := ⟨_, rfl⟩
      have HE : Hid ((q1 && ((q2 && q3) || (q4 && q5))) = (decide (xa ≠ xb) && decide ((xa = ya ∧ xb = yb) ∨ (xa = yb ∧ xb = ya)))) := Lib.hid (by
        rw [← h1, ← h2, ← h3, ← h4, ← h5, Bool.eq_iff_iff]
        simp)
      clear h6 h7 hbl f0 f1 f2 f3 f4 f5 f6 f7 f8 g0 g1 g2 g3 g4 g5 g6 g7 g8 k0 k1 k2 k3 k4 k5 k6 k7 k8
      cases q1 <;> cases q2 <;> cases q3 <;> cases q4 <;> cases q5
      all_goals go_wp2
      all_goals go_ret
      all_goals exact ⟨ret_bool HE.out, HG.out⟩
  · have HE : Hid (false = prB es p) := Lib.hid (prB_len hlen).symm
    have dn : (((mtL es p es.length).length : Int) != 2) = true := by simp <;> omega
    clear hp hlen
    go_enter Tryd.func101, Tryd.ntmps101
    go_wp2_with (fail)
    rw [← hw0]
    clear hw0
    refine HM.out.mono ?_
    rintro e w1 ⟨A1, c1, rfl, own1, bel1⟩
    have HBB := Lib.hid (HB0.out.trans (bel1.mono HB0.out.size))
    clear own1 bel1 y0 y1
    go_wp2
    go_ret
    exact ⟨ret_bool HE.out, HBB.out⟩
end Go.Proofs.YtlcapifgpcimpaaDoor
