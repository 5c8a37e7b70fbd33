/- The model's stepCode, rules of kind 3, fields of way 0. Made by mkcmc.py. The model's conclude at every rule; its stepCode at every rule; its StepResult. Helpers of the model's conclude. The model's conclude at rule 2. Made by mkcme.py. -/
import Derived.Test.YthbkcpacgnmcfaaGreatDoorQCmC0
import Derived.Test.YthbkcpacgnmcfaaGreatDoorQSubA
import Derived.Test.YthbkcpacgnmcfaaGreatDoorCmC1b
import Derived.Test.YthbkcpacgnmcfaaGreatDoorCmC1c
import Derived.Test.YthbkcpacgnmcfaaGreatDoorCmC2
import Derived.Test.YthbkcpacgnmcfaaGreatDoorCmC3b
import Derived.Test.YthbkcpacgnmcfaaGreatDoorCmC3d
import Derived.Test.YthbkcpacgnmcfaaGreatDoorQCmD
namespace Go.Proofs.YthbkcpacgnmcfaaGreatDoor
set_option linter.unusedSimpArgs false
set_option linter.unusedVariables false
section
open Go.ChangeAt Go.ChangeShapes Go.RowKit Go.WideShapes
open List (setIfInBounds_toArray set_cons_zero set_cons_succ getElem_toArray getElem_cons_succ getElem_cons_zero)

set_option linter.unusedSimpArgs false in
set_option maxRecDepth 100000 in
set_option maxHeartbeats 40000000 in
theorem sStepCode_3_0 (r a b i j : Int) (h1 : 1 ≤ r) (h14 : r ≤ 14) (hcls : clsR r = 3) (B : Option Addr) (m d : Nat) (F : List Int) (A : Option Addr) (n c : Nat) (P : List (List Int)) (A2 : Option Addr) (n2 c2 : Nat) (Q : List (List Int)) (w : World) (hf : RdI w w.heap.size B m F) (h : RdQ w w.heap.size A n P) (h2 : RdQ w w.heap.size A2 n2 Q) (hm : m ≤ 1048576) (hnc : n ≤ c) (hnc2 : n2 ≤ c2) (hP : validQ P = true) (hQ : validQ Q = true) (hgrp : grpF (ruF r) (decide (0 < F.length)) (validB F) (ruI r) (i != 0) (ruJ r) (j != 0) = 0) :
    Calls Tryz.prog 53 #[.agg #[.slice A n c], .agg #[.slice A2 n2 c2], Value.agg #[Value.int .i64 r, Value.int .i64 a, Value.int .i64 b, Value.int .i64 i, Value.int .i64 j, Value.slice B m d]] w (GivesC w (cdB r i j F P Q)) := by
  have hl := h.len
  subst hl
  have hl2 := h2.len
  subst hl2
  have hlf := hf.1
  obtain ⟨u, hu0⟩ : ∃ u, u = ((w.alloc (.cells #[Value.slice A P.length c] 64)).alloc (.cells #[Value.slice A2 Q.length c2] 64)).alloc (.cells #[Value.int .i64 r, Value.int .i64 a, Value.int .i64 b, Value.int .i64 i, Value.int .i64 j, Value.slice B m d] 43) := ⟨_, rfl⟩
  obtain ⟨hb, p1, p2, p0, hsz⟩ := three_any w (.cells #[Value.slice A P.length c] 64) (.cells #[Value.slice A2 Q.length c2] 64) (.cells #[Value.int .i64 r, Value.int .i64 a, Value.int .i64 b, Value.int .i64 i, Value.int .i64 j, Value.slice B m d] 43)
  rw [← hu0] at hb p0 p1 p2 hsz
  have HKX : Hid (∀ wx, Below u.heap.size u wx → wx.cell? ⟨w.heap.size, 0, none⟩ = some (.slice A P.length c) ∧ wx.cell? ⟨w.heap.size + 1, 0, none⟩ = some (.slice A2 Q.length c2) ∧ wx.cell? ⟨w.heap.size + 1 + 1, 0, none⟩ = some (.int .i64 r) ∧ wx.cell? ⟨w.heap.size + 1 + 1, 3, none⟩ = some (.int .i64 i) ∧ wx.cell? ⟨w.heap.size + 1 + 1, 4, none⟩ = some (.int .i64 j) ∧ wx.cell? ⟨w.heap.size + 1 + 1, 5, none⟩ = some (.slice B m d)) := Lib.hid fun wx hx => by
    have g : ∀ k o, u.heap[k]? = some o → wx.heap[k]? = some o := fun k o h => (hx.block k (Array.getElem?_eq_some_iff.1 h).1).trans h
    exact ⟨cell_of_row _ _ 0 _ _ (0, 0) (g _ _ p1), cell_of_row _ _ 0 _ _ (0, 0) (g _ _ p2), cell_of_row _ _ 0 _ _ (0, 0) (g _ _ p0), cell_of_row _ _ 3 _ _ (0, 0) (g _ _ p0), cell_of_row _ _ 4 _ _ (0, 0) (g _ _ p0), cell_of_row _ _ 5 _ _ (0, 0) (g _ _ p0)⟩
  have HU0 := Lib.hid hu0; have HBU := Lib.hid hb
  have HPM := fun (wx : World) => premises_any wx r h1 h14
  have HPO := fun (wx : World) => positions_any wx r h1 h14
  have HUF := fun (wx : World) => usesForm_any wx r h1 h14
  have HRP := Lib.hid (fun (wx : World) (hx : Below u.heap.size u wx) => (h.below (hb.trans (hx.mono hb.size))).more (Nat.le_trans hb.size hx.size))
  have HRQ := Lib.hid (fun (wx : World) (hx : Below u.heap.size u wx) => (h2.below (hb.trans (hx.mono hb.size))).more (Nat.le_trans hb.size hx.size))
  have hlP := validQ_len hP
  have hlQ := validQ_len hQ
  have HVP := Lib.hid (fun (wx : World) (hx : Below u.heap.size u wx) => sValidSeq_any A P.length c P wx (HRP.out wx hx) (by omega) hnc)
  have HVQ := Lib.hid (fun (wx : World) (hx : Below u.heap.size u wx) => sValidSeq_any A2 Q.length c2 Q wx (HRQ.out wx hx) (by omega) hnc2)
  rw [hP] at HVP
  rw [hQ] at HVQ
  have HVF := Lib.hid (fun (wx : World) (hx : Below u.heap.size u wx) => sValidForm_any B m d F wx ((hf.below (hb.trans (hx.mono hb.size))).more (Nat.le_trans hb.size hx.size)))
  have HIP := Lib.hid (fun (wx : World) => sIsPos_any A P.length c i wx (by omega))
  have HJP := Lib.hid (fun (wx : World) => sIsPos_any A P.length c j wx (by omega))
  have HJQ := Lib.hid (fun (wx : World) => sIsPos_any A2 Q.length c2 j wx (by omega))
  have HPV := Lib.hid hP; have HQV := Lib.hid hQ
  have HE : Hid (cdB r i j F P Q = ((fitM (ruF r) (decide (0 < F.length)) (validB F) (ruI r) (i != 0) (ruJ r) (j != 0) && posM r i j P.length Q.length) && ctxB r i j P Q)) := Lib.hid (by unfold cdB; rw [fitM_is])
  have HPM2 : Hid (posM r i j P.length Q.length = ((!ruI r || posB i P.length) && (!ruJ r || posB j (if ruP r = 2 then Q.length else P.length)))) := Lib.hid rfl
  have hcl := ru_class r h1 h14
  have hck := cls_3 r h1 h14 hcls
  have hlp : decide ((0 : Int) < (m : Int)) = decide (0 < F.length) := by rw [hlf]; exact decide_eq_decide.2 (by omega)
  generalize ruP r = np at *; generalize ruK r = kp at *; generalize ruI r = x at *; generalize ruJ r = y at *; generalize ruF r = z at *
  have HCK := Lib.hid hck
  clear hck
  generalize decide (0 < F.length) = lp at *
  generalize validB F = vb at *
  obtain ⟨bi, hbi⟩ : ∃ bi, (i != 0) = bi := ⟨_, rfl⟩
  obtain ⟨bj, hbj⟩ : ∃ bj, (j != 0) = bj := ⟨_, rfl⟩
  rw [hbi, hbj] at HE hgrp
  obtain ⟨ft, hft⟩ : ∃ ft, fitM z lp vb x bi y bj = ft := ⟨_, rfl⟩
  rw [hft] at HE
  have HFT := Lib.hid hft
  have HNO : Hid (ft = false) := Lib.hid (by rw [← hft]; exact grp_no _ _ _ _ _ _ _ (by rcases hcl with ⟨-, -, rfl, rfl⟩ | ⟨-, -, rfl, rfl⟩ | ⟨-, -, rfl, rfl⟩ | ⟨-, -, rfl, rfl⟩ | ⟨-, -, rfl, rfl⟩ <;> simp) (by rw [hgrp]; decide))
  obtain ⟨e1, e2, e0, ei, ej, ef⟩ := HKX.out u (Below.refl _ _)
  clear hu0 hb p0 p1 p2 hsz h h2 hf hft hP hQ
  go_enter Tryz.func53, Tryz.ntmps53
  go_upto_region 1 with (fail)
  rw [← HU0.out]
  go_wp2_with (fail)
  refine (HPM u).mono ?_
  rintro e w0 ⟨rfl, rfl⟩
  have hnp0 : decide (np < 0) = false := decide_eq_false (by omega)
  go_upto_region 4 with (fail)
  go_cut [31] (fun t wx => t = .bool false ∧ Below u.heap.size u wx)
  case first =>
    have hnp : np = 0 ∨ np = 1 ∨ np = 2 := by rcases hcl with h | h | h | h | h <;> simp [h.1]
    clear hcl hgrp hlp hbi hbj hnp0 HE HPM2 HFT
    rcases hnp with rfl | rfl | rfl
    · go_wp2_with (fail)
      go_meet
      exact ⟨rfl, Below.refl _ _⟩
    · go_wp2_with (fail)
      refine (HVP.out u (Below.refl _ _)).mono ?_
      rintro e w1 ⟨rfl, b1⟩
      have HB1 := Lib.hid b1
      clear b1
      go_wp2_with (fail)
      go_meet
      exact ⟨rfl, HB1.out⟩
    · go_wp2_with (fail)
      refine (HVP.out u (Below.refl _ _)).mono ?_
      rintro e w1 ⟨rfl, b1⟩
      have HB1 := Lib.hid b1
      clear b1 e1 e2 e0 ei ej ef
      obtain ⟨e1, e2, e0, ei, ej, ef⟩ := HKX.out w1 HB1.out
      go_wp2_with (fail)
      refine (HVQ.out w1 HB1.out).mono ?_
      rintro e w2 ⟨rfl, b2⟩
      have HB2 := Lib.hid (HB1.out.trans (b2.mono HB1.out.size))
      clear b2
      go_wp2_with (fail)
      go_meet
      exact ⟨rfl, HB2.out⟩
  case rest =>
    obtain ⟨rfl, hcb⟩ := hcut
    rename World => w2
    have HB2 := Lib.hid hcb
    clear hcb hnp0 e1 e2 e0 ei ej ef
    obtain ⟨e1, e2, e0, ei, ej, ef⟩ := HKX.out w2 HB2.out
    go_wp2_with (fail)
    refine (HPO w2).mono ?_
    rintro e w0 ⟨rfl, rfl⟩
    go_upto_region 7 with (fail)
    go_cut [72] (fun t wx => t = .bool (!ft) ∧ Below u.heap.size u wx)
    case first =>
      have hxyc : (x = false ∧ y = false ∧ kp = 0 ∧ bi = true) ∨ (x = false ∧ y = false ∧ kp = 0 ∧ bi = false ∧ bj = true) ∨ (x = false ∧ y = false ∧ kp = 0 ∧ bi = false ∧ bj = false) ∨ (x = true ∧ y = false ∧ kp = 1 ∧ bj = true) ∨ (x = true ∧ y = false ∧ kp = 1 ∧ bj = false) ∨ (x = true ∧ y = true ∧ kp = 2) := by
        rcases hcl with ⟨-, rfl, rfl, rfl⟩ | ⟨-, rfl, rfl, rfl⟩ | ⟨-, rfl, rfl, rfl⟩ | ⟨-, rfl, rfl, rfl⟩ | ⟨-, rfl, rfl, rfl⟩ <;> cases bi <;> cases bj <;> simp
      have hmT : lp = true → 0 < m := fun e => by rw [e] at hlp; have := of_decide_eq_true hlp; omega
      have hmF : lp = false → m = 0 := fun e => by rw [e] at hlp; have := of_decide_eq_false hlp; omega
      clear hlp hlf hcl HE HPM2 HVP HVQ HIP HJP HJQ HRP HRQ HPM HPO
      have hfc := fit_cases z lp vb
      have hz : z = false := HCK.out.1
      rcases hfc with ⟨rfl, rfl⟩ | ⟨rfl, rfl⟩ | ⟨rfl, rfl, rfl⟩ | h4
      · cases hz
      · have hm0 := hmT rfl
        have hm1 : ¬ m = 0 := by omega
        clear hmT hmF
        have hE : ft = false := by rw [← HFT.out]; rfl
        subst hE
        clear HFT
        clear hgrp
        have FB_0 := Lib.hid (Below.refl w2.heap.size w2)
        go_upto_region 7 with (fail)
        refine wp_region_held_drew (S := fun wx => wx.cell? ⟨w.heap.size, 0, none⟩ = some (.slice A P.length c) ∧ wx.cell? ⟨w.heap.size + 1, 0, none⟩ = some (.slice A2 Q.length c2) ∧ wx.cell? ⟨w.heap.size + 1 + 1, 0, none⟩ = some (.int .i64 r) ∧ wx.cell? ⟨w.heap.size + 1 + 1, 3, none⟩ = some (.int .i64 i) ∧ wx.cell? ⟨w.heap.size + 1 + 1, 4, none⟩ = some (.int .i64 j) ∧ wx.cell? ⟨w.heap.size + 1 + 1, 5, none⟩ = some (.slice B m d)) (by kernel_rfl) ⟨e1, e2, e0, ei, ej, ef⟩ (fun hHeld => ?_)
        obtain ⟨wqmx1, hwqmx1⟩ : ∃ w', w' = w2.drew := ⟨_, rfl⟩
        rw [← hwqmx1] at hHeld ⊢
        have bqmx1 : Below w2.heap.size w2 wqmx1 := by rw [hwqmx1]; exact (Below.refl _ _).drew
        clear hwqmx1
        have FB_qmx2 := Lib.hid ((FB_0.out).trans ((bqmx1).mono (FB_0.out).size))
        clear FB_0
        refine tk (i := 0) (h := ?_)
        (try simp only [Act.put, setIfInBounds_toArray, set_cons_zero, set_cons_succ, getElem_toArray, getElem_cons_succ, getElem_cons_zero])
        refine tk (i := 3) (h := ?_)
        (try simp only [Act.put, setIfInBounds_toArray, set_cons_zero, set_cons_succ, getElem_toArray, getElem_cons_succ, getElem_cons_zero])
        refine tk (i := 1) (h := ?_)
        (try simp only [Act.put, setIfInBounds_toArray, set_cons_zero, set_cons_succ, getElem_toArray, getElem_cons_succ, getElem_cons_zero])
        refine tk (i := 4) (h := ?_)
        (try simp only [Act.put, setIfInBounds_toArray, set_cons_zero, set_cons_succ, getElem_toArray, getElem_cons_succ, getElem_cons_zero])
        refine tk (i := 5) (h := ?_)
        (try simp only [Act.put, setIfInBounds_toArray, set_cons_zero, set_cons_succ, getElem_toArray, getElem_cons_succ, getElem_cons_zero])
        refine tk (i := 6) (h := ?_)
        (try simp only [Act.put, setIfInBounds_toArray, set_cons_zero, set_cons_succ, getElem_toArray, getElem_cons_succ, getElem_cons_zero])
        refine t1 (i := 2) (h := fun K hK => ?_)
        go_simp
        refine (HUF wqmx1).mono ?_
        rintro e wqmx9 ⟨rfl, rfl⟩
        dsimp only
        refine hK.out _ _ (hHeld) (fun hHeld => ?_)
        clear hK K
        (try simp only [Act.put, setIfInBounds_toArray, set_cons_zero, set_cons_succ, getElem_toArray, getElem_cons_succ, getElem_cons_zero])
        refine tk (i := 7) (h := ?_)
        (try simp only [Act.put, setIfInBounds_toArray, set_cons_zero, set_cons_succ, getElem_toArray, getElem_cons_succ, getElem_cons_zero])
        refine tk (i := 8) (h := ?_)
        (try simp only [Act.put, setIfInBounds_toArray, set_cons_zero, set_cons_succ, getElem_toArray, getElem_cons_succ, getElem_cons_zero])
        refine tn (i := 9) (h := ?_)
        (try simp only [Act.put, setIfInBounds_toArray, set_cons_zero, set_cons_succ, getElem_toArray, getElem_cons_succ, getElem_cons_zero])
        refine tn (i := 10) (h := ?_)
        (try simp only [Act.put, setIfInBounds_toArray, set_cons_zero, set_cons_succ, getElem_toArray, getElem_cons_succ, getElem_cons_zero])
        refine tn (i := 11) (h := ?_)
        (try simp only [Act.put, setIfInBounds_toArray, set_cons_zero, set_cons_succ, getElem_toArray, getElem_cons_succ, getElem_cons_zero])
        refine tn (i := 12) (h := ?_)
        (try simp only [Act.put, setIfInBounds_toArray, set_cons_zero, set_cons_succ, getElem_toArray, getElem_cons_succ, getElem_cons_zero])
        refine tn (i := 13) (h := ?_)
        (try simp only [Act.put, setIfInBounds_toArray, set_cons_zero, set_cons_succ, getElem_toArray, getElem_cons_succ, getElem_cons_zero])
        refine tn (i := 14) (h := ?_)
        (try simp only [Act.put, setIfInBounds_toArray, set_cons_zero, set_cons_succ, getElem_toArray, getElem_cons_succ, getElem_cons_zero])
        refine tn (i := 15) (h := ?_)
        (try simp only [Act.put, setIfInBounds_toArray, set_cons_zero, set_cons_succ, getElem_toArray, getElem_cons_succ, getElem_cons_zero])
        refine tn (i := 16) (h := ?_)
        (try simp only [Act.put, setIfInBounds_toArray, set_cons_zero, set_cons_succ, getElem_toArray, getElem_cons_succ, getElem_cons_zero])
        refine tn (i := 17) (h := ?_)
        (try simp only [Act.put, setIfInBounds_toArray, set_cons_zero, set_cons_succ, getElem_toArray, getElem_cons_succ, getElem_cons_zero])
        refine tn (i := 18) (h := ?_)
        (try simp only [Act.put, setIfInBounds_toArray, set_cons_zero, set_cons_succ, getElem_toArray, getElem_cons_succ, getElem_cons_zero])
        refine tk (i := 19) (h := ?_)
        (try simp only [Act.put, setIfInBounds_toArray, set_cons_zero, set_cons_succ, getElem_toArray, getElem_cons_succ, getElem_cons_zero])
        refine tk (i := 20) (h := ?_)
        (try simp only [Act.put, setIfInBounds_toArray, set_cons_zero, set_cons_succ, getElem_toArray, getElem_cons_succ, getElem_cons_zero])
        refine tn (i := 21) (h := ?_)
        (try simp only [Act.put, setIfInBounds_toArray, set_cons_zero, set_cons_succ, getElem_toArray, getElem_cons_succ, getElem_cons_zero])
        refine tn (i := 22) (h := ?_)
        (try simp only [Act.put, setIfInBounds_toArray, set_cons_zero, set_cons_succ, getElem_toArray, getElem_cons_succ, getElem_cons_zero])
        refine tn (i := 23) (h := ?_)
        (try simp only [Act.put, setIfInBounds_toArray, set_cons_zero, set_cons_succ, getElem_toArray, getElem_cons_succ, getElem_cons_zero])
        refine tn (i := 24) (h := ?_)
        (try simp only [Act.put, setIfInBounds_toArray, set_cons_zero, set_cons_succ, getElem_toArray, getElem_cons_succ, getElem_cons_zero])
        refine tn (i := 25) (h := ?_)
        (try simp only [Act.put, setIfInBounds_toArray, set_cons_zero, set_cons_succ, getElem_toArray, getElem_cons_succ, getElem_cons_zero])
        refine tn (i := 26) (h := ?_)
        (try simp only [Act.put, setIfInBounds_toArray, set_cons_zero, set_cons_succ, getElem_toArray, getElem_cons_succ, getElem_cons_zero])
        refine tn (i := 27) (h := ?_)
        (try simp only [Act.put, setIfInBounds_toArray, set_cons_zero, set_cons_succ, getElem_toArray, getElem_cons_succ, getElem_cons_zero])
        refine tk (i := 28) (h := ?_)
        (try simp only [Act.put, setIfInBounds_toArray, set_cons_zero, set_cons_succ, getElem_toArray, getElem_cons_succ, getElem_cons_zero])
        refine tk (i := 29) (h := ?_)
        (try simp only [Act.put, setIfInBounds_toArray, set_cons_zero, set_cons_succ, getElem_toArray, getElem_cons_succ, getElem_cons_zero])
        refine tn (i := 30) (h := ?_)
        (try simp only [Act.put, setIfInBounds_toArray, set_cons_zero, set_cons_succ, getElem_toArray, getElem_cons_succ, getElem_cons_zero])
        refine tn (i := 31) (h := ?_)
        (try simp only [Act.put, setIfInBounds_toArray, set_cons_zero, set_cons_succ, getElem_toArray, getElem_cons_succ, getElem_cons_zero])
        refine tn (i := 32) (h := ?_)
        (try simp only [Act.put, setIfInBounds_toArray, set_cons_zero, set_cons_succ, getElem_toArray, getElem_cons_succ, getElem_cons_zero])
        refine tn (i := 33) (h := ?_)
        (try simp only [Act.put, setIfInBounds_toArray, set_cons_zero, set_cons_succ, getElem_toArray, getElem_cons_succ, getElem_cons_zero])
        refine tn (i := 34) (h := ?_)
        (try simp only [Act.put, setIfInBounds_toArray, set_cons_zero, set_cons_succ, getElem_toArray, getElem_cons_succ, getElem_cons_zero])
        refine tn (i := 35) (h := ?_)
        (try simp only [Act.put, setIfInBounds_toArray, set_cons_zero, set_cons_succ, getElem_toArray, getElem_cons_succ, getElem_cons_zero])
        refine tn (i := 36) (h := ?_)
        (try simp only [Act.put, setIfInBounds_toArray, set_cons_zero, set_cons_succ, getElem_toArray, getElem_cons_succ, getElem_cons_zero])
        refine tk (i := 37) (h := ?_)
        (try simp only [Act.put, setIfInBounds_toArray, set_cons_zero, set_cons_succ, getElem_toArray, getElem_cons_succ, getElem_cons_zero])
        refine wpAnyH_done (by kernel_rfl) ?_ _
        go_wp2_with (fail)
        go_meet
        exact ⟨rfl, HB2.out.trans (FB_qmx2.out.mono HB2.out.size)⟩
      · cases hz
      · rcases h4 with ⟨rfl, rfl, rfl⟩ | ⟨rfl, rfl⟩
        · cases hz
        · obtain rfl := hmF rfl
          clear hmT hmF
          rcases hxyc with ⟨rfl, rfl, rfl, rfl⟩ | ⟨rfl, rfl, rfl, rfl, rfl⟩ | ⟨rfl, rfl, rfl, rfl, rfl⟩ | ⟨rfl, rfl, rfl, rfl⟩ | ⟨rfl, rfl, rfl, rfl⟩ | ⟨rfl, rfl, rfl⟩
          · exact absurd (show (1 : Nat) = 0 from hgrp) (by decide)
          · exact absurd (show (1 : Nat) = 0 from hgrp) (by decide)
          · exact absurd (show (2 : Nat) = 0 from hgrp) (by decide)
          · exact absurd (show (1 : Nat) = 0 from hgrp) (by decide)
          · exact absurd (show (2 : Nat) = 0 from hgrp) (by decide)
          · exact absurd (show (2 : Nat) = 0 from hgrp) (by decide)
    case rest =>
      obtain ⟨rfl, hcb⟩ := hcut
      rename World => w3
      have HB3 := Lib.hid hcb
      clear hgrp hcb e1 e2 e0 ei ej ef HUF HVF HVP HVQ HPM HPO hlp hlf HFT
      obtain ⟨e1, e2, e0, ei, ej, ef⟩ := HKX.out w3 HB3.out
      cases ft with
      | false =>
        go_wp2
        go_ret
        exact gc_no (k := 3) (by decide) (by rw [HE.out]; rfl) (HBU.out.trans (HB3.out.mono HBU.out.size))
      | true =>
        exact absurd HNO.out (by decide)
end
section
open Go.ChangeAt Go.ChangeShapes Go.RowKit Go.WideShapes

theorem sStepCode_any (r a b i j : Int) (h1 : 1 ≤ r) (h14 : r ≤ 14) (B : Option Addr) (m d : Nat) (F : List Int) (A : Option Addr) (n c : Nat) (P : List (List Int)) (A2 : Option Addr) (n2 c2 : Nat) (Q : List (List Int)) (w : World) (hf : RdI w w.heap.size B m F) (h : RdQ w w.heap.size A n P) (h2 : RdQ w w.heap.size A2 n2 Q) (hm : m ≤ 1048576) (hnc : n ≤ c) (hnc2 : n2 ≤ c2) (hP : validQ P = true) (hQ : validQ Q = true) :
    Calls Tryz.prog 53 #[.agg #[.slice A n c], .agg #[.slice A2 n2 c2], Value.agg #[Value.int .i64 r, Value.int .i64 a, Value.int .i64 b, Value.int .i64 i, Value.int .i64 j, Value.slice B m d]] w (GivesC w (cdB r i j F P Q)) := by
  rcases cls_any r with hk | hk | hk
  · rcases grp_any (ruF r) (decide (0 < F.length)) (validB F) (ruI r) (i != 0) (ruJ r) (j != 0) with hg | hg | hg
    · exact sStepCode_1_0 r a b i j h1 h14 hk B m d F A n c P A2 n2 c2 Q w hf h h2 hm hnc hnc2 hP hQ hg
    · exact sStepCode_1_1 r a b i j h1 h14 hk B m d F A n c P A2 n2 c2 Q w hf h h2 hm hnc hnc2 hP hQ hg
    · exact sStepCode_1_2 r a b i j h1 h14 hk B m d F A n c P A2 n2 c2 Q w hf h h2 hm hnc hnc2 hP hQ hg
  · exact sStepCode_2 r a b i j h1 h14 hk B m d F A n c P A2 n2 c2 Q w hf h h2 hm hnc hnc2 hP hQ
  · rcases grp_any (ruF r) (decide (0 < F.length)) (validB F) (ruI r) (i != 0) (ruJ r) (j != 0) with hg | hg | hg
    · exact sStepCode_3_0 r a b i j h1 h14 hk B m d F A n c P A2 n2 c2 Q w hf h h2 hm hnc hnc2 hP hQ hg
    · exact sStepCode_3_1 r a b i j h1 h14 hk B m d F A n c P A2 n2 c2 Q w hf h h2 hm hnc hnc2 hP hQ hg
    · rcases clsJ_any r with hj | hj
      · exact sStepCode_3_2 r a b i j h1 h14 hk hj B m d F A n c P A2 n2 c2 Q w hf h h2 hm hnc hnc2 hP hQ hg
      · exact sStepCode_3_3 r a b i j h1 h14 hk hj B m d F A n c P A2 n2 c2 Q w hf h h2 hm hnc hnc2 hP hQ hg
end
section
open Go.ChangeAt Go.ChangeShapes Go.RowKit Go.WideShapes

theorem lit_i {w : World} {base : Nat} (hb : base ≤ w.heap.size) (v : Value) : (w.alloc (.cells #[v] 2)).ownsRow base 2 1 (.slice (some ⟨w.heap.size, 0, none⟩) 1 1) 1 [v] :=
  ⟨by simp, .inr ⟨w.heap.size, 1, #[v], rfl, hb, heap_alloc_new w _, Nat.le_refl _, by simp [maxLen], rfl, by simp⟩⟩
theorem givesV_of {w u w' : World} {R : List (List Int)} {A : Option Addr} {c n : Nat} {vs : List Value} (hb : Below w.heap.size w u) (hq : Below u.heap.size u w') (o : w'.ownsRow u.heap.size 36 1 (.slice A n c) n vs) (rd : RdV u vs R) : GivesV w R (.returned (.slice A n c)) w' := by
  have e : n = R.length := by rw [← rd.len]; have := o.1; omega
  subst e
  exact ⟨A, c, vs, rfl, own_base o hb.size, rd.below hq, hb.trans (hq.mono hb.size)⟩
theorem givesV_app {w w' : World} {R : List (List Int)} {X : List Int} {A : Option Addr} {c n : Nat} {vs : List Value} (o : w'.ownsRow w.heap.size 36 1 (.slice A (R ++ [X]).length c) (R ++ [X]).length vs) (rd : RdV w' vs (R ++ [X])) (b : Below w.heap.size w w') (hn : n = (R ++ [X]).length := by simp) : GivesV w (R ++ [X]) (.returned (.slice A n c)) w' := by
  subst hn; exact ⟨A, c, vs, rfl, o, rd, b⟩
end
section
open Go.ChangeAt Go.ChangeShapes Go.RowKit Go.WideShapes
open List (setIfInBounds_toArray set_cons_zero set_cons_succ getElem_toArray getElem_cons_succ getElem_cons_zero)

set_option linter.unusedSimpArgs false in
set_option maxRecDepth 100000 in
set_option maxHeartbeats 16000000 in
theorem cc_2 (a b : Int) (ii jj : Nat) (B : Option Addr) (m d : Nat) (F : List Int) (A : Option Addr) (n c : Nat) (P : List (List Int)) (A2 : Option Addr) (n2 c2 : Nat) (Q : List (List Int)) (w : World) (h : RdQ w w.heap.size A n P) (hnc : n ≤ c) (hP : validQ P = true) (hii : ii < P.length) (h2 : RdQ w w.heap.size A2 n2 Q) (hnc2 : n2 ≤ c2) (hQ : validQ Q = true) (hjj : jj < Q.length) :
    Calls Tryz.prog 55 #[.slice A n c, .slice A2 n2 c2, Value.agg #[Value.int .i64 2, Value.int .i64 a, Value.int .i64 b, Value.int .i64 ((ii : Nat) : Int), Value.int .i64 ((jj : Nat) : Int), Value.slice B m d]] w (GivesV w (cnL 2 ((ii : Nat) : Int) ((jj : Nat) : Int) F P Q)) := by
  obtain ⟨i0, hi0, hz0, hz1, hz2⟩ := info_parts_s
  have HI := Lib.hid hi0; have HZ0 := Lib.hid hz0; have HZ1 := Lib.hid hz1; have HZ2 := Lib.hid hz2
  have hl := h.len
  subst hl
  have hl2 := h2.len
  subst hl2
  have hcn : cnL 2 ((ii : Nat) : Int) ((jj : Nat) : Int) F P Q = (woL P [((ii : Nat) : Int)] ++ woL Q [((jj : Nat) : Int)]) := rfl
  rw [hcn]
  clear hcn
  obtain ⟨u, hu0⟩ : ∃ u, u = w.alloc (.cells #[Value.int .i64 2, Value.int .i64 a, Value.int .i64 b, Value.int .i64 ((ii : Nat) : Int), Value.int .i64 ((jj : Nat) : Int), Value.slice B m d] 43) := ⟨_, rfl⟩
  have hb : Below w.heap.size w u := by rw [hu0]; exact box_any w _
  have p0 := an hu0
  have HU0 := Lib.hid hu0; have HBU := Lib.hid hb; have HP0 := Lib.hid p0
  have hvl := validQ_len hP
  obtain ⟨bp, op, rfl, hbp, hcp⟩ := h.2 (by omega)
  obtain ⟨vsP, hvP, hcP⟩ := RdV.of_q ((h.below hb).more hb.size)
  have hlP := hvP.len
  have hvlQ := validQ_len hQ
  obtain ⟨bq, oq, rfl, hbq, hcq⟩ := h2.2 (by omega)
  obtain ⟨vsQ, hvQ, hcQ⟩ := RdV.of_q ((h2.below hb).more hb.size)
  have hlQ := hvQ.len
  have HSX : Hid (∀ wx, Below u.heap.size u wx → wx.cell? ⟨w.heap.size, 3, none⟩ = some (.int .i64 ((ii : Nat) : Int)) ∧ wx.cell? ⟨w.heap.size, 4, none⟩ = some (.int .i64 ((jj : Nat) : Int))) := Lib.hid fun wx hx => by
    have q := (hx.block w.heap.size (Array.getElem?_eq_some_iff.1 p0).1).trans p0
    exact ⟨cell_of_row _ _ 3 _ _ (0, 0) q, cell_of_row _ _ 4 _ _ (0, 0) q⟩
  have K0 := Lib.hid (HSX.out u (Below.refl _ _))
  have hwo := fun (wx : World) (hx : Below u.heap.size u wx) => sWithoutS_any bp op P.length c ii vsP wx hlP hvP.one (Nat.lt_of_lt_of_le (Nat.lt_of_lt_of_le hbp hb.size) hx.size) (fun j v hv => by have e := hcP j v hv; rw [add_off] at e ⊢; rw [← e]; exact hx.cell (Nat.lt_of_lt_of_le hbp hb.size)) (by omega) hnc hii
  have hrv := hvP.ex ii
  obtain ⟨vR, hvR⟩ : ∃ vR, exV vsP ii = vR := ⟨_, rfl⟩
  obtain ⟨R, hR⟩ : ∃ R, woL P [((ii : Nat) : Int)] = R := ⟨_, rfl⟩
  rw [hvR] at hwo hrv
  rw [hR] at hrv ⊢
  have hR9 : R.length ≤ 10 := by rw [← hR]; exact Nat.le_trans (woK_len _ _ _) hvl
  have HWO := Lib.hid hwo; have HRV := Lib.hid hrv; have HR9 : Hid (vR.length ≤ 10) := Lib.hid (by rw [hrv.len]; exact hR9); have HONE := Lib.hid hrv.one
  have hwq := fun (wx : World) (hx : Below u.heap.size u wx) => sWithoutS_any bq oq Q.length c2 jj vsQ wx hlQ hvQ.one (Nat.lt_of_lt_of_le (Nat.lt_of_lt_of_le hbq hb.size) hx.size) (fun j v hv => by have e := hcQ j v hv; rw [add_off] at e ⊢; rw [← e]; exact hx.cell (Nat.lt_of_lt_of_le hbq hb.size)) (by omega) hnc2 hjj
  have hrq := hvQ.ex jj
  obtain ⟨vQ, hvQ9⟩ : ∃ vQ, exV vsQ jj = vQ := ⟨_, rfl⟩
  obtain ⟨RQ, hRQ⟩ : ∃ RQ, woL Q [((jj : Nat) : Int)] = RQ := ⟨_, rfl⟩
  rw [hvQ9] at hwq hrq
  rw [hRQ] at hrq ⊢
  have hRQ9 : RQ.length ≤ 10 := by rw [← hRQ]; exact Nat.le_trans (woK_len _ _ _) hvlQ
  have HWQ := Lib.hid hwq; have HRVQ := Lib.hid hrq; have HRQ9 : Hid (vQ.length ≤ 10) := Lib.hid (by rw [hrq.len]; exact hRQ9); have HONEQ := Lib.hid hrq.one
  have HRW := Lib.hid (HRV.out.app HRVQ.out)
  have e0 := cell_of_row _ _ 0 _ _ (0, 0) HP0.out
  clear hu0 hb p0 hwo hrv hvR hR hR9 h hi0 hz0 hz1 hz2 hcp hcP hvP hlP hP hbp hwq hrq hvQ9 hRQ hRQ9 h2 hcq hcQ hvQ hlQ hQ hbq hvlQ
  have FB_0 := Lib.hid (Below.refl u.heap.size u)
  go_enter Tryz.func55, Tryz.ntmps55
  go_upto_region 1 with (fail)
  rw [← HU0.out]
  go_upto_region 5 with (fail)
  clear e0
  refine wp_region_held_drew (S := fun wx => wx.cell? ⟨w.heap.size, 3, none⟩ = some (.int .i64 ((ii : Nat) : Int)) ∧ wx.cell? ⟨w.heap.size, 4, none⟩ = some (.int .i64 ((jj : Nat) : Int))) (by kernel_rfl) K0.out (fun hHeld => ?_)
  obtain ⟨wq1, hwq1⟩ : ∃ w', w' = u.drew := ⟨_, rfl⟩
  rw [← hwq1] at hHeld ⊢
  have bq1 : Below u.heap.size u wq1 := by rw [hwq1]; exact (Below.refl _ _).drew
  clear hwq1
  have FB_q2 := Lib.hid ((FB_0.out).trans ((bq1).mono (FB_0.out).size))
  clear FB_0
  refine tk (i := 0) (h := ?_)
  (try simp only [Act.put, setIfInBounds_toArray, set_cons_zero, set_cons_succ, getElem_toArray, getElem_cons_succ, getElem_cons_zero])
  refine tk (i := 1) (h := ?_)
  (try simp only [Act.put, setIfInBounds_toArray, set_cons_zero, set_cons_succ, getElem_toArray, getElem_cons_succ, getElem_cons_zero])
  refine tk (i := 4) (h := ?_)
  (try simp only [Act.put, setIfInBounds_toArray, set_cons_zero, set_cons_succ, getElem_toArray, getElem_cons_succ, getElem_cons_zero])
  refine tk (i := 5) (h := ?_)
  (try simp only [Act.put, setIfInBounds_toArray, set_cons_zero, set_cons_succ, getElem_toArray, getElem_cons_succ, getElem_cons_zero])
  refine tk (i := 2) (h := ?_)
  (try simp only [Act.put, setIfInBounds_toArray, set_cons_zero, set_cons_succ, getElem_toArray, getElem_cons_succ, getElem_cons_zero])
  refine tk (i := 6) (h := ?_)
  (try simp only [Act.put, setIfInBounds_toArray, set_cons_zero, set_cons_succ, getElem_toArray, getElem_cons_succ, getElem_cons_zero])
  refine t1 (i := 3) (h := fun K hK => ?_)
  go_simp
  have KBq9 := Lib.hid FB_q2.out.size
  refine (HWO.out wq1 FB_q2.out).mono ?_
  rintro e wq9 ⟨gRq9, kRq9, rfl, oq9, belq9⟩
  dsimp only
  have FB_q10 := Lib.hid ((FB_q2.out).trans ((belq9).mono (FB_q2.out).size))
  clear FB_q2
  have FO_q9 := Lib.hid (own_base oq9 KBq9.out)
  clear oq9 belq9
  refine hK.out _ _ (HSX.out _ FB_q10.out) (fun hHeld => ?_)
  clear hK K
  (try simp only [Act.put, setIfInBounds_toArray, set_cons_zero, set_cons_succ, getElem_toArray, getElem_cons_succ, getElem_cons_zero])
  refine t1 (i := 7) (h := fun K hK => ?_)
  go_simp
  have KBq11 := Lib.hid FB_q10.out.size
  refine (HWQ.out wq9 FB_q10.out).mono ?_
  rintro e wq11 ⟨gRq11, kRq11, rfl, oq11, belq11⟩
  dsimp only
  have FB_q12 := Lib.hid ((FB_q10.out).trans ((belq11).mono (FB_q10.out).size))
  have FO_q13 := Lib.hid (own_below (FO_q9.out) (belq11) (Nat.le_refl _))
  clear FB_q10 FO_q9
  have FQ_q11 := Lib.hid (own_base oq11 KBq11.out)
  clear oq11 belq11
  refine hK.out _ _ (HSX.out _ FB_q12.out) (fun hHeld => ?_)
  clear hK K
  (try simp only [Act.put, setIfInBounds_toArray, set_cons_zero, set_cons_succ, getElem_toArray, getElem_cons_succ, getElem_cons_zero])
  refine t1 (i := 8) (h := fun K hK => ?_)
  refine step_append_o rfl _ _ 23 rfl u.heap.size 36 i0 (.slice none 0 0) 1 24 Tryz.underlying23 HI.out HZ0.out HZ1.out HZ2.out rfl (by decide) _ _ _ rfl FO_q13.out ⟨gRq11, 0, none⟩ vQ.length kRq11 vQ rfl (by rw [Nat.mul_one]) (FQ_q11.out.cells rfl) HONEQ.out (by have := HR9.out; have := HRQ9.out; unfold maxLen; omega) (by have := HR9.out; have := HRQ9.out; omega) FB_q12.out.size ?_
  intro v7 wq14 hown7 hgrow7 _
  obtain ⟨A7, c7, rfl⟩ := own_shape hown7
  have FB_q14 := Lib.hid (FB_q12.out.grown hgrow7 FB_q12.out.size (fun k hk => (FO_q13.out.lt k hk).1)); have FO_q14 := Lib.hid hown7
  clear hown7 hgrow7
  refine hK.out _ _ (HSX.out _ FB_q14.out) (fun hHeld => ?_)
  clear hK K
  (try simp only [Act.put, setIfInBounds_toArray, set_cons_zero, set_cons_succ, getElem_toArray, getElem_cons_succ, getElem_cons_zero])
  refine t1 (i := 9) (h := fun K hK => ?_)
  go_simp
  refine hK.out _ _ hHeld (fun hHeld => ?_)
  clear hK K
  (try simp only [Act.put, setIfInBounds_toArray, set_cons_zero, set_cons_succ, getElem_toArray, getElem_cons_succ, getElem_cons_zero])
  refine wpAnyH_done (by kernel_rfl) ?_ _
  have HBF := Lib.hid FB_q14.out; have HOF := Lib.hid FO_q14.out
  clear HSX
  go_wp2
  go_ret
  exact givesV_of HBU.out HBF.out HOF.out HRW.out
end
end Go.Proofs.YthbkcpacgnmcfaaGreatDoor
