/- The model's stepCode, rules of kind 3, fields of way 1. Made by mkcmc.py. -/
import Derived.Test.YthbkcpacgnmcfaaGreatDoorQCmC0
import Derived.Test.YthbkcpacgnmcfaaGreatDoorQSubA
namespace Go.Proofs.YthbkcpacgnmcfaaGreatDoor
set_option linter.unusedSimpArgs false
set_option linter.unusedVariables false
open Go.ChangeAt Go.ChangeShapes Go.RowKit Go.WideShapes
open List (setIfInBounds_toArray set_cons_zero set_cons_succ getElem_toArray getElem_cons_succ getElem_cons_zero)

set_option linter.unusedSimpArgs false in
set_option maxRecDepth 100000 in
set_option maxHeartbeats 40000000 in
theorem sStepCode_3_1 (r a b i j : Int) (h1 : 1 ≤ r) (h14 : r ≤ 14) (hcls : clsR r = 3) (B : Option Addr) (m d : Nat) (F : List Int) (A : Option Addr) (n c : Nat) (P : List (List Int)) (A2 : Option Addr) (n2 c2 : Nat) (Q : List (List Int)) (w : World) (hf : RdI w w.heap.size B m F) (h : RdQ w w.heap.size A n P) (h2 : RdQ w w.heap.size A2 n2 Q) (hm : m ≤ 1048576) (hnc : n ≤ c) (hnc2 : n2 ≤ c2) (hP : validQ P = true) (hQ : validQ Q = true) (hgrp : grpF (ruF r) (decide (0 < F.length)) (validB F) (ruI r) (i != 0) (ruJ r) (j != 0) = 1) :
    Calls Tryz.prog 53 #[.agg #[.slice A n c], .agg #[.slice A2 n2 c2], Value.agg #[Value.int .i64 r, Value.int .i64 a, Value.int .i64 b, Value.int .i64 i, Value.int .i64 j, Value.slice B m d]] w (GivesC w (cdB r i j F P Q)) := by
  have hl := h.len
  subst hl
  have hl2 := h2.len
  subst hl2
  have hlf := hf.1
  obtain ⟨u, hu0⟩ : ∃ u, u = ((w.alloc (.cells #[Value.slice A P.length c] 64)).alloc (.cells #[Value.slice A2 Q.length c2] 64)).alloc (.cells #[Value.int .i64 r, Value.int .i64 a, Value.int .i64 b, Value.int .i64 i, Value.int .i64 j, Value.slice B m d] 43) := ⟨_, rfl⟩
  obtain ⟨hb, p1, p2, p0, hsz⟩ := three_any w (.cells #[Value.slice A P.length c] 64) (.cells #[Value.slice A2 Q.length c2] 64) (.cells #[Value.int .i64 r, Value.int .i64 a, Value.int .i64 b, Value.int .i64 i, Value.int .i64 j, Value.slice B m d] 43)
  rw [← hu0] at hb p0 p1 p2 hsz
  have HKX : Hid (∀ wx, Below u.heap.size u wx → wx.cell? ⟨w.heap.size, 0, none⟩ = some (.slice A P.length c) ∧ wx.cell? ⟨w.heap.size + 1, 0, none⟩ = some (.slice A2 Q.length c2) ∧ wx.cell? ⟨w.heap.size + 1 + 1, 0, none⟩ = some (.int .i64 r) ∧ wx.cell? ⟨w.heap.size + 1 + 1, 3, none⟩ = some (.int .i64 i) ∧ wx.cell? ⟨w.heap.size + 1 + 1, 4, none⟩ = some (.int .i64 j) ∧ wx.cell? ⟨w.heap.size + 1 + 1, 5, none⟩ = some (.slice B m d)) := Lib.hid fun wx hx => by
    have g : ∀ k o, u.heap[k]? = some o → wx.heap[k]? = some o := fun k o h => (hx.block k (Array.getElem?_eq_some_iff.1 h).1).trans h
    exact ⟨cell_of_row _ _ 0 _ _ (0, 0) (g _ _ p1), cell_of_row _ _ 0 _ _ (0, 0) (g _ _ p2), cell_of_row _ _ 0 _ _ (0, 0) (g _ _ p0), cell_of_row _ _ 3 _ _ (0, 0) (g _ _ p0), cell_of_row _ _ 4 _ _ (0, 0) (g _ _ p0), cell_of_row _ _ 5 _ _ (0, 0) (g _ _ p0)⟩
  have HU0 := Lib.hid hu0; have HBU := Lib.hid hb
  have HPM := fun (wx : World) => premises_any wx r h1 h14
  have HPO := fun (wx : World) => positions_any wx r h1 h14
  have HUF := fun (wx : World) => usesForm_any wx r h1 h14
  have HRP := Lib.hid (fun (wx : World) (hx : Below u.heap.size u wx) => (h.below (hb.trans (hx.mono hb.size))).more (Nat.le_trans hb.size hx.size))
  have HRQ := Lib.hid (fun (wx : World) (hx : Below u.heap.size u wx) => (h2.below (hb.trans (hx.mono hb.size))).more (Nat.le_trans hb.size hx.size))
  have hlP := validQ_len hP
  have hlQ := validQ_len hQ
  have HVP := Lib.hid (fun (wx : World) (hx : Below u.heap.size u wx) => sValidSeq_any A P.length c P wx (HRP.out wx hx) (by omega) hnc)
  have HVQ := Lib.hid (fun (wx : World) (hx : Below u.heap.size u wx) => sValidSeq_any A2 Q.length c2 Q wx (HRQ.out wx hx) (by omega) hnc2)
  rw [hP] at HVP
  rw [hQ] at HVQ
  have HVF := Lib.hid (fun (wx : World) (hx : Below u.heap.size u wx) => sValidForm_any B m d F wx ((hf.below (hb.trans (hx.mono hb.size))).more (Nat.le_trans hb.size hx.size)))
  have HIP := Lib.hid (fun (wx : World) => sIsPos_any A P.length c i wx (by omega))
  have HJP := Lib.hid (fun (wx : World) => sIsPos_any A P.length c j wx (by omega))
  have HJQ := Lib.hid (fun (wx : World) => sIsPos_any A2 Q.length c2 j wx (by omega))
  have HPV := Lib.hid hP; have HQV := Lib.hid hQ
  have HE : Hid (cdB r i j F P Q = ((fitM (ruF r) (decide (0 < F.length)) (validB F) (ruI r) (i != 0) (ruJ r) (j != 0) && posM r i j P.length Q.length) && ctxB r i j P Q)) := Lib.hid (by unfold cdB; rw [fitM_is])
  have HPM2 : Hid (posM r i j P.length Q.length = ((!ruI r || posB i P.length) && (!ruJ r || posB j (if ruP r = 2 then Q.length else P.length)))) := Lib.hid rfl
  have hcl := ru_class r h1 h14
  have hck := cls_3 r h1 h14 hcls
  have hlp : decide ((0 : Int) < (m : Int)) = decide (0 < F.length) := by rw [hlf]; exact decide_eq_decide.2 (by omega)
  generalize ruP r = np at *; generalize ruK r = kp at *; generalize ruI r = x at *; generalize ruJ r = y at *; generalize ruF r = z at *
  have HCK := Lib.hid hck
  clear hck
  generalize decide (0 < F.length) = lp at *
  generalize validB F = vb at *
  obtain ⟨bi, hbi⟩ : ∃ bi, (i != 0) = bi := ⟨_, rfl⟩
  obtain ⟨bj, hbj⟩ : ∃ bj, (j != 0) = bj := ⟨_, rfl⟩
  rw [hbi, hbj] at HE hgrp
  obtain ⟨ft, hft⟩ : ∃ ft, fitM z lp vb x bi y bj = ft := ⟨_, rfl⟩
  rw [hft] at HE
  have HFT := Lib.hid hft
  have HNO : Hid (ft = false) := Lib.hid (by rw [← hft]; exact grp_no _ _ _ _ _ _ _ (by rcases hcl with ⟨-, -, rfl, rfl⟩ | ⟨-, -, rfl, rfl⟩ | ⟨-, -, rfl, rfl⟩ | ⟨-, -, rfl, rfl⟩ | ⟨-, -, rfl, rfl⟩ <;> simp) (by rw [hgrp]; decide))
  obtain ⟨e1, e2, e0, ei, ej, ef⟩ := HKX.out u (Below.refl _ _)
  clear hu0 hb p0 p1 p2 hsz h h2 hf hft hP hQ
  go_enter Tryz.func53, Tryz.ntmps53
  go_upto_region 1 with (fail)
  rw [← HU0.out]
  go_wp2_with (fail)
  refine (HPM u).mono ?_
  rintro e w0 ⟨rfl, rfl⟩
  have hnp0 : decide (np < 0) = false := decide_eq_false (by omega)
  go_upto_region 4 with (fail)
  go_cut [31] (fun t wx => t = .bool false ∧ Below u.heap.size u wx)
  case first =>
    have hnp : np = 0 ∨ np = 1 ∨ np = 2 := by rcases hcl with h | h | h | h | h <;> simp [h.1]
    clear hcl hgrp hlp hbi hbj hnp0 HE HPM2 HFT
    rcases hnp with rfl | rfl | rfl
    · go_wp2_with (fail)
      go_meet
      exact ⟨rfl, Below.refl _ _⟩
    · go_wp2_with (fail)
      refine (HVP.out u (Below.refl _ _)).mono ?_
      rintro e w1 ⟨rfl, b1⟩
      have HB1 := Lib.hid b1
      clear b1
      go_wp2_with (fail)
      go_meet
      exact ⟨rfl, HB1.out⟩
    · go_wp2_with (fail)
      refine (HVP.out u (Below.refl _ _)).mono ?_
      rintro e w1 ⟨rfl, b1⟩
      have HB1 := Lib.hid b1
      clear b1 e1 e2 e0 ei ej ef
      obtain ⟨e1, e2, e0, ei, ej, ef⟩ := HKX.out w1 HB1.out
      go_wp2_with (fail)
      refine (HVQ.out w1 HB1.out).mono ?_
      rintro e w2 ⟨rfl, b2⟩
      have HB2 := Lib.hid (HB1.out.trans (b2.mono HB1.out.size))
      clear b2
      go_wp2_with (fail)
      go_meet
      exact ⟨rfl, HB2.out⟩
  case rest =>
    obtain ⟨rfl, hcb⟩ := hcut
    rename World => w2
    have HB2 := Lib.hid hcb
    clear hcb hnp0 e1 e2 e0 ei ej ef
    obtain ⟨e1, e2, e0, ei, ej, ef⟩ := HKX.out w2 HB2.out
    go_wp2_with (fail)
    refine (HPO w2).mono ?_
    rintro e w0 ⟨rfl, rfl⟩
    go_upto_region 7 with (fail)
    go_cut [72] (fun t wx => t = .bool (!ft) ∧ Below u.heap.size u wx)
    case first =>
      have hxyc : (x = false ∧ y = false ∧ kp = 0 ∧ bi = true) ∨ (x = false ∧ y = false ∧ kp = 0 ∧ bi = false ∧ bj = true) ∨ (x = false ∧ y = false ∧ kp = 0 ∧ bi = false ∧ bj = false) ∨ (x = true ∧ y = false ∧ kp = 1 ∧ bj = true) ∨ (x = true ∧ y = false ∧ kp = 1 ∧ bj = false) ∨ (x = true ∧ y = true ∧ kp = 2) := by
        rcases hcl with ⟨-, rfl, rfl, rfl⟩ | ⟨-, rfl, rfl, rfl⟩ | ⟨-, rfl, rfl, rfl⟩ | ⟨-, rfl, rfl, rfl⟩ | ⟨-, rfl, rfl, rfl⟩ <;> cases bi <;> cases bj <;> simp
      have hmT : lp = true → 0 < m := fun e => by rw [e] at hlp; have := of_decide_eq_true hlp; omega
      have hmF : lp = false → m = 0 := fun e => by rw [e] at hlp; have := of_decide_eq_false hlp; omega
      clear hlp hlf hcl HE HPM2 HVP HVQ HIP HJP HJQ HRP HRQ HPM HPO
      have hfc := fit_cases z lp vb
      have hz : z = false := HCK.out.1
      rcases hfc with ⟨rfl, rfl⟩ | ⟨rfl, rfl⟩ | ⟨rfl, rfl, rfl⟩ | h4
      · cases hz
      · exact absurd (show (0 : Nat) = 1 from hgrp) (by decide)
      · cases hz
      · rcases h4 with ⟨rfl, rfl, rfl⟩ | ⟨rfl, rfl⟩
        · cases hz
        · obtain rfl := hmF rfl
          clear hmT hmF
          rcases hxyc with ⟨rfl, rfl, rfl, rfl⟩ | ⟨rfl, rfl, rfl, rfl, rfl⟩ | ⟨rfl, rfl, rfl, rfl, rfl⟩ | ⟨rfl, rfl, rfl, rfl⟩ | ⟨rfl, rfl, rfl, rfl⟩ | ⟨rfl, rfl, rfl⟩
          · have hE : ft = false := by rw [← HFT.out]; simp [fitM]
            subst hE
            clear HFT
            clear hgrp
            have FB_0 := Lib.hid (Below.refl w2.heap.size w2)
            go_upto_region 7 with (fail)
            refine wp_region_held_drew (S := fun wx => wx.cell? ⟨w.heap.size, 0, none⟩ = some (.slice A P.length c) ∧ wx.cell? ⟨w.heap.size + 1, 0, none⟩ = some (.slice A2 Q.length c2) ∧ wx.cell? ⟨w.heap.size + 1 + 1, 0, none⟩ = some (.int .i64 r) ∧ wx.cell? ⟨w.heap.size + 1 + 1, 3, none⟩ = some (.int .i64 i) ∧ wx.cell? ⟨w.heap.size + 1 + 1, 4, none⟩ = some (.int .i64 j) ∧ wx.cell? ⟨w.heap.size + 1 + 1, 5, none⟩ = some (.slice B 0 d)) (by kernel_rfl) ⟨e1, e2, e0, ei, ej, ef⟩ (fun hHeld => ?_)
            obtain ⟨wqnx1, hwqnx1⟩ : ∃ w', w' = w2.drew := ⟨_, rfl⟩
            rw [← hwqnx1] at hHeld ⊢
            have bqnx1 : Below w2.heap.size w2 wqnx1 := by rw [hwqnx1]; exact (Below.refl _ _).drew
            clear hwqnx1
            have FB_qnx2 := Lib.hid ((FB_0.out).trans ((bqnx1).mono (FB_0.out).size))
            clear FB_0
            refine tk (i := 0) (h := ?_)
            (try simp only [Act.put, setIfInBounds_toArray, set_cons_zero, set_cons_succ, getElem_toArray, getElem_cons_succ, getElem_cons_zero])
            refine tk (i := 3) (h := ?_)
            (try simp only [Act.put, setIfInBounds_toArray, set_cons_zero, set_cons_succ, getElem_toArray, getElem_cons_succ, getElem_cons_zero])
            refine tk (i := 1) (h := ?_)
            (try simp only [Act.put, setIfInBounds_toArray, set_cons_zero, set_cons_succ, getElem_toArray, getElem_cons_succ, getElem_cons_zero])
            refine tk (i := 4) (h := ?_)
            (try simp only [Act.put, setIfInBounds_toArray, set_cons_zero, set_cons_succ, getElem_toArray, getElem_cons_succ, getElem_cons_zero])
            refine tk (i := 5) (h := ?_)
            (try simp only [Act.put, setIfInBounds_toArray, set_cons_zero, set_cons_succ, getElem_toArray, getElem_cons_succ, getElem_cons_zero])
            refine tk (i := 6) (h := ?_)
            (try simp only [Act.put, setIfInBounds_toArray, set_cons_zero, set_cons_succ, getElem_toArray, getElem_cons_succ, getElem_cons_zero])
            refine t1 (i := 2) (h := fun K hK => ?_)
            go_simp
            refine (HUF wqnx1).mono ?_
            rintro e wqnx9 ⟨rfl, rfl⟩
            dsimp only
            refine hK.out _ _ (hHeld) (fun hHeld => ?_)
            clear hK K
            (try simp only [Act.put, setIfInBounds_toArray, set_cons_zero, set_cons_succ, getElem_toArray, getElem_cons_succ, getElem_cons_zero])
            refine tk (i := 7) (h := ?_)
            (try simp only [Act.put, setIfInBounds_toArray, set_cons_zero, set_cons_succ, getElem_toArray, getElem_cons_succ, getElem_cons_zero])
            refine tk (i := 8) (h := ?_)
            (try simp only [Act.put, setIfInBounds_toArray, set_cons_zero, set_cons_succ, getElem_toArray, getElem_cons_succ, getElem_cons_zero])
            refine tk (i := 9) (h := ?_)
            (try simp only [Act.put, setIfInBounds_toArray, set_cons_zero, set_cons_succ, getElem_toArray, getElem_cons_succ, getElem_cons_zero])
            refine tk (i := 10) (h := ?_)
            (try simp only [Act.put, setIfInBounds_toArray, set_cons_zero, set_cons_succ, getElem_toArray, getElem_cons_succ, getElem_cons_zero])
            refine tk (i := 11) (h := ?_)
            (try simp only [Act.put, setIfInBounds_toArray, set_cons_zero, set_cons_succ, getElem_toArray, getElem_cons_succ, getElem_cons_zero])
            refine tk (i := 12) (h := ?_)
            (try simp only [Act.put, setIfInBounds_toArray, set_cons_zero, set_cons_succ, getElem_toArray, getElem_cons_succ, getElem_cons_zero])
            refine tk (i := 13) (h := ?_)
            (try simp only [Act.put, setIfInBounds_toArray, set_cons_zero, set_cons_succ, getElem_toArray, getElem_cons_succ, getElem_cons_zero])
            refine tn (i := 14) (h := ?_)
            (try simp only [Act.put, setIfInBounds_toArray, set_cons_zero, set_cons_succ, getElem_toArray, getElem_cons_succ, getElem_cons_zero])
            refine tn (i := 15) (h := ?_)
            (try simp only [Act.put, setIfInBounds_toArray, set_cons_zero, set_cons_succ, getElem_toArray, getElem_cons_succ, getElem_cons_zero])
            refine tn (i := 16) (h := ?_)
            (try simp only [Act.put, setIfInBounds_toArray, set_cons_zero, set_cons_succ, getElem_toArray, getElem_cons_succ, getElem_cons_zero])
            refine tn (i := 17) (h := ?_)
            (try simp only [Act.put, setIfInBounds_toArray, set_cons_zero, set_cons_succ, getElem_toArray, getElem_cons_succ, getElem_cons_zero])
            refine tk (i := 18) (h := ?_)
            (try simp only [Act.put, setIfInBounds_toArray, set_cons_zero, set_cons_succ, getElem_toArray, getElem_cons_succ, getElem_cons_zero])
            refine tk (i := 19) (h := ?_)
            (try simp only [Act.put, setIfInBounds_toArray, set_cons_zero, set_cons_succ, getElem_toArray, getElem_cons_succ, getElem_cons_zero])
            refine tk (i := 20) (h := ?_)
            (try simp only [Act.put, setIfInBounds_toArray, set_cons_zero, set_cons_succ, getElem_toArray, getElem_cons_succ, getElem_cons_zero])
            refine tk (i := 21) (h := ?_)
            (try simp only [Act.put, setIfInBounds_toArray, set_cons_zero, set_cons_succ, getElem_toArray, getElem_cons_succ, getElem_cons_zero])
            refine tk (i := 22) (h := ?_)
            (try simp only [Act.put, setIfInBounds_toArray, set_cons_zero, set_cons_succ, getElem_toArray, getElem_cons_succ, getElem_cons_zero])
            refine tk (i := 23) (h := ?_)
            (try simp only [Act.put, setIfInBounds_toArray, set_cons_zero, set_cons_succ, getElem_toArray, getElem_cons_succ, getElem_cons_zero])
            refine tk (i := 24) (h := ?_)
            (try simp only [Act.put, setIfInBounds_toArray, set_cons_zero, set_cons_succ, getElem_toArray, getElem_cons_succ, getElem_cons_zero])
            refine tk (i := 25) (h := ?_)
            (try simp only [Act.put, setIfInBounds_toArray, set_cons_zero, set_cons_succ, getElem_toArray, getElem_cons_succ, getElem_cons_zero])
            refine tk (i := 26) (h := ?_)
            (try simp only [Act.put, setIfInBounds_toArray, set_cons_zero, set_cons_succ, getElem_toArray, getElem_cons_succ, getElem_cons_zero])
            refine tk (i := 27) (h := ?_)
            (try simp only [Act.put, setIfInBounds_toArray, set_cons_zero, set_cons_succ, getElem_toArray, getElem_cons_succ, getElem_cons_zero])
            refine tk (i := 28) (h := ?_)
            (try simp only [Act.put, setIfInBounds_toArray, set_cons_zero, set_cons_succ, getElem_toArray, getElem_cons_succ, getElem_cons_zero])
            refine tk (i := 29) (h := ?_)
            (try simp only [Act.put, setIfInBounds_toArray, set_cons_zero, set_cons_succ, getElem_toArray, getElem_cons_succ, getElem_cons_zero])
            refine tn (i := 30) (h := ?_)
            (try simp only [Act.put, setIfInBounds_toArray, set_cons_zero, set_cons_succ, getElem_toArray, getElem_cons_succ, getElem_cons_zero])
            refine tn (i := 31) (h := ?_)
            (try simp only [Act.put, setIfInBounds_toArray, set_cons_zero, set_cons_succ, getElem_toArray, getElem_cons_succ, getElem_cons_zero])
            refine tn (i := 32) (h := ?_)
            (try simp only [Act.put, setIfInBounds_toArray, set_cons_zero, set_cons_succ, getElem_toArray, getElem_cons_succ, getElem_cons_zero])
            refine tn (i := 33) (h := ?_)
            (try simp only [Act.put, setIfInBounds_toArray, set_cons_zero, set_cons_succ, getElem_toArray, getElem_cons_succ, getElem_cons_zero])
            refine tn (i := 34) (h := ?_)
            (try simp only [Act.put, setIfInBounds_toArray, set_cons_zero, set_cons_succ, getElem_toArray, getElem_cons_succ, getElem_cons_zero])
            refine tn (i := 35) (h := ?_)
            (try simp only [Act.put, setIfInBounds_toArray, set_cons_zero, set_cons_succ, getElem_toArray, getElem_cons_succ, getElem_cons_zero])
            refine tn (i := 36) (h := ?_)
            (try simp only [Act.put, setIfInBounds_toArray, set_cons_zero, set_cons_succ, getElem_toArray, getElem_cons_succ, getElem_cons_zero])
            refine tk (i := 37) (h := ?_)
            (try simp only [Act.put, setIfInBounds_toArray, set_cons_zero, set_cons_succ, getElem_toArray, getElem_cons_succ, getElem_cons_zero])
            refine wpAnyH_done (by kernel_rfl) ?_ _
            go_wp2_with (fail)
            go_meet
            exact ⟨rfl, HB2.out.trans (FB_qnx2.out.mono HB2.out.size)⟩
          · have hE : ft = false := by rw [← HFT.out]; simp [fitM]
            subst hE
            clear HFT
            clear hgrp
            have FB_0 := Lib.hid (Below.refl w2.heap.size w2)
            go_upto_region 7 with (fail)
            refine wp_region_held_drew (S := fun wx => wx.cell? ⟨w.heap.size, 0, none⟩ = some (.slice A P.length c) ∧ wx.cell? ⟨w.heap.size + 1, 0, none⟩ = some (.slice A2 Q.length c2) ∧ wx.cell? ⟨w.heap.size + 1 + 1, 0, none⟩ = some (.int .i64 r) ∧ wx.cell? ⟨w.heap.size + 1 + 1, 3, none⟩ = some (.int .i64 i) ∧ wx.cell? ⟨w.heap.size + 1 + 1, 4, none⟩ = some (.int .i64 j) ∧ wx.cell? ⟨w.heap.size + 1 + 1, 5, none⟩ = some (.slice B 0 d)) (by kernel_rfl) ⟨e1, e2, e0, ei, ej, ef⟩ (fun hHeld => ?_)
            obtain ⟨wqox1, hwqox1⟩ : ∃ w', w' = w2.drew := ⟨_, rfl⟩
            rw [← hwqox1] at hHeld ⊢
            have bqox1 : Below w2.heap.size w2 wqox1 := by rw [hwqox1]; exact (Below.refl _ _).drew
            clear hwqox1
            have FB_qox2 := Lib.hid ((FB_0.out).trans ((bqox1).mono (FB_0.out).size))
            clear FB_0
            refine tk (i := 0) (h := ?_)
            (try simp only [Act.put, setIfInBounds_toArray, set_cons_zero, set_cons_succ, getElem_toArray, getElem_cons_succ, getElem_cons_zero])
            refine tk (i := 3) (h := ?_)
            (try simp only [Act.put, setIfInBounds_toArray, set_cons_zero, set_cons_succ, getElem_toArray, getElem_cons_succ, getElem_cons_zero])
            refine tk (i := 1) (h := ?_)
            (try simp only [Act.put, setIfInBounds_toArray, set_cons_zero, set_cons_succ, getElem_toArray, getElem_cons_succ, getElem_cons_zero])
            refine tk (i := 4) (h := ?_)
            (try simp only [Act.put, setIfInBounds_toArray, set_cons_zero, set_cons_succ, getElem_toArray, getElem_cons_succ, getElem_cons_zero])
            refine tk (i := 5) (h := ?_)
            (try simp only [Act.put, setIfInBounds_toArray, set_cons_zero, set_cons_succ, getElem_toArray, getElem_cons_succ, getElem_cons_zero])
            refine tk (i := 6) (h := ?_)
            (try simp only [Act.put, setIfInBounds_toArray, set_cons_zero, set_cons_succ, getElem_toArray, getElem_cons_succ, getElem_cons_zero])
            refine t1 (i := 2) (h := fun K hK => ?_)
            go_simp
            refine (HUF wqox1).mono ?_
            rintro e wqox9 ⟨rfl, rfl⟩
            dsimp only
            refine hK.out _ _ (hHeld) (fun hHeld => ?_)
            clear hK K
            (try simp only [Act.put, setIfInBounds_toArray, set_cons_zero, set_cons_succ, getElem_toArray, getElem_cons_succ, getElem_cons_zero])
            refine tk (i := 7) (h := ?_)
            (try simp only [Act.put, setIfInBounds_toArray, set_cons_zero, set_cons_succ, getElem_toArray, getElem_cons_succ, getElem_cons_zero])
            refine tk (i := 8) (h := ?_)
            (try simp only [Act.put, setIfInBounds_toArray, set_cons_zero, set_cons_succ, getElem_toArray, getElem_cons_succ, getElem_cons_zero])
            refine tk (i := 9) (h := ?_)
            (try simp only [Act.put, setIfInBounds_toArray, set_cons_zero, set_cons_succ, getElem_toArray, getElem_cons_succ, getElem_cons_zero])
            refine tk (i := 10) (h := ?_)
            (try simp only [Act.put, setIfInBounds_toArray, set_cons_zero, set_cons_succ, getElem_toArray, getElem_cons_succ, getElem_cons_zero])
            refine tk (i := 11) (h := ?_)
            (try simp only [Act.put, setIfInBounds_toArray, set_cons_zero, set_cons_succ, getElem_toArray, getElem_cons_succ, getElem_cons_zero])
            refine tk (i := 12) (h := ?_)
            (try simp only [Act.put, setIfInBounds_toArray, set_cons_zero, set_cons_succ, getElem_toArray, getElem_cons_succ, getElem_cons_zero])
            refine tk (i := 13) (h := ?_)
            (try simp only [Act.put, setIfInBounds_toArray, set_cons_zero, set_cons_succ, getElem_toArray, getElem_cons_succ, getElem_cons_zero])
            refine tn (i := 14) (h := ?_)
            (try simp only [Act.put, setIfInBounds_toArray, set_cons_zero, set_cons_succ, getElem_toArray, getElem_cons_succ, getElem_cons_zero])
            refine tn (i := 15) (h := ?_)
            (try simp only [Act.put, setIfInBounds_toArray, set_cons_zero, set_cons_succ, getElem_toArray, getElem_cons_succ, getElem_cons_zero])
            refine tn (i := 16) (h := ?_)
            (try simp only [Act.put, setIfInBounds_toArray, set_cons_zero, set_cons_succ, getElem_toArray, getElem_cons_succ, getElem_cons_zero])
            refine tn (i := 17) (h := ?_)
            (try simp only [Act.put, setIfInBounds_toArray, set_cons_zero, set_cons_succ, getElem_toArray, getElem_cons_succ, getElem_cons_zero])
            refine tk (i := 18) (h := ?_)
            (try simp only [Act.put, setIfInBounds_toArray, set_cons_zero, set_cons_succ, getElem_toArray, getElem_cons_succ, getElem_cons_zero])
            refine tk (i := 19) (h := ?_)
            (try simp only [Act.put, setIfInBounds_toArray, set_cons_zero, set_cons_succ, getElem_toArray, getElem_cons_succ, getElem_cons_zero])
            refine tk (i := 20) (h := ?_)
            (try simp only [Act.put, setIfInBounds_toArray, set_cons_zero, set_cons_succ, getElem_toArray, getElem_cons_succ, getElem_cons_zero])
            refine tk (i := 21) (h := ?_)
            (try simp only [Act.put, setIfInBounds_toArray, set_cons_zero, set_cons_succ, getElem_toArray, getElem_cons_succ, getElem_cons_zero])
            refine tk (i := 22) (h := ?_)
            (try simp only [Act.put, setIfInBounds_toArray, set_cons_zero, set_cons_succ, getElem_toArray, getElem_cons_succ, getElem_cons_zero])
            refine tk (i := 23) (h := ?_)
            (try simp only [Act.put, setIfInBounds_toArray, set_cons_zero, set_cons_succ, getElem_toArray, getElem_cons_succ, getElem_cons_zero])
            refine tk (i := 24) (h := ?_)
            (try simp only [Act.put, setIfInBounds_toArray, set_cons_zero, set_cons_succ, getElem_toArray, getElem_cons_succ, getElem_cons_zero])
            refine tk (i := 25) (h := ?_)
            (try simp only [Act.put, setIfInBounds_toArray, set_cons_zero, set_cons_succ, getElem_toArray, getElem_cons_succ, getElem_cons_zero])
            refine tk (i := 26) (h := ?_)
            (try simp only [Act.put, setIfInBounds_toArray, set_cons_zero, set_cons_succ, getElem_toArray, getElem_cons_succ, getElem_cons_zero])
            refine tk (i := 27) (h := ?_)
            (try simp only [Act.put, setIfInBounds_toArray, set_cons_zero, set_cons_succ, getElem_toArray, getElem_cons_succ, getElem_cons_zero])
            refine tk (i := 28) (h := ?_)
            (try simp only [Act.put, setIfInBounds_toArray, set_cons_zero, set_cons_succ, getElem_toArray, getElem_cons_succ, getElem_cons_zero])
            refine tk (i := 29) (h := ?_)
            (try simp only [Act.put, setIfInBounds_toArray, set_cons_zero, set_cons_succ, getElem_toArray, getElem_cons_succ, getElem_cons_zero])
            refine tk (i := 30) (h := ?_)
            (try simp only [Act.put, setIfInBounds_toArray, set_cons_zero, set_cons_succ, getElem_toArray, getElem_cons_succ, getElem_cons_zero])
            refine tk (i := 31) (h := ?_)
            (try simp only [Act.put, setIfInBounds_toArray, set_cons_zero, set_cons_succ, getElem_toArray, getElem_cons_succ, getElem_cons_zero])
            refine tk (i := 32) (h := ?_)
            (try simp only [Act.put, setIfInBounds_toArray, set_cons_zero, set_cons_succ, getElem_toArray, getElem_cons_succ, getElem_cons_zero])
            refine tk (i := 33) (h := ?_)
            (try simp only [Act.put, setIfInBounds_toArray, set_cons_zero, set_cons_succ, getElem_toArray, getElem_cons_succ, getElem_cons_zero])
            refine tk (i := 34) (h := ?_)
            (try simp only [Act.put, setIfInBounds_toArray, set_cons_zero, set_cons_succ, getElem_toArray, getElem_cons_succ, getElem_cons_zero])
            refine tk (i := 35) (h := ?_)
            (try simp only [Act.put, setIfInBounds_toArray, set_cons_zero, set_cons_succ, getElem_toArray, getElem_cons_succ, getElem_cons_zero])
            refine tk (i := 36) (h := ?_)
            (try simp only [Act.put, setIfInBounds_toArray, set_cons_zero, set_cons_succ, getElem_toArray, getElem_cons_succ, getElem_cons_zero])
            refine tk (i := 37) (h := ?_)
            (try simp only [Act.put, setIfInBounds_toArray, set_cons_zero, set_cons_succ, getElem_toArray, getElem_cons_succ, getElem_cons_zero])
            refine wpAnyH_done (by kernel_rfl) ?_ _
            go_wp2_with (fail)
            go_meet
            exact ⟨rfl, HB2.out.trans (FB_qox2.out.mono HB2.out.size)⟩
          · exact absurd (show (2 : Nat) = 1 from hgrp) (by decide)
          · have hE : ft = false := by rw [← HFT.out]; simp [fitM]
            subst hE
            clear HFT
            clear hgrp
            have FB_0 := Lib.hid (Below.refl w2.heap.size w2)
            go_upto_region 7 with (fail)
            refine wp_region_held_drew (S := fun wx => wx.cell? ⟨w.heap.size, 0, none⟩ = some (.slice A P.length c) ∧ wx.cell? ⟨w.heap.size + 1, 0, none⟩ = some (.slice A2 Q.length c2) ∧ wx.cell? ⟨w.heap.size + 1 + 1, 0, none⟩ = some (.int .i64 r) ∧ wx.cell? ⟨w.heap.size + 1 + 1, 3, none⟩ = some (.int .i64 i) ∧ wx.cell? ⟨w.heap.size + 1 + 1, 4, none⟩ = some (.int .i64 j) ∧ wx.cell? ⟨w.heap.size + 1 + 1, 5, none⟩ = some (.slice B 0 d)) (by kernel_rfl) ⟨e1, e2, e0, ei, ej, ef⟩ (fun hHeld => ?_)
            obtain ⟨wqpx1, hwqpx1⟩ : ∃ w', w' = w2.drew := ⟨_, rfl⟩
            rw [← hwqpx1] at hHeld ⊢
            have bqpx1 : Below w2.heap.size w2 wqpx1 := by rw [hwqpx1]; exact (Below.refl _ _).drew
            clear hwqpx1
            have FB_qpx2 := Lib.hid ((FB_0.out).trans ((bqpx1).mono (FB_0.out).size))
            clear FB_0
            refine tk (i := 0) (h := ?_)
            (try simp only [Act.put, setIfInBounds_toArray, set_cons_zero, set_cons_succ, getElem_toArray, getElem_cons_succ, getElem_cons_zero])
            refine tk (i := 3) (h := ?_)
            (try simp only [Act.put, setIfInBounds_toArray, set_cons_zero, set_cons_succ, getElem_toArray, getElem_cons_succ, getElem_cons_zero])
            refine tk (i := 1) (h := ?_)
            (try simp only [Act.put, setIfInBounds_toArray, set_cons_zero, set_cons_succ, getElem_toArray, getElem_cons_succ, getElem_cons_zero])
            refine tk (i := 4) (h := ?_)
            (try simp only [Act.put, setIfInBounds_toArray, set_cons_zero, set_cons_succ, getElem_toArray, getElem_cons_succ, getElem_cons_zero])
            refine tk (i := 5) (h := ?_)
            (try simp only [Act.put, setIfInBounds_toArray, set_cons_zero, set_cons_succ, getElem_toArray, getElem_cons_succ, getElem_cons_zero])
            refine tk (i := 6) (h := ?_)
            (try simp only [Act.put, setIfInBounds_toArray, set_cons_zero, set_cons_succ, getElem_toArray, getElem_cons_succ, getElem_cons_zero])
            refine t1 (i := 2) (h := fun K hK => ?_)
            go_simp
            refine (HUF wqpx1).mono ?_
            rintro e wqpx9 ⟨rfl, rfl⟩
            dsimp only
            refine hK.out _ _ (hHeld) (fun hHeld => ?_)
            clear hK K
            (try simp only [Act.put, setIfInBounds_toArray, set_cons_zero, set_cons_succ, getElem_toArray, getElem_cons_succ, getElem_cons_zero])
            refine tk (i := 7) (h := ?_)
            (try simp only [Act.put, setIfInBounds_toArray, set_cons_zero, set_cons_succ, getElem_toArray, getElem_cons_succ, getElem_cons_zero])
            refine tk (i := 8) (h := ?_)
            (try simp only [Act.put, setIfInBounds_toArray, set_cons_zero, set_cons_succ, getElem_toArray, getElem_cons_succ, getElem_cons_zero])
            refine tk (i := 9) (h := ?_)
            (try simp only [Act.put, setIfInBounds_toArray, set_cons_zero, set_cons_succ, getElem_toArray, getElem_cons_succ, getElem_cons_zero])
            refine tk (i := 10) (h := ?_)
            (try simp only [Act.put, setIfInBounds_toArray, set_cons_zero, set_cons_succ, getElem_toArray, getElem_cons_succ, getElem_cons_zero])
            refine tk (i := 11) (h := ?_)
            (try simp only [Act.put, setIfInBounds_toArray, set_cons_zero, set_cons_succ, getElem_toArray, getElem_cons_succ, getElem_cons_zero])
            refine tk (i := 12) (h := ?_)
            (try simp only [Act.put, setIfInBounds_toArray, set_cons_zero, set_cons_succ, getElem_toArray, getElem_cons_succ, getElem_cons_zero])
            refine tk (i := 13) (h := ?_)
            (try simp only [Act.put, setIfInBounds_toArray, set_cons_zero, set_cons_succ, getElem_toArray, getElem_cons_succ, getElem_cons_zero])
            refine tn (i := 14) (h := ?_)
            (try simp only [Act.put, setIfInBounds_toArray, set_cons_zero, set_cons_succ, getElem_toArray, getElem_cons_succ, getElem_cons_zero])
            refine tn (i := 15) (h := ?_)
            (try simp only [Act.put, setIfInBounds_toArray, set_cons_zero, set_cons_succ, getElem_toArray, getElem_cons_succ, getElem_cons_zero])
            refine tn (i := 16) (h := ?_)
            (try simp only [Act.put, setIfInBounds_toArray, set_cons_zero, set_cons_succ, getElem_toArray, getElem_cons_succ, getElem_cons_zero])
            refine tn (i := 17) (h := ?_)
            (try simp only [Act.put, setIfInBounds_toArray, set_cons_zero, set_cons_succ, getElem_toArray, getElem_cons_succ, getElem_cons_zero])
            refine tk (i := 18) (h := ?_)
            (try simp only [Act.put, setIfInBounds_toArray, set_cons_zero, set_cons_succ, getElem_toArray, getElem_cons_succ, getElem_cons_zero])
            refine tk (i := 19) (h := ?_)
            (try simp only [Act.put, setIfInBounds_toArray, set_cons_zero, set_cons_succ, getElem_toArray, getElem_cons_succ, getElem_cons_zero])
            refine tk (i := 20) (h := ?_)
            (try simp only [Act.put, setIfInBounds_toArray, set_cons_zero, set_cons_succ, getElem_toArray, getElem_cons_succ, getElem_cons_zero])
            refine tk (i := 21) (h := ?_)
            (try simp only [Act.put, setIfInBounds_toArray, set_cons_zero, set_cons_succ, getElem_toArray, getElem_cons_succ, getElem_cons_zero])
            refine tk (i := 22) (h := ?_)
            (try simp only [Act.put, setIfInBounds_toArray, set_cons_zero, set_cons_succ, getElem_toArray, getElem_cons_succ, getElem_cons_zero])
            refine tk (i := 23) (h := ?_)
            (try simp only [Act.put, setIfInBounds_toArray, set_cons_zero, set_cons_succ, getElem_toArray, getElem_cons_succ, getElem_cons_zero])
            refine tn (i := 24) (h := ?_)
            (try simp only [Act.put, setIfInBounds_toArray, set_cons_zero, set_cons_succ, getElem_toArray, getElem_cons_succ, getElem_cons_zero])
            refine tn (i := 25) (h := ?_)
            (try simp only [Act.put, setIfInBounds_toArray, set_cons_zero, set_cons_succ, getElem_toArray, getElem_cons_succ, getElem_cons_zero])
            refine tn (i := 26) (h := ?_)
            (try simp only [Act.put, setIfInBounds_toArray, set_cons_zero, set_cons_succ, getElem_toArray, getElem_cons_succ, getElem_cons_zero])
            refine tk (i := 27) (h := ?_)
            (try simp only [Act.put, setIfInBounds_toArray, set_cons_zero, set_cons_succ, getElem_toArray, getElem_cons_succ, getElem_cons_zero])
            refine tk (i := 28) (h := ?_)
            (try simp only [Act.put, setIfInBounds_toArray, set_cons_zero, set_cons_succ, getElem_toArray, getElem_cons_succ, getElem_cons_zero])
            refine tk (i := 29) (h := ?_)
            (try simp only [Act.put, setIfInBounds_toArray, set_cons_zero, set_cons_succ, getElem_toArray, getElem_cons_succ, getElem_cons_zero])
            refine tk (i := 30) (h := ?_)
            (try simp only [Act.put, setIfInBounds_toArray, set_cons_zero, set_cons_succ, getElem_toArray, getElem_cons_succ, getElem_cons_zero])
            refine tk (i := 31) (h := ?_)
            (try simp only [Act.put, setIfInBounds_toArray, set_cons_zero, set_cons_succ, getElem_toArray, getElem_cons_succ, getElem_cons_zero])
            refine tk (i := 32) (h := ?_)
            (try simp only [Act.put, setIfInBounds_toArray, set_cons_zero, set_cons_succ, getElem_toArray, getElem_cons_succ, getElem_cons_zero])
            refine tk (i := 33) (h := ?_)
            (try simp only [Act.put, setIfInBounds_toArray, set_cons_zero, set_cons_succ, getElem_toArray, getElem_cons_succ, getElem_cons_zero])
            refine tk (i := 34) (h := ?_)
            (try simp only [Act.put, setIfInBounds_toArray, set_cons_zero, set_cons_succ, getElem_toArray, getElem_cons_succ, getElem_cons_zero])
            refine tk (i := 35) (h := ?_)
            (try simp only [Act.put, setIfInBounds_toArray, set_cons_zero, set_cons_succ, getElem_toArray, getElem_cons_succ, getElem_cons_zero])
            refine tk (i := 36) (h := ?_)
            (try simp only [Act.put, setIfInBounds_toArray, set_cons_zero, set_cons_succ, getElem_toArray, getElem_cons_succ, getElem_cons_zero])
            refine tk (i := 37) (h := ?_)
            (try simp only [Act.put, setIfInBounds_toArray, set_cons_zero, set_cons_succ, getElem_toArray, getElem_cons_succ, getElem_cons_zero])
            refine wpAnyH_done (by kernel_rfl) ?_ _
            go_wp2_with (fail)
            go_meet
            exact ⟨rfl, HB2.out.trans (FB_qpx2.out.mono HB2.out.size)⟩
          · exact absurd (show (2 : Nat) = 1 from hgrp) (by decide)
          · exact absurd (show (2 : Nat) = 1 from hgrp) (by decide)
    case rest =>
      obtain ⟨rfl, hcb⟩ := hcut
      rename World => w3
      have HB3 := Lib.hid hcb
      clear hgrp hcb e1 e2 e0 ei ej ef HUF HVF HVP HVQ HPM HPO hlp hlf HFT
      obtain ⟨e1, e2, e0, ei, ej, ef⟩ := HKX.out w3 HB3.out
      cases ft with
      | false =>
        go_wp2
        go_ret
        exact gc_no (k := 3) (by decide) (by rw [HE.out]; rfl) (HBU.out.trans (HB3.out.mono HBU.out.size))
      | true =>
        exact absurd HNO.out (by decide)
end Go.Proofs.YthbkcpacgnmcfaaGreatDoor
