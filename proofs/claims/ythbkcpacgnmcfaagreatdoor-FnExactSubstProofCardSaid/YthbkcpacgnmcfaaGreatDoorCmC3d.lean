/- The model's stepCode, rules of kind 3, fields of way 2, two positions. Made by mkcmc.py. -/
import Derived.Test.YthbkcpacgnmcfaaGreatDoorQCmC0
import Derived.Test.YthbkcpacgnmcfaaGreatDoorCmC3c
import Derived.Test.YthbkcpacgnmcfaaGreatDoorQSubA
namespace Go.Proofs.YthbkcpacgnmcfaaGreatDoor
set_option linter.unusedSimpArgs false
set_option linter.unusedVariables false
open Go.ChangeAt Go.ChangeShapes Go.RowKit Go.WideShapes
open List (setIfInBounds_toArray set_cons_zero set_cons_succ getElem_toArray getElem_cons_succ getElem_cons_zero)

set_option linter.unusedSimpArgs false in
set_option maxRecDepth 100000 in
set_option maxHeartbeats 40000000 in
theorem sStepCode_3_3 (r a b i j : Int) (h1 : 1 ≤ r) (h14 : r ≤ 14) (hcls : clsR r = 3) (hclj : clsJ r = 1) (B : Option Addr) (m d : Nat) (F : List Int) (A : Option Addr) (n c : Nat) (P : List (List Int)) (A2 : Option Addr) (n2 c2 : Nat) (Q : List (List Int)) (w : World) (hf : RdI w w.heap.size B m F) (h : RdQ w w.heap.size A n P) (h2 : RdQ w w.heap.size A2 n2 Q) (hm : m ≤ 1048576) (hnc : n ≤ c) (hnc2 : n2 ≤ c2) (hP : validQ P = true) (hQ : validQ Q = true) (hgrp : grpF (ruF r) (decide (0 < F.length)) (validB F) (ruI r) (i != 0) (ruJ r) (j != 0) = 2) :
    Calls Tryz.prog 53 #[.agg #[.slice A n c], .agg #[.slice A2 n2 c2], Value.agg #[Value.int .i64 r, Value.int .i64 a, Value.int .i64 b, Value.int .i64 i, Value.int .i64 j, Value.slice B m d]] w (GivesC w (cdB r i j F P Q)) := by
  have hl := h.len
  subst hl
  have hl2 := h2.len
  subst hl2
  have hlf := hf.1
  obtain ⟨u, hu0⟩ : ∃ u, u = ((w.alloc (.cells #[Value.slice A P.length c] 64)).alloc (.cells #[Value.slice A2 Q.length c2] 64)).alloc (.cells #[Value.int .i64 r, Value.int .i64 a, Value.int .i64 b, Value.int .i64 i, Value.int .i64 j, Value.slice B m d] 43) := ⟨_, rfl⟩
  obtain ⟨hb, p1, p2, p0, hsz⟩ := three_any w (.cells #[Value.slice A P.length c] 64) (.cells #[Value.slice A2 Q.length c2] 64) (.cells #[Value.int .i64 r, Value.int .i64 a, Value.int .i64 b, Value.int .i64 i, Value.int .i64 j, Value.slice B m d] 43)
  rw [← hu0] at hb p0 p1 p2 hsz
  have HKX : Hid (∀ wx, Below u.heap.size u wx → wx.cell? ⟨w.heap.size, 0, none⟩ = some (.slice A P.length c) ∧ wx.cell? ⟨w.heap.size + 1, 0, none⟩ = some (.slice A2 Q.length c2) ∧ wx.cell? ⟨w.heap.size + 1 + 1, 0, none⟩ = some (.int .i64 r) ∧ wx.cell? ⟨w.heap.size + 1 + 1, 3, none⟩ = some (.int .i64 i) ∧ wx.cell? ⟨w.heap.size + 1 + 1, 4, none⟩ = some (.int .i64 j) ∧ wx.cell? ⟨w.heap.size + 1 + 1, 5, none⟩ = some (.slice B m d)) := Lib.hid fun wx hx => by
    have g : ∀ k o, u.heap[k]? = some o → wx.heap[k]? = some o := fun k o h => (hx.block k (Array.getElem?_eq_some_iff.1 h).1).trans h
    exact ⟨cell_of_row _ _ 0 _ _ (0, 0) (g _ _ p1), cell_of_row _ _ 0 _ _ (0, 0) (g _ _ p2), cell_of_row _ _ 0 _ _ (0, 0) (g _ _ p0), cell_of_row _ _ 3 _ _ (0, 0) (g _ _ p0), cell_of_row _ _ 4 _ _ (0, 0) (g _ _ p0), cell_of_row _ _ 5 _ _ (0, 0) (g _ _ p0)⟩
  have HU0 := Lib.hid hu0; have HBU := Lib.hid hb
  have HPM := fun (wx : World) => premises_any wx r h1 h14
  have HPO := fun (wx : World) => positions_any wx r h1 h14
  have HUF := fun (wx : World) => usesForm_any wx r h1 h14
  have HRP := Lib.hid (fun (wx : World) (hx : Below u.heap.size u wx) => (h.below (hb.trans (hx.mono hb.size))).more (Nat.le_trans hb.size hx.size))
  have HRQ := Lib.hid (fun (wx : World) (hx : Below u.heap.size u wx) => (h2.below (hb.trans (hx.mono hb.size))).more (Nat.le_trans hb.size hx.size))
  have hlP := validQ_len hP
  have hlQ := validQ_len hQ
  have HVP := Lib.hid (fun (wx : World) (hx : Below u.heap.size u wx) => sValidSeq_any A P.length c P wx (HRP.out wx hx) (by omega) hnc)
  have HVQ := Lib.hid (fun (wx : World) (hx : Below u.heap.size u wx) => sValidSeq_any A2 Q.length c2 Q wx (HRQ.out wx hx) (by omega) hnc2)
  rw [hP] at HVP
  rw [hQ] at HVQ
  have HVF := Lib.hid (fun (wx : World) (hx : Below u.heap.size u wx) => sValidForm_any B m d F wx ((hf.below (hb.trans (hx.mono hb.size))).more (Nat.le_trans hb.size hx.size)))
  have HIP := Lib.hid (fun (wx : World) => sIsPos_any A P.length c i wx (by omega))
  have HJP := Lib.hid (fun (wx : World) => sIsPos_any A P.length c j wx (by omega))
  have HJQ := Lib.hid (fun (wx : World) => sIsPos_any A2 Q.length c2 j wx (by omega))
  have HPV := Lib.hid hP; have HQV := Lib.hid hQ
  have HE : Hid (cdB r i j F P Q = ((fitM (ruF r) (decide (0 < F.length)) (validB F) (ruI r) (i != 0) (ruJ r) (j != 0) && posM r i j P.length Q.length) && ctxB r i j P Q)) := Lib.hid (by unfold cdB; rw [fitM_is])
  have HPM2 : Hid (posM r i j P.length Q.length = ((!ruI r || posB i P.length) && (!ruJ r || posB j (if ruP r = 2 then Q.length else P.length)))) := Lib.hid rfl
  have hcl := ru_class r h1 h14
  have hck := cls_3 r h1 h14 hcls
  have hjj := clsJ_1 r hclj
  have hlp : decide ((0 : Int) < (m : Int)) = decide (0 < F.length) := by rw [hlf]; exact decide_eq_decide.2 (by omega)
  generalize ruP r = np at *; generalize ruK r = kp at *; generalize ruI r = x at *; generalize ruJ r = y at *; generalize ruF r = z at *
  have HJ := Lib.hid hjj
  clear hjj
  have HCK := Lib.hid hck
  clear hck
  generalize decide (0 < F.length) = lp at *
  generalize validB F = vb at *
  obtain ⟨bi, hbi⟩ : ∃ bi, (i != 0) = bi := ⟨_, rfl⟩
  obtain ⟨bj, hbj⟩ : ∃ bj, (j != 0) = bj := ⟨_, rfl⟩
  rw [hbi, hbj] at HE hgrp
  obtain ⟨ft, hft⟩ : ∃ ft, fitM z lp vb x bi y bj = ft := ⟨_, rfl⟩
  rw [hft] at HE
  have HFT := Lib.hid hft
  obtain ⟨e1, e2, e0, ei, ej, ef⟩ := HKX.out u (Below.refl _ _)
  clear hu0 hb p0 p1 p2 hsz h h2 hf hft hP hQ
  go_enter Tryz.func53, Tryz.ntmps53
  go_upto_region 1 with (fail)
  rw [← HU0.out]
  go_wp2_with (fail)
  refine (HPM u).mono ?_
  rintro e w0 ⟨rfl, rfl⟩
  have hnp0 : decide (np < 0) = false := decide_eq_false (by omega)
  go_upto_region 4 with (fail)
  go_cut [31] (fun t wx => t = .bool false ∧ Below u.heap.size u wx)
  case first =>
    have hnp : np = 0 ∨ np = 1 ∨ np = 2 := by rcases hcl with h | h | h | h | h <;> simp [h.1]
    clear hcl hgrp hlp hbi hbj hnp0 HE HPM2 HFT
    rcases hnp with rfl | rfl | rfl
    · go_wp2_with (fail)
      go_meet
      exact ⟨rfl, Below.refl _ _⟩
    · go_wp2_with (fail)
      refine (HVP.out u (Below.refl _ _)).mono ?_
      rintro e w1 ⟨rfl, b1⟩
      have HB1 := Lib.hid b1
      clear b1
      go_wp2_with (fail)
      go_meet
      exact ⟨rfl, HB1.out⟩
    · go_wp2_with (fail)
      refine (HVP.out u (Below.refl _ _)).mono ?_
      rintro e w1 ⟨rfl, b1⟩
      have HB1 := Lib.hid b1
      clear b1 e1 e2 e0 ei ej ef
      obtain ⟨e1, e2, e0, ei, ej, ef⟩ := HKX.out w1 HB1.out
      go_wp2_with (fail)
      refine (HVQ.out w1 HB1.out).mono ?_
      rintro e w2 ⟨rfl, b2⟩
      have HB2 := Lib.hid (HB1.out.trans (b2.mono HB1.out.size))
      clear b2
      go_wp2_with (fail)
      go_meet
      exact ⟨rfl, HB2.out⟩
  case rest =>
    obtain ⟨rfl, hcb⟩ := hcut
    rename World => w2
    have HB2 := Lib.hid hcb
    clear hcb hnp0 e1 e2 e0 ei ej ef
    obtain ⟨e1, e2, e0, ei, ej, ef⟩ := HKX.out w2 HB2.out
    go_wp2_with (fail)
    refine (HPO w2).mono ?_
    rintro e w0 ⟨rfl, rfl⟩
    go_upto_region 7 with (fail)
    go_cut [72] (fun t wx => t = .bool (!ft) ∧ Below u.heap.size u wx)
    case first =>
      have hxyc : (x = false ∧ y = false ∧ kp = 0 ∧ bi = true) ∨ (x = false ∧ y = false ∧ kp = 0 ∧ bi = false ∧ bj = true) ∨ (x = false ∧ y = false ∧ kp = 0 ∧ bi = false ∧ bj = false) ∨ (x = true ∧ y = false ∧ kp = 1 ∧ bj = true) ∨ (x = true ∧ y = false ∧ kp = 1 ∧ bj = false) ∨ (x = true ∧ y = true ∧ kp = 2) := by
        rcases hcl with ⟨-, rfl, rfl, rfl⟩ | ⟨-, rfl, rfl, rfl⟩ | ⟨-, rfl, rfl, rfl⟩ | ⟨-, rfl, rfl, rfl⟩ | ⟨-, rfl, rfl, rfl⟩ <;> cases bi <;> cases bj <;> simp
      have hmT : lp = true → 0 < m := fun e => by rw [e] at hlp; have := of_decide_eq_true hlp; omega
      have hmF : lp = false → m = 0 := fun e => by rw [e] at hlp; have := of_decide_eq_false hlp; omega
      clear hlp hlf hcl HE HPM2 HVP HVQ HIP HJP HJQ HRP HRQ HPM HPO
      have hfc := fit_cases z lp vb
      have hz : z = false := HCK.out.1
      rcases hfc with ⟨rfl, rfl⟩ | ⟨rfl, rfl⟩ | ⟨rfl, rfl, rfl⟩ | h4
      · cases hz
      · exact absurd (show (0 : Nat) = 2 from hgrp) (by decide)
      · cases hz
      · rcases h4 with ⟨rfl, rfl, rfl⟩ | ⟨rfl, rfl⟩
        · cases hz
        · obtain rfl := hmF rfl
          clear hmT hmF
          rcases hxyc with ⟨rfl, rfl, rfl, rfl⟩ | ⟨rfl, rfl, rfl, rfl, rfl⟩ | ⟨rfl, rfl, rfl, rfl, rfl⟩ | ⟨rfl, rfl, rfl, rfl⟩ | ⟨rfl, rfl, rfl, rfl⟩ | ⟨rfl, rfl, rfl⟩
          · exact absurd HJ.out (by decide)
          · exact absurd HJ.out (by decide)
          · exact absurd HJ.out (by decide)
          · exact absurd HJ.out (by decide)
          · exact absurd HJ.out (by decide)
          · have hE : ft = true := by rw [← HFT.out]; simp [fitM]
            subst hE
            clear HFT
            clear hgrp
            have FB_0 := Lib.hid (Below.refl w2.heap.size w2)
            go_upto_region 7 with (fail)
            refine wp_region_held_drew (S := fun wx => wx.cell? ⟨w.heap.size, 0, none⟩ = some (.slice A P.length c) ∧ wx.cell? ⟨w.heap.size + 1, 0, none⟩ = some (.slice A2 Q.length c2) ∧ wx.cell? ⟨w.heap.size + 1 + 1, 0, none⟩ = some (.int .i64 r) ∧ wx.cell? ⟨w.heap.size + 1 + 1, 3, none⟩ = some (.int .i64 i) ∧ wx.cell? ⟨w.heap.size + 1 + 1, 4, none⟩ = some (.int .i64 j) ∧ wx.cell? ⟨w.heap.size + 1 + 1, 5, none⟩ = some (.slice B 0 d)) (by kernel_rfl) ⟨e1, e2, e0, ei, ej, ef⟩ (fun hHeld => ?_)
            obtain ⟨wqfx1, hwqfx1⟩ : ∃ w', w' = w2.drew := ⟨_, rfl⟩
            rw [← hwqfx1] at hHeld ⊢
            have bqfx1 : Below w2.heap.size w2 wqfx1 := by rw [hwqfx1]; exact (Below.refl _ _).drew
            clear hwqfx1
            have FB_qfx2 := Lib.hid ((FB_0.out).trans ((bqfx1).mono (FB_0.out).size))
            clear FB_0
            refine tk (i := 0) (h := ?_)
            (try simp only [Act.put, setIfInBounds_toArray, set_cons_zero, set_cons_succ, getElem_toArray, getElem_cons_succ, getElem_cons_zero])
            refine tk (i := 3) (h := ?_)
            (try simp only [Act.put, setIfInBounds_toArray, set_cons_zero, set_cons_succ, getElem_toArray, getElem_cons_succ, getElem_cons_zero])
            refine tk (i := 1) (h := ?_)
            (try simp only [Act.put, setIfInBounds_toArray, set_cons_zero, set_cons_succ, getElem_toArray, getElem_cons_succ, getElem_cons_zero])
            refine tk (i := 4) (h := ?_)
            (try simp only [Act.put, setIfInBounds_toArray, set_cons_zero, set_cons_succ, getElem_toArray, getElem_cons_succ, getElem_cons_zero])
            refine tk (i := 5) (h := ?_)
            (try simp only [Act.put, setIfInBounds_toArray, set_cons_zero, set_cons_succ, getElem_toArray, getElem_cons_succ, getElem_cons_zero])
            refine tk (i := 6) (h := ?_)
            (try simp only [Act.put, setIfInBounds_toArray, set_cons_zero, set_cons_succ, getElem_toArray, getElem_cons_succ, getElem_cons_zero])
            refine t1 (i := 2) (h := fun K hK => ?_)
            go_simp
            refine (HUF wqfx1).mono ?_
            rintro e wqfx9 ⟨rfl, rfl⟩
            dsimp only
            refine hK.out _ _ (hHeld) (fun hHeld => ?_)
            clear hK K
            (try simp only [Act.put, setIfInBounds_toArray, set_cons_zero, set_cons_succ, getElem_toArray, getElem_cons_succ, getElem_cons_zero])
            refine tk (i := 7) (h := ?_)
            (try simp only [Act.put, setIfInBounds_toArray, set_cons_zero, set_cons_succ, getElem_toArray, getElem_cons_succ, getElem_cons_zero])
            refine tk (i := 8) (h := ?_)
            (try simp only [Act.put, setIfInBounds_toArray, set_cons_zero, set_cons_succ, getElem_toArray, getElem_cons_succ, getElem_cons_zero])
            refine tk (i := 9) (h := ?_)
            (try simp only [Act.put, setIfInBounds_toArray, set_cons_zero, set_cons_succ, getElem_toArray, getElem_cons_succ, getElem_cons_zero])
            refine tk (i := 10) (h := ?_)
            (try simp only [Act.put, setIfInBounds_toArray, set_cons_zero, set_cons_succ, getElem_toArray, getElem_cons_succ, getElem_cons_zero])
            refine tk (i := 11) (h := ?_)
            (try simp only [Act.put, setIfInBounds_toArray, set_cons_zero, set_cons_succ, getElem_toArray, getElem_cons_succ, getElem_cons_zero])
            refine tk (i := 12) (h := ?_)
            (try simp only [Act.put, setIfInBounds_toArray, set_cons_zero, set_cons_succ, getElem_toArray, getElem_cons_succ, getElem_cons_zero])
            refine tk (i := 13) (h := ?_)
            (try simp only [Act.put, setIfInBounds_toArray, set_cons_zero, set_cons_succ, getElem_toArray, getElem_cons_succ, getElem_cons_zero])
            refine tn (i := 14) (h := ?_)
            (try simp only [Act.put, setIfInBounds_toArray, set_cons_zero, set_cons_succ, getElem_toArray, getElem_cons_succ, getElem_cons_zero])
            refine tn (i := 15) (h := ?_)
            (try simp only [Act.put, setIfInBounds_toArray, set_cons_zero, set_cons_succ, getElem_toArray, getElem_cons_succ, getElem_cons_zero])
            refine tn (i := 16) (h := ?_)
            (try simp only [Act.put, setIfInBounds_toArray, set_cons_zero, set_cons_succ, getElem_toArray, getElem_cons_succ, getElem_cons_zero])
            refine tn (i := 17) (h := ?_)
            (try simp only [Act.put, setIfInBounds_toArray, set_cons_zero, set_cons_succ, getElem_toArray, getElem_cons_succ, getElem_cons_zero])
            refine tk (i := 18) (h := ?_)
            (try simp only [Act.put, setIfInBounds_toArray, set_cons_zero, set_cons_succ, getElem_toArray, getElem_cons_succ, getElem_cons_zero])
            refine tk (i := 19) (h := ?_)
            (try simp only [Act.put, setIfInBounds_toArray, set_cons_zero, set_cons_succ, getElem_toArray, getElem_cons_succ, getElem_cons_zero])
            refine tk (i := 20) (h := ?_)
            (try simp only [Act.put, setIfInBounds_toArray, set_cons_zero, set_cons_succ, getElem_toArray, getElem_cons_succ, getElem_cons_zero])
            refine tk (i := 21) (h := ?_)
            (try simp only [Act.put, setIfInBounds_toArray, set_cons_zero, set_cons_succ, getElem_toArray, getElem_cons_succ, getElem_cons_zero])
            refine tk (i := 22) (h := ?_)
            (try simp only [Act.put, setIfInBounds_toArray, set_cons_zero, set_cons_succ, getElem_toArray, getElem_cons_succ, getElem_cons_zero])
            refine tk (i := 23) (h := ?_)
            (try simp only [Act.put, setIfInBounds_toArray, set_cons_zero, set_cons_succ, getElem_toArray, getElem_cons_succ, getElem_cons_zero])
            refine tn (i := 24) (h := ?_)
            (try simp only [Act.put, setIfInBounds_toArray, set_cons_zero, set_cons_succ, getElem_toArray, getElem_cons_succ, getElem_cons_zero])
            refine tn (i := 25) (h := ?_)
            (try simp only [Act.put, setIfInBounds_toArray, set_cons_zero, set_cons_succ, getElem_toArray, getElem_cons_succ, getElem_cons_zero])
            refine tn (i := 26) (h := ?_)
            (try simp only [Act.put, setIfInBounds_toArray, set_cons_zero, set_cons_succ, getElem_toArray, getElem_cons_succ, getElem_cons_zero])
            refine tk (i := 27) (h := ?_)
            (try simp only [Act.put, setIfInBounds_toArray, set_cons_zero, set_cons_succ, getElem_toArray, getElem_cons_succ, getElem_cons_zero])
            refine tk (i := 28) (h := ?_)
            (try simp only [Act.put, setIfInBounds_toArray, set_cons_zero, set_cons_succ, getElem_toArray, getElem_cons_succ, getElem_cons_zero])
            refine tk (i := 29) (h := ?_)
            (try simp only [Act.put, setIfInBounds_toArray, set_cons_zero, set_cons_succ, getElem_toArray, getElem_cons_succ, getElem_cons_zero])
            refine tk (i := 30) (h := ?_)
            (try simp only [Act.put, setIfInBounds_toArray, set_cons_zero, set_cons_succ, getElem_toArray, getElem_cons_succ, getElem_cons_zero])
            refine tk (i := 31) (h := ?_)
            (try simp only [Act.put, setIfInBounds_toArray, set_cons_zero, set_cons_succ, getElem_toArray, getElem_cons_succ, getElem_cons_zero])
            refine tk (i := 32) (h := ?_)
            (try simp only [Act.put, setIfInBounds_toArray, set_cons_zero, set_cons_succ, getElem_toArray, getElem_cons_succ, getElem_cons_zero])
            refine tn (i := 33) (h := ?_)
            (try simp only [Act.put, setIfInBounds_toArray, set_cons_zero, set_cons_succ, getElem_toArray, getElem_cons_succ, getElem_cons_zero])
            refine tn (i := 34) (h := ?_)
            (try simp only [Act.put, setIfInBounds_toArray, set_cons_zero, set_cons_succ, getElem_toArray, getElem_cons_succ, getElem_cons_zero])
            refine tn (i := 35) (h := ?_)
            (try simp only [Act.put, setIfInBounds_toArray, set_cons_zero, set_cons_succ, getElem_toArray, getElem_cons_succ, getElem_cons_zero])
            refine tk (i := 36) (h := ?_)
            (try simp only [Act.put, setIfInBounds_toArray, set_cons_zero, set_cons_succ, getElem_toArray, getElem_cons_succ, getElem_cons_zero])
            refine tk (i := 37) (h := ?_)
            (try simp only [Act.put, setIfInBounds_toArray, set_cons_zero, set_cons_succ, getElem_toArray, getElem_cons_succ, getElem_cons_zero])
            refine wpAnyH_done (by kernel_rfl) ?_ _
            go_wp2_with (fail)
            go_meet
            exact ⟨rfl, HB2.out.trans (FB_qfx2.out.mono HB2.out.size)⟩
    case rest =>
      obtain ⟨rfl, hcb⟩ := hcut
      rename World => w3
      have HB3 := Lib.hid hcb
      clear hgrp hcb e1 e2 e0 ei ej ef HUF HVF HVP HVQ HPM HPO hlp hlf HFT
      obtain ⟨e1, e2, e0, ei, ej, ef⟩ := HKX.out w3 HB3.out
      cases ft with
      | false =>
        go_wp2
        go_ret
        exact gc_no (k := 3) (by decide) (by rw [HE.out]; rfl) (HBU.out.trans (HB3.out.mono HBU.out.size))
      | true =>
        obtain ⟨pm, hpm⟩ : ∃ pm, posM r i j P.length Q.length = pm := ⟨_, rfl⟩
        have HPM3 := Lib.hid hpm
        rw [hpm] at HE HPM2
        go_upto_region 9 with (fail)
        go_cut [111] (fun t wx => t = .bool (!pm) ∧ Below u.heap.size u wx)
        case first =>
          have hxx : (x = false ∧ y = false ∧ kp = 0) ∨ (x = true ∧ y = false ∧ kp = 1) ∨ (x = true ∧ y = true ∧ kp = 2 ∧ np = 1) ∨ (x = true ∧ y = true ∧ kp = 2 ∧ np = 2) := by
            rcases hcl with ⟨rfl, rfl, rfl, rfl⟩ | ⟨rfl, rfl, rfl, rfl⟩ | ⟨rfl, rfl, rfl, rfl⟩ | ⟨rfl, rfl, rfl, rfl⟩ | ⟨rfl, rfl, rfl, rfl⟩ <;> simp
          clear hcl HE HPM3 hpm
          generalize posB i P.length = p1 at *
          rcases hxx with ⟨rfl, rfl, rfl⟩ | ⟨rfl, rfl, rfl⟩ | ⟨rfl, rfl, rfl, rfl⟩ | ⟨rfl, rfl, rfl, rfl⟩
          · exact absurd HJ.out (by decide)
          · exact absurd HJ.out (by decide)
          · have hE : pm = (p1 && posB j P.length) := by rw [HPM2.out]; simp
            generalize posB j P.length = p2 at *
            subst hE
            go_wp2_with (fail)
            refine (HIP.out w3).mono ?_
            rintro e w4 ⟨rfl, b4⟩
            have HB4 := Lib.hid (HB3.out.trans (b4.mono HB3.out.size))
            clear b4 HPM2 e1 e2 e0 ei ej ef
            obtain ⟨e1, e2, e0, ei, ej, ef⟩ := HKX.out w4 HB4.out
            cases p1 with
            | false =>
              go_wp2_with (fail)
              go_meet
              exact ⟨rfl, HB4.out⟩
            | true =>
              go_wp2_with (fail)
              refine (HJP.out w4).mono ?_
              rintro e w5 ⟨rfl, b5⟩
              have HB5 := Lib.hid (HB4.out.trans (b5.mono HB4.out.size))
              clear b5
              cases p2
              all_goals go_wp2_with (fail)
              all_goals go_meet
              all_goals exact ⟨rfl, HB5.out⟩
          · exact absurd rfl HCK.out.2
        case rest =>
          obtain ⟨rfl, hcb⟩ := hcut
          rename World => w5
          have HB5 := Lib.hid hcb
          clear hcb e1 e2 e0 ei ej ef HIP HJP HJQ
          obtain ⟨e1, e2, e0, ei, ej, ef⟩ := HKX.out w5 HB5.out
          cases pm with
          | false =>
            go_wp2
            go_ret
            exact gc_no (k := 4) (by decide) (by rw [HE.out]; rfl) (HBU.out.trans (HB5.out.mono HBU.out.size))
          | true =>
            have HE2 : Hid (cdB r i j F P Q = ctxB r i j P Q) := Lib.hid (by rw [HE.out]; rfl)
            have HRX := Lib.hid (HRP.out w5 HB5.out); have HRY := Lib.hid (HRQ.out w5 HB5.out)
            have HVX : Hid (∀ q ∈ P, validB q = true) := Lib.hid fun q hq => validQ_mem HPV.out hq
            have HVY : Hid (∀ q ∈ Q, validB q = true) := Lib.hid fun q hq => validQ_mem HQV.out hq
            have HEND : Hid (∀ wx, Below u.heap.size u wx → Below w.heap.size w wx) := Lib.hid fun wx hx => HBU.out.trans (hx.mono HBU.out.size)
            clear hbi hbj HPM2 hpm hcl HE HRP HRQ
            by_cases r4 : r = 4
            · subst r4
              obtain ⟨ii, rfl, hii⟩ := posM_I HPM3.out rfl
              obtain ⟨jj, rfl, hjj⟩ := posM_J1 HPM3.out rfl rfl
              have he := ii_same (a := ii) (b := jj)
              by_cases hij : ii = jj
              · have HN : Hid (cdB 4 ii jj F P Q = false) := Lib.hid (by rw [HE2.out]; exact decide_eq_false (fun h => h (by rw [hij])))
                rw [decide_eq_true hij] at he
                clear HPM3 hij hii hjj
                go_wp2
                go_ret
                exact gc_no (k := 4) (by decide) HN.out (HEND.out _ HB5.out)
              · have HN : Hid (cdB 4 ii jj F P Q = true) := Lib.hid (by rw [HE2.out]; exact decide_eq_true (by omega))
                rw [decide_eq_false hij] at he
                clear HPM3 hij hii hjj
                go_wp2
                go_ret
                exact gc_yes HN.out (HEND.out _ HB5.out)
            · by_cases r14 : r = 14
              · subst r14
                obtain ⟨ii, rfl, hii⟩ := posM_I HPM3.out rfl
                obtain ⟨jj, rfl, hjj⟩ := posM_J1 HPM3.out rfl rfl
                by_cases hij : jj ≤ ii
                · have HN : Hid (cdB 14 ii jj F P Q = false) := Lib.hid (by rw [HE2.out]; exact decide_eq_false (by omega))
                  have hd : decide ((jj : Int) ≤ (ii : Int)) = true := decide_eq_true (by omega)
                  clear HPM3 hii hjj r4
                  go_wp2
                  go_ret
                  exact gc_no (k := 4) (by decide) HN.out (HEND.out _ HB5.out)
                · have HN : Hid (cdB 14 ii jj F P Q = true) := Lib.hid (by rw [HE2.out]; exact decide_eq_true (by omega))
                  have hd : decide ((jj : Int) ≤ (ii : Int)) = false := decide_eq_false (by omega)
                  clear HPM3 hii hjj r4
                  go_wp2
                  go_ret
                  exact gc_yes HN.out (HEND.out _ HB5.out)
              · have q4 : (r == 4) = false := beq_eq_false_iff_ne.2 r4
                have q14 : (r == 14) = false := beq_eq_false_iff_ne.2 r14
                by_cases r2 : r = 2
                · clear q4 q14 r4 r14
                  subst r2
                  exact absurd hcls (by decide)
                · by_cases r13 : r = 13
                  · clear q4 q14 r4 r14 r2
                    subst r13
                    obtain ⟨ii, rfl, hii⟩ := posM_I HPM3.out rfl
                    obtain ⟨jj, rfl, hjj⟩ := posM_J1 HPM3.out rfl rfl
                    have he := ii_same (a := ii) (b := jj)
                    by_cases hij : ii = jj
                    · have HN : Hid (cdB 13 ii jj F P Q = false) := Lib.hid (by rw [HE2.out]; show (decide (((ii : Nat) : Int) ≠ (jj : Int)) && _) = false; rw [decide_eq_false (fun h => h (by rw [hij]))]; rfl)
                      rw [decide_eq_true hij] at he
                      clear HPM3 hij hii hjj
                      go_wp2
                      go_ret
                      exact gc_no (k := 4) (by decide) HN.out (HEND.out _ HB5.out)
                    · have HCX0 : Hid (cdB 13 ii jj F P Q = decide (P.getD ii [] = P.getD jj [] ∧ opOf (P.getD ii []) = 18)) := Lib.hid (by rw [HE2.out]; show (decide (((ii : Nat) : Int) ≠ (jj : Int)) && decide (P.getD ((ii : Nat) : Int).toNat [] = P.getD ((jj : Nat) : Int).toNat [] ∧ opOf (P.getD ((ii : Nat) : Int).toNat []) = 18)) = _; rw [decide_eq_true (by omega), Int.toNat_natCast, Int.toNat_natCast]; rfl)
                      rw [decide_eq_false hij] at he
                      obtain ⟨bp, op, rfl, hbp, hatP⟩ := HRX.out.2 (by omega)
                      obtain ⟨Ai, ci, hci, hcci, rdi⟩ := hatP ii hii
                      have HVI := Lib.hid (HVX.out _ (getD_mem hii))
                      obtain ⟨Pi, hPi⟩ : ∃ Pi, P.getD ii [] = Pi := ⟨_, rfl⟩
                      rw [hPi] at hci hcci rdi HVI
                      have HPI := Lib.hid hPi; have HCI := Lib.hid hci; have HRI := Lib.hid rdi; have HBP := Lib.hid hbp
                      obtain ⟨Aj, cj, hcj, hccj, rdj⟩ := hatP jj hjj
                      have HVJ := Lib.hid (HVX.out _ (getD_mem hjj))
                      obtain ⟨Qj, hQj⟩ : ∃ Qj, P.getD jj [] = Qj := ⟨_, rfl⟩
                      rw [hQj] at hcj hccj rdj HVJ
                      have HQJ := Lib.hid hQj; have HCJ := Lib.hid hcj; have HRJ := Lib.hid rdj
                      have hlI := valid_len HVI.out
                      have hpI : 0 < Pi.length := by omega
                      obtain ⟨bi, oi, rfl, hbi9, hatI⟩ := rdi.2 (by omega)
                      have hc0 := hatI 0 (by omega)
                      rw [Nat.add_zero] at hc0
                      obtain ⟨hd, hhd⟩ : ∃ hd, Pi.getD 0 0 = hd := ⟨_, rfl⟩
                      rw [hhd] at hc0
                      have HC0 := Lib.hid hc0; have HBI := Lib.hid hbi9
                      have HLI : Hid (Pi.length ≤ 1048576 ∧ Qj.length ≤ 1048576) := Lib.hid (by have h2 := valid_len HVJ.out; omega)
                      have HSX : Hid (∀ wx, Below w5.heap.size w5 wx → wx.cell? ⟨w.heap.size, 0, none⟩ = some (.slice (some ⟨bp, op, none⟩) P.length c) ∧ wx.cell? ⟨w.heap.size + 1 + 1, 3, none⟩ = some (.int .i64 ((ii : Nat) : Int)) ∧ wx.cell? ⟨w.heap.size + 1 + 1, 4, none⟩ = some (.int .i64 ((jj : Nat) : Int)) ∧ wx.cell? ⟨bp, op + ii, none⟩ = some (.slice (some ⟨bi, oi, none⟩) Pi.length ci) ∧ wx.cell? ⟨bp, op + jj, none⟩ = some (.slice Aj Qj.length cj) ∧ wx.cell? ⟨bi, oi, none⟩ = some (.int .i64 hd)) := Lib.hid fun wx hx => by
                        obtain ⟨e1, e2, e0, ei, ej, ef⟩ := HKX.out wx (HB5.out.trans (hx.mono HB5.out.size))
                        exact ⟨e1, ei, ej, (hx.cell (p := ⟨bp, op + ii, none⟩) HBP.out).trans HCI.out, (hx.cell (p := ⟨bp, op + jj, none⟩) HBP.out).trans HCJ.out, (hx.cell (p := ⟨bi, oi, none⟩) HBI.out).trans HC0.out⟩
                      have HSI := Lib.hid (fun (wx : World) (hx : Below w5.heap.size w5 wx) => sameInts_any (some ⟨bi, oi, none⟩) Aj Pi.length Qj.length ci cj Pi Qj wx ((HRI.out.below hx).more hx.size) ((HRJ.out.below hx).more hx.size) HLI.out.1 HLI.out.2)
                      unfold Same at HSI
                      obtain ⟨b3, hb3⟩ : ∃ b3, (hd != 18) = b3 := ⟨_, rfl⟩
                      have HCX : Hid (cdB 13 ii jj F P Q = (decide (Pi = Qj) && !b3)) := Lib.hid (by rw [HCX0.out, HPI.out, HQJ.out, Bool.decide_and]; congr 1; rw [← hb3, ← hhd]; rw [Bool.eq_iff_iff]; simp only [decide_eq_true_eq, Bool.not_eq_true', bne_eq_false_iff_eq]; exact op18 HVI.out)
                      generalize decide (Pi = Qj) = bb at *
                      generalize cdB 13 ii jj F P Q = V at *
                      clear hPi hQj hci hcj rdi rdj hbp hatP hcci hccj HPM3 HE2 HVX HVY HRX HRY HCX0 hij hatI hc0 hbi9 hhd hlI
                      cases bb with
                      | false =>
                        have FB_0 := Lib.hid (Below.refl w5.heap.size w5)
                        go_upto_region 24 with (fail)
                        clear e1 e2 e0 ei ej ef
                        refine wp_region_held_drew (S := fun wx => wx.cell? ⟨w.heap.size, 0, none⟩ = some (.slice (some ⟨bp, op, none⟩) P.length c) ∧ wx.cell? ⟨w.heap.size + 1 + 1, 3, none⟩ = some (.int .i64 ((ii : Nat) : Int)) ∧ wx.cell? ⟨w.heap.size + 1 + 1, 4, none⟩ = some (.int .i64 ((jj : Nat) : Int)) ∧ wx.cell? ⟨bp, op + ii, none⟩ = some (.slice (some ⟨bi, oi, none⟩) Pi.length ci) ∧ wx.cell? ⟨bp, op + jj, none⟩ = some (.slice Aj Qj.length cj) ∧ wx.cell? ⟨bi, oi, none⟩ = some (.int .i64 hd)) (by kernel_rfl) (HSX.out _ (Below.refl _ _).drew) (fun hHeld => ?_)
                        obtain ⟨wsdx1, hwsdx1⟩ : ∃ w', w' = w5.drew := ⟨_, rfl⟩
                        rw [← hwsdx1] at hHeld ⊢
                        have bsdx1 : Below w5.heap.size w5 wsdx1 := by rw [hwsdx1]; exact (Below.refl _ _).drew
                        clear hwsdx1
                        have FB_sdx2 := Lib.hid ((FB_0.out).trans ((bsdx1).mono (FB_0.out).size))
                        clear FB_0
                        refine tk (i := 0) (h := ?_)
                        (try simp only [Act.put, setIfInBounds_toArray, set_cons_zero, set_cons_succ, getElem_toArray, getElem_cons_succ, getElem_cons_zero])
                        refine tk (i := 2) (h := ?_)
                        (try simp only [Act.put, setIfInBounds_toArray, set_cons_zero, set_cons_succ, getElem_toArray, getElem_cons_succ, getElem_cons_zero])
                        refine tk (i := 6) (h := ?_)
                        (try simp only [Act.put, setIfInBounds_toArray, set_cons_zero, set_cons_succ, getElem_toArray, getElem_cons_succ, getElem_cons_zero])
                        refine tk (i := 8) (h := ?_)
                        (try simp only [Act.put, setIfInBounds_toArray, set_cons_zero, set_cons_succ, getElem_toArray, getElem_cons_succ, getElem_cons_zero])
                        refine tk (i := 1) (h := ?_)
                        (try simp only [Act.put, setIfInBounds_toArray, set_cons_zero, set_cons_succ, getElem_toArray, getElem_cons_succ, getElem_cons_zero])
                        refine tk (i := 3) (h := ?_)
                        (try simp only [Act.put, setIfInBounds_toArray, set_cons_zero, set_cons_succ, getElem_toArray, getElem_cons_succ, getElem_cons_zero])
                        refine tk (i := 7) (h := ?_)
                        (try simp only [Act.put, setIfInBounds_toArray, set_cons_zero, set_cons_succ, getElem_toArray, getElem_cons_succ, getElem_cons_zero])
                        refine tk (i := 9) (h := ?_)
                        (try simp only [Act.put, setIfInBounds_toArray, set_cons_zero, set_cons_succ, getElem_toArray, getElem_cons_succ, getElem_cons_zero])
                        refine tk (i := 4) (h := ?_)
                        (try simp only [Act.put, setIfInBounds_toArray, set_cons_zero, set_cons_succ, getElem_toArray, getElem_cons_succ, getElem_cons_zero])
                        refine tk (i := 10) (h := ?_)
                        (try simp only [Act.put, setIfInBounds_toArray, set_cons_zero, set_cons_succ, getElem_toArray, getElem_cons_succ, getElem_cons_zero])
                        refine tk (i := 5) (h := ?_)
                        (try simp only [Act.put, setIfInBounds_toArray, set_cons_zero, set_cons_succ, getElem_toArray, getElem_cons_succ, getElem_cons_zero])
                        refine tk (i := 11) (h := ?_)
                        (try simp only [Act.put, setIfInBounds_toArray, set_cons_zero, set_cons_succ, getElem_toArray, getElem_cons_succ, getElem_cons_zero])
                        refine t1 (i := 12) (h := fun K hK => ?_)
                        go_simp
                        refine (HSI.out wsdx1 FB_sdx2.out).mono ?_
                        rintro e wsdx15 ⟨rfl, belsdx15⟩
                        dsimp only
                        have FB_sdx16 := Lib.hid ((FB_sdx2.out).trans ((belsdx15).mono (FB_sdx2.out).size))
                        clear FB_sdx2
                        clear belsdx15
                        refine hK.out _ _ (HSX.out _ FB_sdx16.out) (fun hHeld => ?_)
                        clear hK K
                        (try simp only [Act.put, setIfInBounds_toArray, set_cons_zero, set_cons_succ, getElem_toArray, getElem_cons_succ, getElem_cons_zero])
                        refine tk (i := 13) (h := ?_)
                        (try simp only [Act.put, setIfInBounds_toArray, set_cons_zero, set_cons_succ, getElem_toArray, getElem_cons_succ, getElem_cons_zero])
                        refine tk (i := 14) (h := ?_)
                        (try simp only [Act.put, setIfInBounds_toArray, set_cons_zero, set_cons_succ, getElem_toArray, getElem_cons_succ, getElem_cons_zero])
                        refine tn (i := 15) (h := ?_)
                        (try simp only [Act.put, setIfInBounds_toArray, set_cons_zero, set_cons_succ, getElem_toArray, getElem_cons_succ, getElem_cons_zero])
                        refine tn (i := 17) (h := ?_)
                        (try simp only [Act.put, setIfInBounds_toArray, set_cons_zero, set_cons_succ, getElem_toArray, getElem_cons_succ, getElem_cons_zero])
                        refine tn (i := 16) (h := ?_)
                        (try simp only [Act.put, setIfInBounds_toArray, set_cons_zero, set_cons_succ, getElem_toArray, getElem_cons_succ, getElem_cons_zero])
                        refine tn (i := 18) (h := ?_)
                        (try simp only [Act.put, setIfInBounds_toArray, set_cons_zero, set_cons_succ, getElem_toArray, getElem_cons_succ, getElem_cons_zero])
                        refine tn (i := 19) (h := ?_)
                        (try simp only [Act.put, setIfInBounds_toArray, set_cons_zero, set_cons_succ, getElem_toArray, getElem_cons_succ, getElem_cons_zero])
                        refine tn (i := 20) (h := ?_)
                        (try simp only [Act.put, setIfInBounds_toArray, set_cons_zero, set_cons_succ, getElem_toArray, getElem_cons_succ, getElem_cons_zero])
                        refine tn (i := 21) (h := ?_)
                        (try simp only [Act.put, setIfInBounds_toArray, set_cons_zero, set_cons_succ, getElem_toArray, getElem_cons_succ, getElem_cons_zero])
                        refine tn (i := 22) (h := ?_)
                        (try simp only [Act.put, setIfInBounds_toArray, set_cons_zero, set_cons_succ, getElem_toArray, getElem_cons_succ, getElem_cons_zero])
                        refine tn (i := 23) (h := ?_)
                        (try simp only [Act.put, setIfInBounds_toArray, set_cons_zero, set_cons_succ, getElem_toArray, getElem_cons_succ, getElem_cons_zero])
                        refine tk (i := 24) (h := ?_)
                        (try simp only [Act.put, setIfInBounds_toArray, set_cons_zero, set_cons_succ, getElem_toArray, getElem_cons_succ, getElem_cons_zero])
                        refine wpAnyH_done (by kernel_rfl) ?_ _
                        have HB9 := Lib.hid (HEND.out _ (HB5.out.trans (FB_sdx16.out.mono HB5.out.size)))
                        have HN : Hid (V = false) := Lib.hid (by rw [HCX.out]; rfl)
                        clear HSX
                        go_wp2
                        go_ret
                        exact gc_no (k := 5) (by decide) HN.out HB9.out
                      | true =>
                        have FB_0 := Lib.hid (Below.refl w5.heap.size w5)
                        go_upto_region 24 with (fail)
                        clear e1 e2 e0 ei ej ef
                        refine wp_region_held_drew (S := fun wx => wx.cell? ⟨w.heap.size, 0, none⟩ = some (.slice (some ⟨bp, op, none⟩) P.length c) ∧ wx.cell? ⟨w.heap.size + 1 + 1, 3, none⟩ = some (.int .i64 ((ii : Nat) : Int)) ∧ wx.cell? ⟨w.heap.size + 1 + 1, 4, none⟩ = some (.int .i64 ((jj : Nat) : Int)) ∧ wx.cell? ⟨bp, op + ii, none⟩ = some (.slice (some ⟨bi, oi, none⟩) Pi.length ci) ∧ wx.cell? ⟨bp, op + jj, none⟩ = some (.slice Aj Qj.length cj) ∧ wx.cell? ⟨bi, oi, none⟩ = some (.int .i64 hd)) (by kernel_rfl) (HSX.out _ (Below.refl _ _).drew) (fun hHeld => ?_)
                        obtain ⟨wtex1, hwtex1⟩ : ∃ w', w' = w5.drew := ⟨_, rfl⟩
                        rw [← hwtex1] at hHeld ⊢
                        have btex1 : Below w5.heap.size w5 wtex1 := by rw [hwtex1]; exact (Below.refl _ _).drew
                        clear hwtex1
                        have FB_tex2 := Lib.hid ((FB_0.out).trans ((btex1).mono (FB_0.out).size))
                        clear FB_0
                        refine tk (i := 0) (h := ?_)
                        (try simp only [Act.put, setIfInBounds_toArray, set_cons_zero, set_cons_succ, getElem_toArray, getElem_cons_succ, getElem_cons_zero])
                        refine tk (i := 2) (h := ?_)
                        (try simp only [Act.put, setIfInBounds_toArray, set_cons_zero, set_cons_succ, getElem_toArray, getElem_cons_succ, getElem_cons_zero])
                        refine tk (i := 6) (h := ?_)
                        (try simp only [Act.put, setIfInBounds_toArray, set_cons_zero, set_cons_succ, getElem_toArray, getElem_cons_succ, getElem_cons_zero])
                        refine tk (i := 8) (h := ?_)
                        (try simp only [Act.put, setIfInBounds_toArray, set_cons_zero, set_cons_succ, getElem_toArray, getElem_cons_succ, getElem_cons_zero])
                        refine tk (i := 1) (h := ?_)
                        (try simp only [Act.put, setIfInBounds_toArray, set_cons_zero, set_cons_succ, getElem_toArray, getElem_cons_succ, getElem_cons_zero])
                        refine tk (i := 3) (h := ?_)
                        (try simp only [Act.put, setIfInBounds_toArray, set_cons_zero, set_cons_succ, getElem_toArray, getElem_cons_succ, getElem_cons_zero])
                        refine tk (i := 7) (h := ?_)
                        (try simp only [Act.put, setIfInBounds_toArray, set_cons_zero, set_cons_succ, getElem_toArray, getElem_cons_succ, getElem_cons_zero])
                        refine tk (i := 9) (h := ?_)
                        (try simp only [Act.put, setIfInBounds_toArray, set_cons_zero, set_cons_succ, getElem_toArray, getElem_cons_succ, getElem_cons_zero])
                        refine tk (i := 4) (h := ?_)
                        (try simp only [Act.put, setIfInBounds_toArray, set_cons_zero, set_cons_succ, getElem_toArray, getElem_cons_succ, getElem_cons_zero])
                        refine tk (i := 10) (h := ?_)
                        (try simp only [Act.put, setIfInBounds_toArray, set_cons_zero, set_cons_succ, getElem_toArray, getElem_cons_succ, getElem_cons_zero])
                        refine tk (i := 5) (h := ?_)
                        (try simp only [Act.put, setIfInBounds_toArray, set_cons_zero, set_cons_succ, getElem_toArray, getElem_cons_succ, getElem_cons_zero])
                        refine tk (i := 11) (h := ?_)
                        (try simp only [Act.put, setIfInBounds_toArray, set_cons_zero, set_cons_succ, getElem_toArray, getElem_cons_succ, getElem_cons_zero])
                        refine t1 (i := 12) (h := fun K hK => ?_)
                        go_simp
                        refine (HSI.out wtex1 FB_tex2.out).mono ?_
                        rintro e wtex15 ⟨rfl, beltex15⟩
                        dsimp only
                        have FB_tex16 := Lib.hid ((FB_tex2.out).trans ((beltex15).mono (FB_tex2.out).size))
                        clear FB_tex2
                        clear beltex15
                        refine hK.out _ _ (HSX.out _ FB_tex16.out) (fun hHeld => ?_)
                        clear hK K
                        (try simp only [Act.put, setIfInBounds_toArray, set_cons_zero, set_cons_succ, getElem_toArray, getElem_cons_succ, getElem_cons_zero])
                        refine tk (i := 13) (h := ?_)
                        (try simp only [Act.put, setIfInBounds_toArray, set_cons_zero, set_cons_succ, getElem_toArray, getElem_cons_succ, getElem_cons_zero])
                        refine tk (i := 14) (h := ?_)
                        (try simp only [Act.put, setIfInBounds_toArray, set_cons_zero, set_cons_succ, getElem_toArray, getElem_cons_succ, getElem_cons_zero])
                        refine tk (i := 15) (h := ?_)
                        (try simp only [Act.put, setIfInBounds_toArray, set_cons_zero, set_cons_succ, getElem_toArray, getElem_cons_succ, getElem_cons_zero])
                        refine tk (i := 17) (h := ?_)
                        (try simp only [Act.put, setIfInBounds_toArray, set_cons_zero, set_cons_succ, getElem_toArray, getElem_cons_succ, getElem_cons_zero])
                        refine tk (i := 16) (h := ?_)
                        (try simp only [Act.put, setIfInBounds_toArray, set_cons_zero, set_cons_succ, getElem_toArray, getElem_cons_succ, getElem_cons_zero])
                        refine tk (i := 18) (h := ?_)
                        (try simp only [Act.put, setIfInBounds_toArray, set_cons_zero, set_cons_succ, getElem_toArray, getElem_cons_succ, getElem_cons_zero])
                        refine tk (i := 19) (h := ?_)
                        (try simp only [Act.put, setIfInBounds_toArray, set_cons_zero, set_cons_succ, getElem_toArray, getElem_cons_succ, getElem_cons_zero])
                        refine tk (i := 20) (h := ?_)
                        (try simp only [Act.put, setIfInBounds_toArray, set_cons_zero, set_cons_succ, getElem_toArray, getElem_cons_succ, getElem_cons_zero])
                        refine tk (i := 21) (h := ?_)
                        (try simp only [Act.put, setIfInBounds_toArray, set_cons_zero, set_cons_succ, getElem_toArray, getElem_cons_succ, getElem_cons_zero])
                        refine tk (i := 22) (h := ?_)
                        (try simp only [Act.put, setIfInBounds_toArray, set_cons_zero, set_cons_succ, getElem_toArray, getElem_cons_succ, getElem_cons_zero])
                        refine tk (i := 23) (h := ?_)
                        (try simp only [Act.put, setIfInBounds_toArray, set_cons_zero, set_cons_succ, getElem_toArray, getElem_cons_succ, getElem_cons_zero])
                        refine tk (i := 24) (h := ?_)
                        (try simp only [Act.put, setIfInBounds_toArray, set_cons_zero, set_cons_succ, getElem_toArray, getElem_cons_succ, getElem_cons_zero])
                        refine wpAnyH_done (by kernel_rfl) ?_ _
                        have HB9 := Lib.hid (HEND.out _ (HB5.out.trans (FB_tex16.out.mono HB5.out.size)))
                        cases b3 with
                        | true =>
                          have HN : Hid (V = false) := Lib.hid (by rw [HCX.out]; rfl)
                          clear HSX
                          go_wp2
                          go_ret
                          exact gc_no (k := 5) (by decide) HN.out HB9.out
                        | false =>
                          have HN : Hid (V = true) := Lib.hid (by rw [HCX.out]; rfl)
                          clear HSX
                          go_wp2
                          go_ret
                          exact gc_yes HN.out HB9.out
                  · by_cases r7 : r = 7
                    · clear q4 q14 r4 r14 r2 r13
                      subst r7
                      exact absurd hcls (by decide)
                    · by_cases r10 : r = 10
                      · clear q4 q14 r4 r14 r2 r13 r7
                        subst r10
                        exact absurd hclj (by decide)
                      · have q2 : (r == 2) = false := beq_eq_false_iff_ne.2 r2
                        have q7 : (r == 7) = false := beq_eq_false_iff_ne.2 r7
                        have q10 : (r == 10) = false := beq_eq_false_iff_ne.2 r10
                        have q13 : (r == 13) = false := beq_eq_false_iff_ne.2 r13
                        have HN : Hid (cdB r i j F P Q = true) := Lib.hid (by rw [HE2.out]; unfold ctxB; rw [if_neg r2, if_neg r4, if_neg r7, if_neg r10, if_neg r13, if_neg r14])
                        clear HPM3 r2 r4 r7 r10 r13 r14
                        go_wp2
                        go_ret
                        exact gc_yes HN.out (HEND.out _ HB5.out)
end Go.Proofs.YthbkcpacgnmcfaaGreatDoor
