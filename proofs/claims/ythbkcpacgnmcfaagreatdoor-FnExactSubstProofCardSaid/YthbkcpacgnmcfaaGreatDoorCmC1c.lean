/- The model's stepCode, rules of kind 1, fields of way 2. Made by mkcmc.py. -/
import Derived.Test.YthbkcpacgnmcfaaGreatDoorQCmC0
import Derived.Test.YthbkcpacgnmcfaaGreatDoorQSubA
namespace Go.Proofs.YthbkcpacgnmcfaaGreatDoor
set_option linter.unusedSimpArgs false
set_option linter.unusedVariables false
open Go.ChangeAt Go.ChangeShapes Go.RowKit Go.WideShapes
open List (setIfInBounds_toArray set_cons_zero set_cons_succ getElem_toArray getElem_cons_succ getElem_cons_zero)

set_option linter.unusedSimpArgs false in
set_option maxRecDepth 100000 in
set_option maxHeartbeats 40000000 in
theorem sStepCode_1_2 (r a b i j : Int) (h1 : 1 ≤ r) (h14 : r ≤ 14) (hcls : clsR r = 1) (B : Option Addr) (m d : Nat) (F : List Int) (A : Option Addr) (n c : Nat) (P : List (List Int)) (A2 : Option Addr) (n2 c2 : Nat) (Q : List (List Int)) (w : World) (hf : RdI w w.heap.size B m F) (h : RdQ w w.heap.size A n P) (h2 : RdQ w w.heap.size A2 n2 Q) (hm : m ≤ 1048576) (hnc : n ≤ c) (hnc2 : n2 ≤ c2) (hP : validQ P = true) (hQ : validQ Q = true) (hgrp : grpF (ruF r) (decide (0 < F.length)) (validB F) (ruI r) (i != 0) (ruJ r) (j != 0) = 2) :
    Calls Tryz.prog 53 #[.agg #[.slice A n c], .agg #[.slice A2 n2 c2], Value.agg #[Value.int .i64 r, Value.int .i64 a, Value.int .i64 b, Value.int .i64 i, Value.int .i64 j, Value.slice B m d]] w (GivesC w (cdB r i j F P Q)) := by
  have hl := h.len
  subst hl
  have hl2 := h2.len
  subst hl2
  have hlf := hf.1
  obtain ⟨u, hu0⟩ : ∃ u, u = ((w.alloc (.cells #[Value.slice A P.length c] 64)).alloc (.cells #[Value.slice A2 Q.length c2] 64)).alloc (.cells #[Value.int .i64 r, Value.int .i64 a, Value.int .i64 b, Value.int .i64 i, Value.int .i64 j, Value.slice B m d] 43) := ⟨_, rfl⟩
  obtain ⟨hb, p1, p2, p0, hsz⟩ := three_any w (.cells #[Value.slice A P.length c] 64) (.cells #[Value.slice A2 Q.length c2] 64) (.cells #[Value.int .i64 r, Value.int .i64 a, Value.int .i64 b, Value.int .i64 i, Value.int .i64 j, Value.slice B m d] 43)
  rw [← hu0] at hb p0 p1 p2 hsz
  have HKX : Hid (∀ wx, Below u.heap.size u wx → wx.cell? ⟨w.heap.size, 0, none⟩ = some (.slice A P.length c) ∧ wx.cell? ⟨w.heap.size + 1, 0, none⟩ = some (.slice A2 Q.length c2) ∧ wx.cell? ⟨w.heap.size + 1 + 1, 0, none⟩ = some (.int .i64 r) ∧ wx.cell? ⟨w.heap.size + 1 + 1, 3, none⟩ = some (.int .i64 i) ∧ wx.cell? ⟨w.heap.size + 1 + 1, 4, none⟩ = some (.int .i64 j) ∧ wx.cell? ⟨w.heap.size + 1 + 1, 5, none⟩ = some (.slice B m d)) := Lib.hid fun wx hx => by
    have g : ∀ k o, u.heap[k]? = some o → wx.heap[k]? = some o := fun k o h => (hx.block k (Array.getElem?_eq_some_iff.1 h).1).trans h
    exact ⟨cell_of_row _ _ 0 _ _ (0, 0) (g _ _ p1), cell_of_row _ _ 0 _ _ (0, 0) (g _ _ p2), cell_of_row _ _ 0 _ _ (0, 0) (g _ _ p0), cell_of_row _ _ 3 _ _ (0, 0) (g _ _ p0), cell_of_row _ _ 4 _ _ (0, 0) (g _ _ p0), cell_of_row _ _ 5 _ _ (0, 0) (g _ _ p0)⟩
  have HU0 := Lib.hid hu0; have HBU := Lib.hid hb
  have HPM := fun (wx : World) => premises_any wx r h1 h14
  have HPO := fun (wx : World) => positions_any wx r h1 h14
  have HUF := fun (wx : World) => usesForm_any wx r h1 h14
  have HRP := Lib.hid (fun (wx : World) (hx : Below u.heap.size u wx) => (h.below (hb.trans (hx.mono hb.size))).more (Nat.le_trans hb.size hx.size))
  have HRQ := Lib.hid (fun (wx : World) (hx : Below u.heap.size u wx) => (h2.below (hb.trans (hx.mono hb.size))).more (Nat.le_trans hb.size hx.size))
  have hlP := validQ_len hP
  have hlQ := validQ_len hQ
  have HVP := Lib.hid (fun (wx : World) (hx : Below u.heap.size u wx) => sValidSeq_any A P.length c P wx (HRP.out wx hx) (by omega) hnc)
  have HVQ := Lib.hid (fun (wx : World) (hx : Below u.heap.size u wx) => sValidSeq_any A2 Q.length c2 Q wx (HRQ.out wx hx) (by omega) hnc2)
  rw [hP] at HVP
  rw [hQ] at HVQ
  have HVF := Lib.hid (fun (wx : World) (hx : Below u.heap.size u wx) => sValidForm_any B m d F wx ((hf.below (hb.trans (hx.mono hb.size))).more (Nat.le_trans hb.size hx.size)))
  have HIP := Lib.hid (fun (wx : World) => sIsPos_any A P.length c i wx (by omega))
  have HJP := Lib.hid (fun (wx : World) => sIsPos_any A P.length c j wx (by omega))
  have HJQ := Lib.hid (fun (wx : World) => sIsPos_any A2 Q.length c2 j wx (by omega))
  have HPV := Lib.hid hP; have HQV := Lib.hid hQ
  have HE : Hid (cdB r i j F P Q = ((fitM (ruF r) (decide (0 < F.length)) (validB F) (ruI r) (i != 0) (ruJ r) (j != 0) && posM r i j P.length Q.length) && ctxB r i j P Q)) := Lib.hid (by unfold cdB; rw [fitM_is])
  have HPM2 : Hid (posM r i j P.length Q.length = ((!ruI r || posB i P.length) && (!ruJ r || posB j (if ruP r = 2 then Q.length else P.length)))) := Lib.hid rfl
  have hcl := ru_class r h1 h14
  have hck := cls_1 r h1 h14 hcls
  have hlp : decide ((0 : Int) < (m : Int)) = decide (0 < F.length) := by rw [hlf]; exact decide_eq_decide.2 (by omega)
  generalize ruP r = np at *; generalize ruK r = kp at *; generalize ruI r = x at *; generalize ruJ r = y at *; generalize ruF r = z at *
  have HCK := Lib.hid hck
  clear hck
  generalize decide (0 < F.length) = lp at *
  generalize validB F = vb at *
  obtain ⟨bi, hbi⟩ : ∃ bi, (i != 0) = bi := ⟨_, rfl⟩
  obtain ⟨bj, hbj⟩ : ∃ bj, (j != 0) = bj := ⟨_, rfl⟩
  rw [hbi, hbj] at HE hgrp
  obtain ⟨ft, hft⟩ : ∃ ft, fitM z lp vb x bi y bj = ft := ⟨_, rfl⟩
  rw [hft] at HE
  have HFT := Lib.hid hft
  obtain ⟨e1, e2, e0, ei, ej, ef⟩ := HKX.out u (Below.refl _ _)
  clear hu0 hb p0 p1 p2 hsz h h2 hf hft hP hQ
  go_enter Tryz.func53, Tryz.ntmps53
  go_upto_region 1 with (fail)
  rw [← HU0.out]
  go_wp2_with (fail)
  refine (HPM u).mono ?_
  rintro e w0 ⟨rfl, rfl⟩
  have hnp0 : decide (np < 0) = false := decide_eq_false (by omega)
  go_upto_region 4 with (fail)
  go_cut [31] (fun t wx => t = .bool false ∧ Below u.heap.size u wx)
  case first =>
    have hnp : np = 0 ∨ np = 1 ∨ np = 2 := by rcases hcl with h | h | h | h | h <;> simp [h.1]
    clear hcl hgrp hlp hbi hbj hnp0 HE HPM2 HFT
    rcases hnp with rfl | rfl | rfl
    · go_wp2_with (fail)
      go_meet
      exact ⟨rfl, Below.refl _ _⟩
    · go_wp2_with (fail)
      refine (HVP.out u (Below.refl _ _)).mono ?_
      rintro e w1 ⟨rfl, b1⟩
      have HB1 := Lib.hid b1
      clear b1
      go_wp2_with (fail)
      go_meet
      exact ⟨rfl, HB1.out⟩
    · go_wp2_with (fail)
      refine (HVP.out u (Below.refl _ _)).mono ?_
      rintro e w1 ⟨rfl, b1⟩
      have HB1 := Lib.hid b1
      clear b1 e1 e2 e0 ei ej ef
      obtain ⟨e1, e2, e0, ei, ej, ef⟩ := HKX.out w1 HB1.out
      go_wp2_with (fail)
      refine (HVQ.out w1 HB1.out).mono ?_
      rintro e w2 ⟨rfl, b2⟩
      have HB2 := Lib.hid (HB1.out.trans (b2.mono HB1.out.size))
      clear b2
      go_wp2_with (fail)
      go_meet
      exact ⟨rfl, HB2.out⟩
  case rest =>
    obtain ⟨rfl, hcb⟩ := hcut
    rename World => w2
    have HB2 := Lib.hid hcb
    clear hcb hnp0 e1 e2 e0 ei ej ef
    obtain ⟨e1, e2, e0, ei, ej, ef⟩ := HKX.out w2 HB2.out
    go_wp2_with (fail)
    refine (HPO w2).mono ?_
    rintro e w0 ⟨rfl, rfl⟩
    go_upto_region 7 with (fail)
    go_cut [72] (fun t wx => t = .bool (!ft) ∧ Below u.heap.size u wx)
    case first =>
      have hxyc : (x = false ∧ y = false ∧ kp = 0 ∧ bi = true) ∨ (x = false ∧ y = false ∧ kp = 0 ∧ bi = false ∧ bj = true) ∨ (x = false ∧ y = false ∧ kp = 0 ∧ bi = false ∧ bj = false) ∨ (x = true ∧ y = false ∧ kp = 1 ∧ bj = true) ∨ (x = true ∧ y = false ∧ kp = 1 ∧ bj = false) ∨ (x = true ∧ y = true ∧ kp = 2) := by
        rcases hcl with ⟨-, rfl, rfl, rfl⟩ | ⟨-, rfl, rfl, rfl⟩ | ⟨-, rfl, rfl, rfl⟩ | ⟨-, rfl, rfl, rfl⟩ | ⟨-, rfl, rfl, rfl⟩ <;> cases bi <;> cases bj <;> simp
      have hmT : lp = true → 0 < m := fun e => by rw [e] at hlp; have := of_decide_eq_true hlp; omega
      have hmF : lp = false → m = 0 := fun e => by rw [e] at hlp; have := of_decide_eq_false hlp; omega
      clear hlp hlf hcl HE HPM2 HVP HVQ HIP HJP HJQ HRP HRQ HPM HPO
      have hfc := fit_cases z lp vb
      have hz : z = true := HCK.out.1
      have hy : y = false := HCK.out.2
      rcases hfc with ⟨rfl, rfl⟩ | ⟨rfl, rfl⟩ | ⟨rfl, rfl, rfl⟩ | h4
      · exact absurd (show (0 : Nat) = 2 from hgrp) (by decide)
      · cases hz
      · exact absurd (show (0 : Nat) = 2 from hgrp) (by decide)
      · rcases h4 with ⟨rfl, rfl, rfl⟩ | ⟨rfl, rfl⟩
        · have hm0 := hmT rfl
          have hm1 : ¬ m = 0 := by omega
          clear hmT hmF
          rcases hxyc with ⟨rfl, rfl, rfl, rfl⟩ | ⟨rfl, rfl, rfl, rfl, rfl⟩ | ⟨rfl, rfl, rfl, rfl, rfl⟩ | ⟨rfl, rfl, rfl, rfl⟩ | ⟨rfl, rfl, rfl, rfl⟩ | ⟨rfl, rfl, rfl⟩
          · exact absurd (show (1 : Nat) = 2 from hgrp) (by decide)
          · exact absurd (show (1 : Nat) = 2 from hgrp) (by decide)
          · have hE : ft = true := by rw [← HFT.out]; simp [fitM]
            subst hE
            clear HFT
            clear hgrp
            have FB_0 := Lib.hid (Below.refl w2.heap.size w2)
            go_upto_region 7 with (fail)
            refine wp_region_held_drew (S := fun wx => wx.cell? ⟨w.heap.size, 0, none⟩ = some (.slice A P.length c) ∧ wx.cell? ⟨w.heap.size + 1, 0, none⟩ = some (.slice A2 Q.length c2) ∧ wx.cell? ⟨w.heap.size + 1 + 1, 0, none⟩ = some (.int .i64 r) ∧ wx.cell? ⟨w.heap.size + 1 + 1, 3, none⟩ = some (.int .i64 i) ∧ wx.cell? ⟨w.heap.size + 1 + 1, 4, none⟩ = some (.int .i64 j) ∧ wx.cell? ⟨w.heap.size + 1 + 1, 5, none⟩ = some (.slice B m d)) (by kernel_rfl) ⟨e1, e2, e0, ei, ej, ef⟩ (fun hHeld => ?_)
            obtain ⟨wqgx1, hwqgx1⟩ : ∃ w', w' = w2.drew := ⟨_, rfl⟩
            rw [← hwqgx1] at hHeld ⊢
            have bqgx1 : Below w2.heap.size w2 wqgx1 := by rw [hwqgx1]; exact (Below.refl _ _).drew
            clear hwqgx1
            have FB_qgx2 := Lib.hid ((FB_0.out).trans ((bqgx1).mono (FB_0.out).size))
            clear FB_0
            refine tk (i := 0) (h := ?_)
            (try simp only [Act.put, setIfInBounds_toArray, set_cons_zero, set_cons_succ, getElem_toArray, getElem_cons_succ, getElem_cons_zero])
            refine tk (i := 3) (h := ?_)
            (try simp only [Act.put, setIfInBounds_toArray, set_cons_zero, set_cons_succ, getElem_toArray, getElem_cons_succ, getElem_cons_zero])
            refine tk (i := 1) (h := ?_)
            (try simp only [Act.put, setIfInBounds_toArray, set_cons_zero, set_cons_succ, getElem_toArray, getElem_cons_succ, getElem_cons_zero])
            refine tk (i := 4) (h := ?_)
            (try simp only [Act.put, setIfInBounds_toArray, set_cons_zero, set_cons_succ, getElem_toArray, getElem_cons_succ, getElem_cons_zero])
            refine tk (i := 5) (h := ?_)
            (try simp only [Act.put, setIfInBounds_toArray, set_cons_zero, set_cons_succ, getElem_toArray, getElem_cons_succ, getElem_cons_zero])
            refine tk (i := 6) (h := ?_)
            (try simp only [Act.put, setIfInBounds_toArray, set_cons_zero, set_cons_succ, getElem_toArray, getElem_cons_succ, getElem_cons_zero])
            refine t1 (i := 2) (h := fun K hK => ?_)
            go_simp
            refine (HUF wqgx1).mono ?_
            rintro e wqgx9 ⟨rfl, rfl⟩
            dsimp only
            refine hK.out _ _ (hHeld) (fun hHeld => ?_)
            clear hK K
            (try simp only [Act.put, setIfInBounds_toArray, set_cons_zero, set_cons_succ, getElem_toArray, getElem_cons_succ, getElem_cons_zero])
            refine tk (i := 7) (h := ?_)
            (try simp only [Act.put, setIfInBounds_toArray, set_cons_zero, set_cons_succ, getElem_toArray, getElem_cons_succ, getElem_cons_zero])
            refine tk (i := 8) (h := ?_)
            (try simp only [Act.put, setIfInBounds_toArray, set_cons_zero, set_cons_succ, getElem_toArray, getElem_cons_succ, getElem_cons_zero])
            refine tk (i := 9) (h := ?_)
            (try simp only [Act.put, setIfInBounds_toArray, set_cons_zero, set_cons_succ, getElem_toArray, getElem_cons_succ, getElem_cons_zero])
            refine tk (i := 10) (h := ?_)
            (try simp only [Act.put, setIfInBounds_toArray, set_cons_zero, set_cons_succ, getElem_toArray, getElem_cons_succ, getElem_cons_zero])
            refine tk (i := 11) (h := ?_)
            (try simp only [Act.put, setIfInBounds_toArray, set_cons_zero, set_cons_succ, getElem_toArray, getElem_cons_succ, getElem_cons_zero])
            refine tk (i := 12) (h := ?_)
            (try simp only [Act.put, setIfInBounds_toArray, set_cons_zero, set_cons_succ, getElem_toArray, getElem_cons_succ, getElem_cons_zero])
            refine tk (i := 13) (h := ?_)
            (try simp only [Act.put, setIfInBounds_toArray, set_cons_zero, set_cons_succ, getElem_toArray, getElem_cons_succ, getElem_cons_zero])
            refine tk (i := 14) (h := ?_)
            (try simp only [Act.put, setIfInBounds_toArray, set_cons_zero, set_cons_succ, getElem_toArray, getElem_cons_succ, getElem_cons_zero])
            refine tk (i := 15) (h := ?_)
            (try simp only [Act.put, setIfInBounds_toArray, set_cons_zero, set_cons_succ, getElem_toArray, getElem_cons_succ, getElem_cons_zero])
            refine t1 (i := 16) (h := fun K hK => ?_)
            go_simp
            refine (HVF.out wqgx1 (HB2.out.trans (FB_qgx2.out.mono HB2.out.size))).mono ?_
            rintro e wqgx19 ⟨rfl, rfl⟩
            dsimp only
            refine hK.out _ _ (hHeld) (fun hHeld => ?_)
            clear hK K
            (try simp only [Act.put, setIfInBounds_toArray, set_cons_zero, set_cons_succ, getElem_toArray, getElem_cons_succ, getElem_cons_zero])
            refine tk (i := 17) (h := ?_)
            (try simp only [Act.put, setIfInBounds_toArray, set_cons_zero, set_cons_succ, getElem_toArray, getElem_cons_succ, getElem_cons_zero])
            refine tk (i := 18) (h := ?_)
            (try simp only [Act.put, setIfInBounds_toArray, set_cons_zero, set_cons_succ, getElem_toArray, getElem_cons_succ, getElem_cons_zero])
            refine tk (i := 19) (h := ?_)
            (try simp only [Act.put, setIfInBounds_toArray, set_cons_zero, set_cons_succ, getElem_toArray, getElem_cons_succ, getElem_cons_zero])
            refine tk (i := 20) (h := ?_)
            (try simp only [Act.put, setIfInBounds_toArray, set_cons_zero, set_cons_succ, getElem_toArray, getElem_cons_succ, getElem_cons_zero])
            refine tk (i := 21) (h := ?_)
            (try simp only [Act.put, setIfInBounds_toArray, set_cons_zero, set_cons_succ, getElem_toArray, getElem_cons_succ, getElem_cons_zero])
            refine tk (i := 22) (h := ?_)
            (try simp only [Act.put, setIfInBounds_toArray, set_cons_zero, set_cons_succ, getElem_toArray, getElem_cons_succ, getElem_cons_zero])
            refine tk (i := 23) (h := ?_)
            (try simp only [Act.put, setIfInBounds_toArray, set_cons_zero, set_cons_succ, getElem_toArray, getElem_cons_succ, getElem_cons_zero])
            refine tk (i := 24) (h := ?_)
            (try simp only [Act.put, setIfInBounds_toArray, set_cons_zero, set_cons_succ, getElem_toArray, getElem_cons_succ, getElem_cons_zero])
            refine tk (i := 25) (h := ?_)
            (try simp only [Act.put, setIfInBounds_toArray, set_cons_zero, set_cons_succ, getElem_toArray, getElem_cons_succ, getElem_cons_zero])
            refine tk (i := 26) (h := ?_)
            (try simp only [Act.put, setIfInBounds_toArray, set_cons_zero, set_cons_succ, getElem_toArray, getElem_cons_succ, getElem_cons_zero])
            refine tk (i := 27) (h := ?_)
            (try simp only [Act.put, setIfInBounds_toArray, set_cons_zero, set_cons_succ, getElem_toArray, getElem_cons_succ, getElem_cons_zero])
            refine tk (i := 28) (h := ?_)
            (try simp only [Act.put, setIfInBounds_toArray, set_cons_zero, set_cons_succ, getElem_toArray, getElem_cons_succ, getElem_cons_zero])
            refine tk (i := 29) (h := ?_)
            (try simp only [Act.put, setIfInBounds_toArray, set_cons_zero, set_cons_succ, getElem_toArray, getElem_cons_succ, getElem_cons_zero])
            refine tk (i := 30) (h := ?_)
            (try simp only [Act.put, setIfInBounds_toArray, set_cons_zero, set_cons_succ, getElem_toArray, getElem_cons_succ, getElem_cons_zero])
            refine tk (i := 31) (h := ?_)
            (try simp only [Act.put, setIfInBounds_toArray, set_cons_zero, set_cons_succ, getElem_toArray, getElem_cons_succ, getElem_cons_zero])
            refine tk (i := 32) (h := ?_)
            (try simp only [Act.put, setIfInBounds_toArray, set_cons_zero, set_cons_succ, getElem_toArray, getElem_cons_succ, getElem_cons_zero])
            refine tk (i := 33) (h := ?_)
            (try simp only [Act.put, setIfInBounds_toArray, set_cons_zero, set_cons_succ, getElem_toArray, getElem_cons_succ, getElem_cons_zero])
            refine tk (i := 34) (h := ?_)
            (try simp only [Act.put, setIfInBounds_toArray, set_cons_zero, set_cons_succ, getElem_toArray, getElem_cons_succ, getElem_cons_zero])
            refine tk (i := 35) (h := ?_)
            (try simp only [Act.put, setIfInBounds_toArray, set_cons_zero, set_cons_succ, getElem_toArray, getElem_cons_succ, getElem_cons_zero])
            refine tk (i := 36) (h := ?_)
            (try simp only [Act.put, setIfInBounds_toArray, set_cons_zero, set_cons_succ, getElem_toArray, getElem_cons_succ, getElem_cons_zero])
            refine tk (i := 37) (h := ?_)
            (try simp only [Act.put, setIfInBounds_toArray, set_cons_zero, set_cons_succ, getElem_toArray, getElem_cons_succ, getElem_cons_zero])
            refine wpAnyH_done (by kernel_rfl) ?_ _
            go_wp2_with (fail)
            go_meet
            exact ⟨rfl, HB2.out.trans (FB_qgx2.out.mono HB2.out.size)⟩
          · exact absurd (show (1 : Nat) = 2 from hgrp) (by decide)
          · have hE : ft = true := by rw [← HFT.out]; simp [fitM]
            subst hE
            clear HFT
            clear hgrp
            have FB_0 := Lib.hid (Below.refl w2.heap.size w2)
            go_upto_region 7 with (fail)
            refine wp_region_held_drew (S := fun wx => wx.cell? ⟨w.heap.size, 0, none⟩ = some (.slice A P.length c) ∧ wx.cell? ⟨w.heap.size + 1, 0, none⟩ = some (.slice A2 Q.length c2) ∧ wx.cell? ⟨w.heap.size + 1 + 1, 0, none⟩ = some (.int .i64 r) ∧ wx.cell? ⟨w.heap.size + 1 + 1, 3, none⟩ = some (.int .i64 i) ∧ wx.cell? ⟨w.heap.size + 1 + 1, 4, none⟩ = some (.int .i64 j) ∧ wx.cell? ⟨w.heap.size + 1 + 1, 5, none⟩ = some (.slice B m d)) (by kernel_rfl) ⟨e1, e2, e0, ei, ej, ef⟩ (fun hHeld => ?_)
            obtain ⟨wqhx1, hwqhx1⟩ : ∃ w', w' = w2.drew := ⟨_, rfl⟩
            rw [← hwqhx1] at hHeld ⊢
            have bqhx1 : Below w2.heap.size w2 wqhx1 := by rw [hwqhx1]; exact (Below.refl _ _).drew
            clear hwqhx1
            have FB_qhx2 := Lib.hid ((FB_0.out).trans ((bqhx1).mono (FB_0.out).size))
            clear FB_0
            refine tk (i := 0) (h := ?_)
            (try simp only [Act.put, setIfInBounds_toArray, set_cons_zero, set_cons_succ, getElem_toArray, getElem_cons_succ, getElem_cons_zero])
            refine tk (i := 3) (h := ?_)
            (try simp only [Act.put, setIfInBounds_toArray, set_cons_zero, set_cons_succ, getElem_toArray, getElem_cons_succ, getElem_cons_zero])
            refine tk (i := 1) (h := ?_)
            (try simp only [Act.put, setIfInBounds_toArray, set_cons_zero, set_cons_succ, getElem_toArray, getElem_cons_succ, getElem_cons_zero])
            refine tk (i := 4) (h := ?_)
            (try simp only [Act.put, setIfInBounds_toArray, set_cons_zero, set_cons_succ, getElem_toArray, getElem_cons_succ, getElem_cons_zero])
            refine tk (i := 5) (h := ?_)
            (try simp only [Act.put, setIfInBounds_toArray, set_cons_zero, set_cons_succ, getElem_toArray, getElem_cons_succ, getElem_cons_zero])
            refine tk (i := 6) (h := ?_)
            (try simp only [Act.put, setIfInBounds_toArray, set_cons_zero, set_cons_succ, getElem_toArray, getElem_cons_succ, getElem_cons_zero])
            refine t1 (i := 2) (h := fun K hK => ?_)
            go_simp
            refine (HUF wqhx1).mono ?_
            rintro e wqhx9 ⟨rfl, rfl⟩
            dsimp only
            refine hK.out _ _ (hHeld) (fun hHeld => ?_)
            clear hK K
            (try simp only [Act.put, setIfInBounds_toArray, set_cons_zero, set_cons_succ, getElem_toArray, getElem_cons_succ, getElem_cons_zero])
            refine tk (i := 7) (h := ?_)
            (try simp only [Act.put, setIfInBounds_toArray, set_cons_zero, set_cons_succ, getElem_toArray, getElem_cons_succ, getElem_cons_zero])
            refine tk (i := 8) (h := ?_)
            (try simp only [Act.put, setIfInBounds_toArray, set_cons_zero, set_cons_succ, getElem_toArray, getElem_cons_succ, getElem_cons_zero])
            refine tk (i := 9) (h := ?_)
            (try simp only [Act.put, setIfInBounds_toArray, set_cons_zero, set_cons_succ, getElem_toArray, getElem_cons_succ, getElem_cons_zero])
            refine tk (i := 10) (h := ?_)
            (try simp only [Act.put, setIfInBounds_toArray, set_cons_zero, set_cons_succ, getElem_toArray, getElem_cons_succ, getElem_cons_zero])
            refine tk (i := 11) (h := ?_)
            (try simp only [Act.put, setIfInBounds_toArray, set_cons_zero, set_cons_succ, getElem_toArray, getElem_cons_succ, getElem_cons_zero])
            refine tk (i := 12) (h := ?_)
            (try simp only [Act.put, setIfInBounds_toArray, set_cons_zero, set_cons_succ, getElem_toArray, getElem_cons_succ, getElem_cons_zero])
            refine tk (i := 13) (h := ?_)
            (try simp only [Act.put, setIfInBounds_toArray, set_cons_zero, set_cons_succ, getElem_toArray, getElem_cons_succ, getElem_cons_zero])
            refine tk (i := 14) (h := ?_)
            (try simp only [Act.put, setIfInBounds_toArray, set_cons_zero, set_cons_succ, getElem_toArray, getElem_cons_succ, getElem_cons_zero])
            refine tk (i := 15) (h := ?_)
            (try simp only [Act.put, setIfInBounds_toArray, set_cons_zero, set_cons_succ, getElem_toArray, getElem_cons_succ, getElem_cons_zero])
            refine t1 (i := 16) (h := fun K hK => ?_)
            go_simp
            refine (HVF.out wqhx1 (HB2.out.trans (FB_qhx2.out.mono HB2.out.size))).mono ?_
            rintro e wqhx19 ⟨rfl, rfl⟩
            dsimp only
            refine hK.out _ _ (hHeld) (fun hHeld => ?_)
            clear hK K
            (try simp only [Act.put, setIfInBounds_toArray, set_cons_zero, set_cons_succ, getElem_toArray, getElem_cons_succ, getElem_cons_zero])
            refine tk (i := 17) (h := ?_)
            (try simp only [Act.put, setIfInBounds_toArray, set_cons_zero, set_cons_succ, getElem_toArray, getElem_cons_succ, getElem_cons_zero])
            refine tk (i := 18) (h := ?_)
            (try simp only [Act.put, setIfInBounds_toArray, set_cons_zero, set_cons_succ, getElem_toArray, getElem_cons_succ, getElem_cons_zero])
            refine tk (i := 19) (h := ?_)
            (try simp only [Act.put, setIfInBounds_toArray, set_cons_zero, set_cons_succ, getElem_toArray, getElem_cons_succ, getElem_cons_zero])
            refine tk (i := 20) (h := ?_)
            (try simp only [Act.put, setIfInBounds_toArray, set_cons_zero, set_cons_succ, getElem_toArray, getElem_cons_succ, getElem_cons_zero])
            refine tk (i := 21) (h := ?_)
            (try simp only [Act.put, setIfInBounds_toArray, set_cons_zero, set_cons_succ, getElem_toArray, getElem_cons_succ, getElem_cons_zero])
            refine tk (i := 22) (h := ?_)
            (try simp only [Act.put, setIfInBounds_toArray, set_cons_zero, set_cons_succ, getElem_toArray, getElem_cons_succ, getElem_cons_zero])
            refine tk (i := 23) (h := ?_)
            (try simp only [Act.put, setIfInBounds_toArray, set_cons_zero, set_cons_succ, getElem_toArray, getElem_cons_succ, getElem_cons_zero])
            refine tn (i := 24) (h := ?_)
            (try simp only [Act.put, setIfInBounds_toArray, set_cons_zero, set_cons_succ, getElem_toArray, getElem_cons_succ, getElem_cons_zero])
            refine tn (i := 25) (h := ?_)
            (try simp only [Act.put, setIfInBounds_toArray, set_cons_zero, set_cons_succ, getElem_toArray, getElem_cons_succ, getElem_cons_zero])
            refine tn (i := 26) (h := ?_)
            (try simp only [Act.put, setIfInBounds_toArray, set_cons_zero, set_cons_succ, getElem_toArray, getElem_cons_succ, getElem_cons_zero])
            refine tk (i := 27) (h := ?_)
            (try simp only [Act.put, setIfInBounds_toArray, set_cons_zero, set_cons_succ, getElem_toArray, getElem_cons_succ, getElem_cons_zero])
            refine tk (i := 28) (h := ?_)
            (try simp only [Act.put, setIfInBounds_toArray, set_cons_zero, set_cons_succ, getElem_toArray, getElem_cons_succ, getElem_cons_zero])
            refine tk (i := 29) (h := ?_)
            (try simp only [Act.put, setIfInBounds_toArray, set_cons_zero, set_cons_succ, getElem_toArray, getElem_cons_succ, getElem_cons_zero])
            refine tk (i := 30) (h := ?_)
            (try simp only [Act.put, setIfInBounds_toArray, set_cons_zero, set_cons_succ, getElem_toArray, getElem_cons_succ, getElem_cons_zero])
            refine tk (i := 31) (h := ?_)
            (try simp only [Act.put, setIfInBounds_toArray, set_cons_zero, set_cons_succ, getElem_toArray, getElem_cons_succ, getElem_cons_zero])
            refine tk (i := 32) (h := ?_)
            (try simp only [Act.put, setIfInBounds_toArray, set_cons_zero, set_cons_succ, getElem_toArray, getElem_cons_succ, getElem_cons_zero])
            refine tk (i := 33) (h := ?_)
            (try simp only [Act.put, setIfInBounds_toArray, set_cons_zero, set_cons_succ, getElem_toArray, getElem_cons_succ, getElem_cons_zero])
            refine tk (i := 34) (h := ?_)
            (try simp only [Act.put, setIfInBounds_toArray, set_cons_zero, set_cons_succ, getElem_toArray, getElem_cons_succ, getElem_cons_zero])
            refine tk (i := 35) (h := ?_)
            (try simp only [Act.put, setIfInBounds_toArray, set_cons_zero, set_cons_succ, getElem_toArray, getElem_cons_succ, getElem_cons_zero])
            refine tk (i := 36) (h := ?_)
            (try simp only [Act.put, setIfInBounds_toArray, set_cons_zero, set_cons_succ, getElem_toArray, getElem_cons_succ, getElem_cons_zero])
            refine tk (i := 37) (h := ?_)
            (try simp only [Act.put, setIfInBounds_toArray, set_cons_zero, set_cons_succ, getElem_toArray, getElem_cons_succ, getElem_cons_zero])
            refine wpAnyH_done (by kernel_rfl) ?_ _
            go_wp2_with (fail)
            go_meet
            exact ⟨rfl, HB2.out.trans (FB_qhx2.out.mono HB2.out.size)⟩
          · cases hy
        · cases hz
    case rest =>
      obtain ⟨rfl, hcb⟩ := hcut
      rename World => w3
      have HB3 := Lib.hid hcb
      clear hgrp hcb e1 e2 e0 ei ej ef HUF HVF HVP HVQ HPM HPO hlp hlf HFT
      obtain ⟨e1, e2, e0, ei, ej, ef⟩ := HKX.out w3 HB3.out
      cases ft with
      | false =>
        go_wp2
        go_ret
        exact gc_no (k := 3) (by decide) (by rw [HE.out]; rfl) (HBU.out.trans (HB3.out.mono HBU.out.size))
      | true =>
        obtain ⟨pm, hpm⟩ : ∃ pm, posM r i j P.length Q.length = pm := ⟨_, rfl⟩
        have HPM3 := Lib.hid hpm
        rw [hpm] at HE HPM2
        go_upto_region 9 with (fail)
        go_cut [111] (fun t wx => t = .bool (!pm) ∧ Below u.heap.size u wx)
        case first =>
          have hxx : (x = false ∧ y = false ∧ kp = 0) ∨ (x = true ∧ y = false ∧ kp = 1) ∨ (x = true ∧ y = true ∧ kp = 2 ∧ np = 1) ∨ (x = true ∧ y = true ∧ kp = 2 ∧ np = 2) := by
            rcases hcl with ⟨rfl, rfl, rfl, rfl⟩ | ⟨rfl, rfl, rfl, rfl⟩ | ⟨rfl, rfl, rfl, rfl⟩ | ⟨rfl, rfl, rfl, rfl⟩ | ⟨rfl, rfl, rfl, rfl⟩ <;> simp
          clear hcl HE HPM3 hpm
          generalize posB i P.length = p1 at *
          rcases hxx with ⟨rfl, rfl, rfl⟩ | ⟨rfl, rfl, rfl⟩ | ⟨rfl, rfl, rfl, rfl⟩ | ⟨rfl, rfl, rfl, rfl⟩
          · have hE : pm = true := by rw [HPM2.out]; rfl
            subst hE
            go_wp2_with (fail)
            go_meet
            exact ⟨rfl, HB3.out⟩
          · have hE : pm = p1 := by rw [HPM2.out]; simp
            subst hE
            go_wp2_with (fail)
            refine (HIP.out w3).mono ?_
            rintro e w4 ⟨rfl, b4⟩
            have HB4 := Lib.hid (HB3.out.trans (b4.mono HB3.out.size))
            clear b4 HPM2
            cases pm
            all_goals go_wp2_with (fail)
            all_goals go_meet
            all_goals exact ⟨rfl, HB4.out⟩
          · exact absurd HCK.out.2 (by decide)
          · exact absurd HCK.out.2 (by decide)
        case rest =>
          obtain ⟨rfl, hcb⟩ := hcut
          rename World => w5
          have HB5 := Lib.hid hcb
          clear hcb e1 e2 e0 ei ej ef HIP HJP HJQ
          obtain ⟨e1, e2, e0, ei, ej, ef⟩ := HKX.out w5 HB5.out
          cases pm with
          | false =>
            go_wp2
            go_ret
            exact gc_no (k := 4) (by decide) (by rw [HE.out]; rfl) (HBU.out.trans (HB5.out.mono HBU.out.size))
          | true =>
            have HE2 : Hid (cdB r i j F P Q = ctxB r i j P Q) := Lib.hid (by rw [HE.out]; rfl)
            have HRX := Lib.hid (HRP.out w5 HB5.out); have HRY := Lib.hid (HRQ.out w5 HB5.out)
            have HVX : Hid (∀ q ∈ P, validB q = true) := Lib.hid fun q hq => validQ_mem HPV.out hq
            have HVY : Hid (∀ q ∈ Q, validB q = true) := Lib.hid fun q hq => validQ_mem HQV.out hq
            have HEND : Hid (∀ wx, Below u.heap.size u wx → Below w.heap.size w wx) := Lib.hid fun wx hx => HBU.out.trans (hx.mono HBU.out.size)
            clear hbi hbj HPM2 hpm hcl HE HRP HRQ
            by_cases r4 : r = 4
            · subst r4
              exact absurd hcls (by decide)
            · by_cases r14 : r = 14
              · subst r14
                exact absurd hcls (by decide)
              · have q4 : (r == 4) = false := beq_eq_false_iff_ne.2 r4
                have q14 : (r == 14) = false := beq_eq_false_iff_ne.2 r14
                by_cases r2 : r = 2
                · clear q4 q14 r4 r14
                  subst r2
                  exact absurd hcls (by decide)
                · by_cases r13 : r = 13
                  · clear q4 q14 r4 r14 r2
                    subst r13
                    exact absurd hcls (by decide)
                  · by_cases r7 : r = 7
                    · clear q4 q14 r4 r14 r2 r13
                      subst r7
                      exact absurd hcls (by decide)
                    · by_cases r10 : r = 10
                      · clear q4 q14 r4 r14 r2 r13 r7
                        subst r10
                        exact absurd hcls (by decide)
                      · have q2 : (r == 2) = false := beq_eq_false_iff_ne.2 r2
                        have q7 : (r == 7) = false := beq_eq_false_iff_ne.2 r7
                        have q10 : (r == 10) = false := beq_eq_false_iff_ne.2 r10
                        have q13 : (r == 13) = false := beq_eq_false_iff_ne.2 r13
                        have HN : Hid (cdB r i j F P Q = true) := Lib.hid (by rw [HE2.out]; unfold ctxB; rw [if_neg r2, if_neg r4, if_neg r7, if_neg r10, if_neg r13, if_neg r14])
                        clear HPM3 r2 r4 r7 r10 r13 r14
                        go_wp2
                        go_ret
                        exact gc_yes HN.out (HEND.out _ HB5.out)
end Go.Proofs.YthbkcpacgnmcfaaGreatDoor
