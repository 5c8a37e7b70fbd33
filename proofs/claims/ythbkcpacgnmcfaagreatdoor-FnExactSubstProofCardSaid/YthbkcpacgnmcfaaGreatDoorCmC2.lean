/- The model's stepCode, rules of kind 2. Made by mkcmc.py. -/
import Derived.Test.YthbkcpacgnmcfaaGreatDoorQCmC0
import Derived.Test.YthbkcpacgnmcfaaGreatDoorQSubA
namespace Go.Proofs.YthbkcpacgnmcfaaGreatDoor
set_option linter.unusedSimpArgs false
set_option linter.unusedVariables false
open Go.ChangeAt Go.ChangeShapes Go.RowKit Go.WideShapes
open List (setIfInBounds_toArray set_cons_zero set_cons_succ getElem_toArray getElem_cons_succ getElem_cons_zero)

set_option linter.unusedSimpArgs false in
set_option maxRecDepth 100000 in
set_option maxHeartbeats 40000000 in
theorem sStepCode_2 (r a b i j : Int) (h1 : 1 ≤ r) (h14 : r ≤ 14) (hcls : clsR r = 2) (B : Option Addr) (m d : Nat) (F : List Int) (A : Option Addr) (n c : Nat) (P : List (List Int)) (A2 : Option Addr) (n2 c2 : Nat) (Q : List (List Int)) (w : World) (hf : RdI w w.heap.size B m F) (h : RdQ w w.heap.size A n P) (h2 : RdQ w w.heap.size A2 n2 Q) (hm : m ≤ 1048576) (hnc : n ≤ c) (hnc2 : n2 ≤ c2) (hP : validQ P = true) (hQ : validQ Q = true) :
    Calls Tryz.prog 53 #[.agg #[.slice A n c], .agg #[.slice A2 n2 c2], Value.agg #[Value.int .i64 r, Value.int .i64 a, Value.int .i64 b, Value.int .i64 i, Value.int .i64 j, Value.slice B m d]] w (GivesC w (cdB r i j F P Q)) := by
  have hl := h.len
  subst hl
  have hl2 := h2.len
  subst hl2
  have hlf := hf.1
  obtain ⟨u, hu0⟩ : ∃ u, u = ((w.alloc (.cells #[Value.slice A P.length c] 64)).alloc (.cells #[Value.slice A2 Q.length c2] 64)).alloc (.cells #[Value.int .i64 r, Value.int .i64 a, Value.int .i64 b, Value.int .i64 i, Value.int .i64 j, Value.slice B m d] 43) := ⟨_, rfl⟩
  obtain ⟨hb, p1, p2, p0, hsz⟩ := three_any w (.cells #[Value.slice A P.length c] 64) (.cells #[Value.slice A2 Q.length c2] 64) (.cells #[Value.int .i64 r, Value.int .i64 a, Value.int .i64 b, Value.int .i64 i, Value.int .i64 j, Value.slice B m d] 43)
  rw [← hu0] at hb p0 p1 p2 hsz
  have HKX : Hid (∀ wx, Below u.heap.size u wx → wx.cell? ⟨w.heap.size, 0, none⟩ = some (.slice A P.length c) ∧ wx.cell? ⟨w.heap.size + 1, 0, none⟩ = some (.slice A2 Q.length c2) ∧ wx.cell? ⟨w.heap.size + 1 + 1, 0, none⟩ = some (.int .i64 r) ∧ wx.cell? ⟨w.heap.size + 1 + 1, 3, none⟩ = some (.int .i64 i) ∧ wx.cell? ⟨w.heap.size + 1 + 1, 4, none⟩ = some (.int .i64 j) ∧ wx.cell? ⟨w.heap.size + 1 + 1, 5, none⟩ = some (.slice B m d)) := Lib.hid fun wx hx => by
    have g : ∀ k o, u.heap[k]? = some o → wx.heap[k]? = some o := fun k o h => (hx.block k (Array.getElem?_eq_some_iff.1 h).1).trans h
    exact ⟨cell_of_row _ _ 0 _ _ (0, 0) (g _ _ p1), cell_of_row _ _ 0 _ _ (0, 0) (g _ _ p2), cell_of_row _ _ 0 _ _ (0, 0) (g _ _ p0), cell_of_row _ _ 3 _ _ (0, 0) (g _ _ p0), cell_of_row _ _ 4 _ _ (0, 0) (g _ _ p0), cell_of_row _ _ 5 _ _ (0, 0) (g _ _ p0)⟩
  have HU0 := Lib.hid hu0; have HBU := Lib.hid hb
  have HPM := fun (wx : World) => premises_any wx r h1 h14
  have HPO := fun (wx : World) => positions_any wx r h1 h14
  have HUF := fun (wx : World) => usesForm_any wx r h1 h14
  have HRP := Lib.hid (fun (wx : World) (hx : Below u.heap.size u wx) => (h.below (hb.trans (hx.mono hb.size))).more (Nat.le_trans hb.size hx.size))
  have HRQ := Lib.hid (fun (wx : World) (hx : Below u.heap.size u wx) => (h2.below (hb.trans (hx.mono hb.size))).more (Nat.le_trans hb.size hx.size))
  have hlP := validQ_len hP
  have hlQ := validQ_len hQ
  have HVP := Lib.hid (fun (wx : World) (hx : Below u.heap.size u wx) => sValidSeq_any A P.length c P wx (HRP.out wx hx) (by omega) hnc)
  have HVQ := Lib.hid (fun (wx : World) (hx : Below u.heap.size u wx) => sValidSeq_any A2 Q.length c2 Q wx (HRQ.out wx hx) (by omega) hnc2)
  rw [hP] at HVP
  rw [hQ] at HVQ
  have HVF := Lib.hid (fun (wx : World) (hx : Below u.heap.size u wx) => sValidForm_any B m d F wx ((hf.below (hb.trans (hx.mono hb.size))).more (Nat.le_trans hb.size hx.size)))
  have HIP := Lib.hid (fun (wx : World) => sIsPos_any A P.length c i wx (by omega))
  have HJP := Lib.hid (fun (wx : World) => sIsPos_any A P.length c j wx (by omega))
  have HJQ := Lib.hid (fun (wx : World) => sIsPos_any A2 Q.length c2 j wx (by omega))
  have HPV := Lib.hid hP; have HQV := Lib.hid hQ
  have HE : Hid (cdB r i j F P Q = ((fitM (ruF r) (decide (0 < F.length)) (validB F) (ruI r) (i != 0) (ruJ r) (j != 0) && posM r i j P.length Q.length) && ctxB r i j P Q)) := Lib.hid (by unfold cdB; rw [fitM_is])
  have HPM2 : Hid (posM r i j P.length Q.length = ((!ruI r || posB i P.length) && (!ruJ r || posB j (if ruP r = 2 then Q.length else P.length)))) := Lib.hid rfl
  have hcl := ru_class r h1 h14
  have hck := cls_2 r h1 h14 hcls
  have hlp : decide ((0 : Int) < (m : Int)) = decide (0 < F.length) := by rw [hlf]; exact decide_eq_decide.2 (by omega)
  generalize ruP r = np at *; generalize ruK r = kp at *; generalize ruI r = x at *; generalize ruJ r = y at *; generalize ruF r = z at *
  have HCK := Lib.hid hck
  clear hck
  generalize decide (0 < F.length) = lp at *
  generalize validB F = vb at *
  obtain ⟨bi, hbi⟩ : ∃ bi, (i != 0) = bi := ⟨_, rfl⟩
  obtain ⟨bj, hbj⟩ : ∃ bj, (j != 0) = bj := ⟨_, rfl⟩
  rw [hbi, hbj] at HE
  obtain ⟨ft, hft⟩ : ∃ ft, fitM z lp vb x bi y bj = ft := ⟨_, rfl⟩
  rw [hft] at HE
  have HFT := Lib.hid hft
  obtain ⟨e1, e2, e0, ei, ej, ef⟩ := HKX.out u (Below.refl _ _)
  clear hu0 hb p0 p1 p2 hsz h h2 hf hft hP hQ
  go_enter Tryz.func53, Tryz.ntmps53
  go_upto_region 1 with (fail)
  rw [← HU0.out]
  go_wp2_with (fail)
  refine (HPM u).mono ?_
  rintro e w0 ⟨rfl, rfl⟩
  have hnp0 : decide (np < 0) = false := decide_eq_false (by omega)
  go_upto_region 4 with (fail)
  go_cut [31] (fun t wx => t = .bool false ∧ Below u.heap.size u wx)
  case first =>
    have hnp : np = 0 ∨ np = 1 ∨ np = 2 := by rcases hcl with h | h | h | h | h <;> simp [h.1]
    clear hcl hlp hbi hbj hnp0 HE HPM2 HFT
    rcases hnp with rfl | rfl | rfl
    · go_wp2_with (fail)
      go_meet
      exact ⟨rfl, Below.refl _ _⟩
    · go_wp2_with (fail)
      refine (HVP.out u (Below.refl _ _)).mono ?_
      rintro e w1 ⟨rfl, b1⟩
      have HB1 := Lib.hid b1
      clear b1
      go_wp2_with (fail)
      go_meet
      exact ⟨rfl, HB1.out⟩
    · go_wp2_with (fail)
      refine (HVP.out u (Below.refl _ _)).mono ?_
      rintro e w1 ⟨rfl, b1⟩
      have HB1 := Lib.hid b1
      clear b1 e1 e2 e0 ei ej ef
      obtain ⟨e1, e2, e0, ei, ej, ef⟩ := HKX.out w1 HB1.out
      go_wp2_with (fail)
      refine (HVQ.out w1 HB1.out).mono ?_
      rintro e w2 ⟨rfl, b2⟩
      have HB2 := Lib.hid (HB1.out.trans (b2.mono HB1.out.size))
      clear b2
      go_wp2_with (fail)
      go_meet
      exact ⟨rfl, HB2.out⟩
  case rest =>
    obtain ⟨rfl, hcb⟩ := hcut
    rename World => w2
    have HB2 := Lib.hid hcb
    clear hcb hnp0 e1 e2 e0 ei ej ef
    obtain ⟨e1, e2, e0, ei, ej, ef⟩ := HKX.out w2 HB2.out
    go_wp2_with (fail)
    refine (HPO w2).mono ?_
    rintro e w0 ⟨rfl, rfl⟩
    go_upto_region 7 with (fail)
    go_cut [72] (fun t wx => t = .bool (!ft) ∧ Below u.heap.size u wx)
    case first =>
      have hxyc : (x = false ∧ y = false ∧ kp = 0 ∧ bi = true) ∨ (x = false ∧ y = false ∧ kp = 0 ∧ bi = false ∧ bj = true) ∨ (x = false ∧ y = false ∧ kp = 0 ∧ bi = false ∧ bj = false) ∨ (x = true ∧ y = false ∧ kp = 1 ∧ bj = true) ∨ (x = true ∧ y = false ∧ kp = 1 ∧ bj = false) ∨ (x = true ∧ y = true ∧ kp = 2) := by
        rcases hcl with ⟨-, rfl, rfl, rfl⟩ | ⟨-, rfl, rfl, rfl⟩ | ⟨-, rfl, rfl, rfl⟩ | ⟨-, rfl, rfl, rfl⟩ | ⟨-, rfl, rfl, rfl⟩ <;> cases bi <;> cases bj <;> simp
      have hmT : lp = true → 0 < m := fun e => by rw [e] at hlp; have := of_decide_eq_true hlp; omega
      have hmF : lp = false → m = 0 := fun e => by rw [e] at hlp; have := of_decide_eq_false hlp; omega
      have hcl2 := Lib.hid hcl
      clear hlp hlf hcl HE HPM2 HVP HVQ HIP HJP HJQ HRP HRQ HPM HPO
      have hfc := fit_cases z lp vb
      have hz : z = false := HCK.out.1
      have hxt : x = true ∧ y = true ∧ kp = 2 := by
        have hp := HCK.out.2
        rcases hcl2.out with ⟨rfl, rfl, rfl, rfl⟩ | ⟨rfl, rfl, rfl, rfl⟩ | ⟨rfl, rfl, rfl, rfl⟩ | ⟨rfl, rfl, rfl, rfl⟩ | ⟨-, rfl, rfl, rfl⟩
        · exact absurd hp (by decide)
        · exact absurd hp (by decide)
        · exact absurd hp (by decide)
        · exact absurd hp (by decide)
        · exact ⟨rfl, rfl, rfl⟩
      rcases hfc with ⟨rfl, rfl⟩ | ⟨rfl, rfl⟩ | ⟨rfl, rfl, rfl⟩ | h4
      · cases hz
      · have hm0 := hmT rfl
        have hm1 : ¬ m = 0 := by omega
        clear hmT hmF
        have hE : ft = false := by rw [← HFT.out]; rfl
        subst hE
        clear HFT
        clear hxt
        have FB_0 := Lib.hid (Below.refl w2.heap.size w2)
        go_upto_region 7 with (fail)
        refine wp_region_held_drew (S := fun wx => wx.cell? ⟨w.heap.size, 0, none⟩ = some (.slice A P.length c) ∧ wx.cell? ⟨w.heap.size + 1, 0, none⟩ = some (.slice A2 Q.length c2) ∧ wx.cell? ⟨w.heap.size + 1 + 1, 0, none⟩ = some (.int .i64 r) ∧ wx.cell? ⟨w.heap.size + 1 + 1, 3, none⟩ = some (.int .i64 i) ∧ wx.cell? ⟨w.heap.size + 1 + 1, 4, none⟩ = some (.int .i64 j) ∧ wx.cell? ⟨w.heap.size + 1 + 1, 5, none⟩ = some (.slice B m d)) (by kernel_rfl) ⟨e1, e2, e0, ei, ej, ef⟩ (fun hHeld => ?_)
        obtain ⟨wqkx1, hwqkx1⟩ : ∃ w', w' = w2.drew := ⟨_, rfl⟩
        rw [← hwqkx1] at hHeld ⊢
        have bqkx1 : Below w2.heap.size w2 wqkx1 := by rw [hwqkx1]; exact (Below.refl _ _).drew
        clear hwqkx1
        have FB_qkx2 := Lib.hid ((FB_0.out).trans ((bqkx1).mono (FB_0.out).size))
        clear FB_0
        refine tk (i := 0) (h := ?_)
        (try simp only [Act.put, setIfInBounds_toArray, set_cons_zero, set_cons_succ, getElem_toArray, getElem_cons_succ, getElem_cons_zero])
        refine tk (i := 3) (h := ?_)
        (try simp only [Act.put, setIfInBounds_toArray, set_cons_zero, set_cons_succ, getElem_toArray, getElem_cons_succ, getElem_cons_zero])
        refine tk (i := 1) (h := ?_)
        (try simp only [Act.put, setIfInBounds_toArray, set_cons_zero, set_cons_succ, getElem_toArray, getElem_cons_succ, getElem_cons_zero])
        refine tk (i := 4) (h := ?_)
        (try simp only [Act.put, setIfInBounds_toArray, set_cons_zero, set_cons_succ, getElem_toArray, getElem_cons_succ, getElem_cons_zero])
        refine tk (i := 5) (h := ?_)
        (try simp only [Act.put, setIfInBounds_toArray, set_cons_zero, set_cons_succ, getElem_toArray, getElem_cons_succ, getElem_cons_zero])
        refine tk (i := 6) (h := ?_)
        (try simp only [Act.put, setIfInBounds_toArray, set_cons_zero, set_cons_succ, getElem_toArray, getElem_cons_succ, getElem_cons_zero])
        refine t1 (i := 2) (h := fun K hK => ?_)
        go_simp
        refine (HUF wqkx1).mono ?_
        rintro e wqkx9 ⟨rfl, rfl⟩
        dsimp only
        refine hK.out _ _ (hHeld) (fun hHeld => ?_)
        clear hK K
        (try simp only [Act.put, setIfInBounds_toArray, set_cons_zero, set_cons_succ, getElem_toArray, getElem_cons_succ, getElem_cons_zero])
        refine tk (i := 7) (h := ?_)
        (try simp only [Act.put, setIfInBounds_toArray, set_cons_zero, set_cons_succ, getElem_toArray, getElem_cons_succ, getElem_cons_zero])
        refine tk (i := 8) (h := ?_)
        (try simp only [Act.put, setIfInBounds_toArray, set_cons_zero, set_cons_succ, getElem_toArray, getElem_cons_succ, getElem_cons_zero])
        refine tn (i := 9) (h := ?_)
        (try simp only [Act.put, setIfInBounds_toArray, set_cons_zero, set_cons_succ, getElem_toArray, getElem_cons_succ, getElem_cons_zero])
        refine tn (i := 10) (h := ?_)
        (try simp only [Act.put, setIfInBounds_toArray, set_cons_zero, set_cons_succ, getElem_toArray, getElem_cons_succ, getElem_cons_zero])
        refine tn (i := 11) (h := ?_)
        (try simp only [Act.put, setIfInBounds_toArray, set_cons_zero, set_cons_succ, getElem_toArray, getElem_cons_succ, getElem_cons_zero])
        refine tn (i := 12) (h := ?_)
        (try simp only [Act.put, setIfInBounds_toArray, set_cons_zero, set_cons_succ, getElem_toArray, getElem_cons_succ, getElem_cons_zero])
        refine tn (i := 13) (h := ?_)
        (try simp only [Act.put, setIfInBounds_toArray, set_cons_zero, set_cons_succ, getElem_toArray, getElem_cons_succ, getElem_cons_zero])
        refine tn (i := 14) (h := ?_)
        (try simp only [Act.put, setIfInBounds_toArray, set_cons_zero, set_cons_succ, getElem_toArray, getElem_cons_succ, getElem_cons_zero])
        refine tn (i := 15) (h := ?_)
        (try simp only [Act.put, setIfInBounds_toArray, set_cons_zero, set_cons_succ, getElem_toArray, getElem_cons_succ, getElem_cons_zero])
        refine tn (i := 16) (h := ?_)
        (try simp only [Act.put, setIfInBounds_toArray, set_cons_zero, set_cons_succ, getElem_toArray, getElem_cons_succ, getElem_cons_zero])
        refine tn (i := 17) (h := ?_)
        (try simp only [Act.put, setIfInBounds_toArray, set_cons_zero, set_cons_succ, getElem_toArray, getElem_cons_succ, getElem_cons_zero])
        refine tn (i := 18) (h := ?_)
        (try simp only [Act.put, setIfInBounds_toArray, set_cons_zero, set_cons_succ, getElem_toArray, getElem_cons_succ, getElem_cons_zero])
        refine tk (i := 19) (h := ?_)
        (try simp only [Act.put, setIfInBounds_toArray, set_cons_zero, set_cons_succ, getElem_toArray, getElem_cons_succ, getElem_cons_zero])
        refine tk (i := 20) (h := ?_)
        (try simp only [Act.put, setIfInBounds_toArray, set_cons_zero, set_cons_succ, getElem_toArray, getElem_cons_succ, getElem_cons_zero])
        refine tn (i := 21) (h := ?_)
        (try simp only [Act.put, setIfInBounds_toArray, set_cons_zero, set_cons_succ, getElem_toArray, getElem_cons_succ, getElem_cons_zero])
        refine tn (i := 22) (h := ?_)
        (try simp only [Act.put, setIfInBounds_toArray, set_cons_zero, set_cons_succ, getElem_toArray, getElem_cons_succ, getElem_cons_zero])
        refine tn (i := 23) (h := ?_)
        (try simp only [Act.put, setIfInBounds_toArray, set_cons_zero, set_cons_succ, getElem_toArray, getElem_cons_succ, getElem_cons_zero])
        refine tn (i := 24) (h := ?_)
        (try simp only [Act.put, setIfInBounds_toArray, set_cons_zero, set_cons_succ, getElem_toArray, getElem_cons_succ, getElem_cons_zero])
        refine tn (i := 25) (h := ?_)
        (try simp only [Act.put, setIfInBounds_toArray, set_cons_zero, set_cons_succ, getElem_toArray, getElem_cons_succ, getElem_cons_zero])
        refine tn (i := 26) (h := ?_)
        (try simp only [Act.put, setIfInBounds_toArray, set_cons_zero, set_cons_succ, getElem_toArray, getElem_cons_succ, getElem_cons_zero])
        refine tn (i := 27) (h := ?_)
        (try simp only [Act.put, setIfInBounds_toArray, set_cons_zero, set_cons_succ, getElem_toArray, getElem_cons_succ, getElem_cons_zero])
        refine tk (i := 28) (h := ?_)
        (try simp only [Act.put, setIfInBounds_toArray, set_cons_zero, set_cons_succ, getElem_toArray, getElem_cons_succ, getElem_cons_zero])
        refine tk (i := 29) (h := ?_)
        (try simp only [Act.put, setIfInBounds_toArray, set_cons_zero, set_cons_succ, getElem_toArray, getElem_cons_succ, getElem_cons_zero])
        refine tn (i := 30) (h := ?_)
        (try simp only [Act.put, setIfInBounds_toArray, set_cons_zero, set_cons_succ, getElem_toArray, getElem_cons_succ, getElem_cons_zero])
        refine tn (i := 31) (h := ?_)
        (try simp only [Act.put, setIfInBounds_toArray, set_cons_zero, set_cons_succ, getElem_toArray, getElem_cons_succ, getElem_cons_zero])
        refine tn (i := 32) (h := ?_)
        (try simp only [Act.put, setIfInBounds_toArray, set_cons_zero, set_cons_succ, getElem_toArray, getElem_cons_succ, getElem_cons_zero])
        refine tn (i := 33) (h := ?_)
        (try simp only [Act.put, setIfInBounds_toArray, set_cons_zero, set_cons_succ, getElem_toArray, getElem_cons_succ, getElem_cons_zero])
        refine tn (i := 34) (h := ?_)
        (try simp only [Act.put, setIfInBounds_toArray, set_cons_zero, set_cons_succ, getElem_toArray, getElem_cons_succ, getElem_cons_zero])
        refine tn (i := 35) (h := ?_)
        (try simp only [Act.put, setIfInBounds_toArray, set_cons_zero, set_cons_succ, getElem_toArray, getElem_cons_succ, getElem_cons_zero])
        refine tn (i := 36) (h := ?_)
        (try simp only [Act.put, setIfInBounds_toArray, set_cons_zero, set_cons_succ, getElem_toArray, getElem_cons_succ, getElem_cons_zero])
        refine tk (i := 37) (h := ?_)
        (try simp only [Act.put, setIfInBounds_toArray, set_cons_zero, set_cons_succ, getElem_toArray, getElem_cons_succ, getElem_cons_zero])
        refine wpAnyH_done (by kernel_rfl) ?_ _
        go_wp2_with (fail)
        go_meet
        exact ⟨rfl, HB2.out.trans (FB_qkx2.out.mono HB2.out.size)⟩
      · cases hz
      · rcases h4 with ⟨rfl, rfl, rfl⟩ | ⟨rfl, rfl⟩
        · cases hz
        · obtain rfl := hmF rfl
          clear hmT hmF
          rcases hxyc with ⟨rfl, rfl, rfl, rfl⟩ | ⟨rfl, rfl, rfl, rfl, rfl⟩ | ⟨rfl, rfl, rfl, rfl, rfl⟩ | ⟨rfl, rfl, rfl, rfl⟩ | ⟨rfl, rfl, rfl, rfl⟩ | ⟨rfl, rfl, rfl⟩
          · exact absurd hxt.2.1 (by decide)
          · exact absurd hxt.2.1 (by decide)
          · exact absurd hxt.2.1 (by decide)
          · exact absurd hxt.2.1 (by decide)
          · exact absurd hxt.2.1 (by decide)
          · have hE : ft = true := by rw [← HFT.out]; simp [fitM]
            subst hE
            clear HFT
            have FB_0 := Lib.hid (Below.refl w2.heap.size w2)
            go_upto_region 7 with (fail)
            refine wp_region_held_drew (S := fun wx => wx.cell? ⟨w.heap.size, 0, none⟩ = some (.slice A P.length c) ∧ wx.cell? ⟨w.heap.size + 1, 0, none⟩ = some (.slice A2 Q.length c2) ∧ wx.cell? ⟨w.heap.size + 1 + 1, 0, none⟩ = some (.int .i64 r) ∧ wx.cell? ⟨w.heap.size + 1 + 1, 3, none⟩ = some (.int .i64 i) ∧ wx.cell? ⟨w.heap.size + 1 + 1, 4, none⟩ = some (.int .i64 j) ∧ wx.cell? ⟨w.heap.size + 1 + 1, 5, none⟩ = some (.slice B 0 d)) (by kernel_rfl) ⟨e1, e2, e0, ei, ej, ef⟩ (fun hHeld => ?_)
            obtain ⟨wqlx1, hwqlx1⟩ : ∃ w', w' = w2.drew := ⟨_, rfl⟩
            rw [← hwqlx1] at hHeld ⊢
            have bqlx1 : Below w2.heap.size w2 wqlx1 := by rw [hwqlx1]; exact (Below.refl _ _).drew
            clear hwqlx1
            have FB_qlx2 := Lib.hid ((FB_0.out).trans ((bqlx1).mono (FB_0.out).size))
            clear FB_0
            refine tk (i := 0) (h := ?_)
            (try simp only [Act.put, setIfInBounds_toArray, set_cons_zero, set_cons_succ, getElem_toArray, getElem_cons_succ, getElem_cons_zero])
            refine tk (i := 3) (h := ?_)
            (try simp only [Act.put, setIfInBounds_toArray, set_cons_zero, set_cons_succ, getElem_toArray, getElem_cons_succ, getElem_cons_zero])
            refine tk (i := 1) (h := ?_)
            (try simp only [Act.put, setIfInBounds_toArray, set_cons_zero, set_cons_succ, getElem_toArray, getElem_cons_succ, getElem_cons_zero])
            refine tk (i := 4) (h := ?_)
            (try simp only [Act.put, setIfInBounds_toArray, set_cons_zero, set_cons_succ, getElem_toArray, getElem_cons_succ, getElem_cons_zero])
            refine tk (i := 5) (h := ?_)
            (try simp only [Act.put, setIfInBounds_toArray, set_cons_zero, set_cons_succ, getElem_toArray, getElem_cons_succ, getElem_cons_zero])
            refine tk (i := 6) (h := ?_)
            (try simp only [Act.put, setIfInBounds_toArray, set_cons_zero, set_cons_succ, getElem_toArray, getElem_cons_succ, getElem_cons_zero])
            refine t1 (i := 2) (h := fun K hK => ?_)
            go_simp
            refine (HUF wqlx1).mono ?_
            rintro e wqlx9 ⟨rfl, rfl⟩
            dsimp only
            refine hK.out _ _ (hHeld) (fun hHeld => ?_)
            clear hK K
            (try simp only [Act.put, setIfInBounds_toArray, set_cons_zero, set_cons_succ, getElem_toArray, getElem_cons_succ, getElem_cons_zero])
            refine tk (i := 7) (h := ?_)
            (try simp only [Act.put, setIfInBounds_toArray, set_cons_zero, set_cons_succ, getElem_toArray, getElem_cons_succ, getElem_cons_zero])
            refine tk (i := 8) (h := ?_)
            (try simp only [Act.put, setIfInBounds_toArray, set_cons_zero, set_cons_succ, getElem_toArray, getElem_cons_succ, getElem_cons_zero])
            refine tk (i := 9) (h := ?_)
            (try simp only [Act.put, setIfInBounds_toArray, set_cons_zero, set_cons_succ, getElem_toArray, getElem_cons_succ, getElem_cons_zero])
            refine tk (i := 10) (h := ?_)
            (try simp only [Act.put, setIfInBounds_toArray, set_cons_zero, set_cons_succ, getElem_toArray, getElem_cons_succ, getElem_cons_zero])
            refine tk (i := 11) (h := ?_)
            (try simp only [Act.put, setIfInBounds_toArray, set_cons_zero, set_cons_succ, getElem_toArray, getElem_cons_succ, getElem_cons_zero])
            refine tk (i := 12) (h := ?_)
            (try simp only [Act.put, setIfInBounds_toArray, set_cons_zero, set_cons_succ, getElem_toArray, getElem_cons_succ, getElem_cons_zero])
            refine tk (i := 13) (h := ?_)
            (try simp only [Act.put, setIfInBounds_toArray, set_cons_zero, set_cons_succ, getElem_toArray, getElem_cons_succ, getElem_cons_zero])
            refine tn (i := 14) (h := ?_)
            (try simp only [Act.put, setIfInBounds_toArray, set_cons_zero, set_cons_succ, getElem_toArray, getElem_cons_succ, getElem_cons_zero])
            refine tn (i := 15) (h := ?_)
            (try simp only [Act.put, setIfInBounds_toArray, set_cons_zero, set_cons_succ, getElem_toArray, getElem_cons_succ, getElem_cons_zero])
            refine tn (i := 16) (h := ?_)
            (try simp only [Act.put, setIfInBounds_toArray, set_cons_zero, set_cons_succ, getElem_toArray, getElem_cons_succ, getElem_cons_zero])
            refine tn (i := 17) (h := ?_)
            (try simp only [Act.put, setIfInBounds_toArray, set_cons_zero, set_cons_succ, getElem_toArray, getElem_cons_succ, getElem_cons_zero])
            refine tk (i := 18) (h := ?_)
            (try simp only [Act.put, setIfInBounds_toArray, set_cons_zero, set_cons_succ, getElem_toArray, getElem_cons_succ, getElem_cons_zero])
            refine tk (i := 19) (h := ?_)
            (try simp only [Act.put, setIfInBounds_toArray, set_cons_zero, set_cons_succ, getElem_toArray, getElem_cons_succ, getElem_cons_zero])
            refine tk (i := 20) (h := ?_)
            (try simp only [Act.put, setIfInBounds_toArray, set_cons_zero, set_cons_succ, getElem_toArray, getElem_cons_succ, getElem_cons_zero])
            refine tk (i := 21) (h := ?_)
            (try simp only [Act.put, setIfInBounds_toArray, set_cons_zero, set_cons_succ, getElem_toArray, getElem_cons_succ, getElem_cons_zero])
            refine tk (i := 22) (h := ?_)
            (try simp only [Act.put, setIfInBounds_toArray, set_cons_zero, set_cons_succ, getElem_toArray, getElem_cons_succ, getElem_cons_zero])
            refine tk (i := 23) (h := ?_)
            (try simp only [Act.put, setIfInBounds_toArray, set_cons_zero, set_cons_succ, getElem_toArray, getElem_cons_succ, getElem_cons_zero])
            refine tn (i := 24) (h := ?_)
            (try simp only [Act.put, setIfInBounds_toArray, set_cons_zero, set_cons_succ, getElem_toArray, getElem_cons_succ, getElem_cons_zero])
            refine tn (i := 25) (h := ?_)
            (try simp only [Act.put, setIfInBounds_toArray, set_cons_zero, set_cons_succ, getElem_toArray, getElem_cons_succ, getElem_cons_zero])
            refine tn (i := 26) (h := ?_)
            (try simp only [Act.put, setIfInBounds_toArray, set_cons_zero, set_cons_succ, getElem_toArray, getElem_cons_succ, getElem_cons_zero])
            refine tk (i := 27) (h := ?_)
            (try simp only [Act.put, setIfInBounds_toArray, set_cons_zero, set_cons_succ, getElem_toArray, getElem_cons_succ, getElem_cons_zero])
            refine tk (i := 28) (h := ?_)
            (try simp only [Act.put, setIfInBounds_toArray, set_cons_zero, set_cons_succ, getElem_toArray, getElem_cons_succ, getElem_cons_zero])
            refine tk (i := 29) (h := ?_)
            (try simp only [Act.put, setIfInBounds_toArray, set_cons_zero, set_cons_succ, getElem_toArray, getElem_cons_succ, getElem_cons_zero])
            refine tk (i := 30) (h := ?_)
            (try simp only [Act.put, setIfInBounds_toArray, set_cons_zero, set_cons_succ, getElem_toArray, getElem_cons_succ, getElem_cons_zero])
            refine tk (i := 31) (h := ?_)
            (try simp only [Act.put, setIfInBounds_toArray, set_cons_zero, set_cons_succ, getElem_toArray, getElem_cons_succ, getElem_cons_zero])
            refine tk (i := 32) (h := ?_)
            (try simp only [Act.put, setIfInBounds_toArray, set_cons_zero, set_cons_succ, getElem_toArray, getElem_cons_succ, getElem_cons_zero])
            refine tn (i := 33) (h := ?_)
            (try simp only [Act.put, setIfInBounds_toArray, set_cons_zero, set_cons_succ, getElem_toArray, getElem_cons_succ, getElem_cons_zero])
            refine tn (i := 34) (h := ?_)
            (try simp only [Act.put, setIfInBounds_toArray, set_cons_zero, set_cons_succ, getElem_toArray, getElem_cons_succ, getElem_cons_zero])
            refine tn (i := 35) (h := ?_)
            (try simp only [Act.put, setIfInBounds_toArray, set_cons_zero, set_cons_succ, getElem_toArray, getElem_cons_succ, getElem_cons_zero])
            refine tk (i := 36) (h := ?_)
            (try simp only [Act.put, setIfInBounds_toArray, set_cons_zero, set_cons_succ, getElem_toArray, getElem_cons_succ, getElem_cons_zero])
            refine tk (i := 37) (h := ?_)
            (try simp only [Act.put, setIfInBounds_toArray, set_cons_zero, set_cons_succ, getElem_toArray, getElem_cons_succ, getElem_cons_zero])
            refine wpAnyH_done (by kernel_rfl) ?_ _
            go_wp2_with (fail)
            go_meet
            exact ⟨rfl, HB2.out.trans (FB_qlx2.out.mono HB2.out.size)⟩
    case rest =>
      obtain ⟨rfl, hcb⟩ := hcut
      rename World => w3
      have HB3 := Lib.hid hcb
      clear hcb e1 e2 e0 ei ej ef HUF HVF HVP HVQ HPM HPO hlp hlf HFT
      obtain ⟨e1, e2, e0, ei, ej, ef⟩ := HKX.out w3 HB3.out
      cases ft with
      | false =>
        go_wp2
        go_ret
        exact gc_no (k := 3) (by decide) (by rw [HE.out]; rfl) (HBU.out.trans (HB3.out.mono HBU.out.size))
      | true =>
        obtain ⟨pm, hpm⟩ : ∃ pm, posM r i j P.length Q.length = pm := ⟨_, rfl⟩
        have HPM3 := Lib.hid hpm
        rw [hpm] at HE HPM2
        go_upto_region 9 with (fail)
        go_cut [111] (fun t wx => t = .bool (!pm) ∧ Below u.heap.size u wx)
        case first =>
          have hxx : (x = false ∧ y = false ∧ kp = 0) ∨ (x = true ∧ y = false ∧ kp = 1) ∨ (x = true ∧ y = true ∧ kp = 2 ∧ np = 1) ∨ (x = true ∧ y = true ∧ kp = 2 ∧ np = 2) := by
            rcases hcl with ⟨rfl, rfl, rfl, rfl⟩ | ⟨rfl, rfl, rfl, rfl⟩ | ⟨rfl, rfl, rfl, rfl⟩ | ⟨rfl, rfl, rfl, rfl⟩ | ⟨rfl, rfl, rfl, rfl⟩ <;> simp
          have hy2 : y = true := by
            have hp := HCK.out.2
            rcases hcl with ⟨rfl, rfl, rfl, rfl⟩ | ⟨rfl, rfl, rfl, rfl⟩ | ⟨rfl, rfl, rfl, rfl⟩ | ⟨rfl, rfl, rfl, rfl⟩ | ⟨-, rfl, rfl, rfl⟩
            · exact absurd hp (by decide)
            · exact absurd hp (by decide)
            · exact absurd hp (by decide)
            · exact absurd hp (by decide)
            · rfl
          clear hcl HE HPM3 hpm
          generalize posB i P.length = p1 at *
          rcases hxx with ⟨rfl, rfl, rfl⟩ | ⟨rfl, rfl, rfl⟩ | ⟨rfl, rfl, rfl, rfl⟩ | ⟨rfl, rfl, rfl, rfl⟩
          · exact absurd hy2 (by decide)
          · exact absurd hy2 (by decide)
          · exact absurd HCK.out.2 (by decide)
          · have hE : pm = (p1 && posB j Q.length) := by rw [HPM2.out]; simp
            generalize posB j Q.length = p2 at *
            subst hE
            go_wp2_with (fail)
            refine (HIP.out w3).mono ?_
            rintro e w4 ⟨rfl, b4⟩
            have HB4 := Lib.hid (HB3.out.trans (b4.mono HB3.out.size))
            clear b4 HPM2 e1 e2 e0 ei ej ef
            obtain ⟨e1, e2, e0, ei, ej, ef⟩ := HKX.out w4 HB4.out
            cases p1 with
            | false =>
              go_wp2_with (fail)
              go_meet
              exact ⟨rfl, HB4.out⟩
            | true =>
              go_wp2_with (fail)
              refine (HJQ.out w4).mono ?_
              rintro e w5 ⟨rfl, b5⟩
              have HB5 := Lib.hid (HB4.out.trans (b5.mono HB4.out.size))
              clear b5
              cases p2
              all_goals go_wp2_with (fail)
              all_goals go_meet
              all_goals exact ⟨rfl, HB5.out⟩
        case rest =>
          obtain ⟨rfl, hcb⟩ := hcut
          rename World => w5
          have HB5 := Lib.hid hcb
          clear hcb e1 e2 e0 ei ej ef HIP HJP HJQ
          obtain ⟨e1, e2, e0, ei, ej, ef⟩ := HKX.out w5 HB5.out
          cases pm with
          | false =>
            go_wp2
            go_ret
            exact gc_no (k := 4) (by decide) (by rw [HE.out]; rfl) (HBU.out.trans (HB5.out.mono HBU.out.size))
          | true =>
            have HE2 : Hid (cdB r i j F P Q = ctxB r i j P Q) := Lib.hid (by rw [HE.out]; rfl)
            have HRX := Lib.hid (HRP.out w5 HB5.out); have HRY := Lib.hid (HRQ.out w5 HB5.out)
            have HVX : Hid (∀ q ∈ P, validB q = true) := Lib.hid fun q hq => validQ_mem HPV.out hq
            have HVY : Hid (∀ q ∈ Q, validB q = true) := Lib.hid fun q hq => validQ_mem HQV.out hq
            have HEND : Hid (∀ wx, Below u.heap.size u wx → Below w.heap.size w wx) := Lib.hid fun wx hx => HBU.out.trans (hx.mono HBU.out.size)
            clear hbi hbj HPM2 hpm hcl HE HRP HRQ
            by_cases r4 : r = 4
            · subst r4
              exact absurd hcls (by decide)
            · by_cases r14 : r = 14
              · subst r14
                exact absurd hcls (by decide)
              · have q4 : (r == 4) = false := beq_eq_false_iff_ne.2 r4
                have q14 : (r == 14) = false := beq_eq_false_iff_ne.2 r14
                by_cases r2 : r = 2
                · clear q4 q14 r4 r14
                  subst r2
                  obtain ⟨ii, rfl, hii⟩ := posM_I HPM3.out rfl
                  obtain ⟨jj, rfl, hjj⟩ := posM_J2 HPM3.out rfl rfl
                  obtain ⟨bp, op, rfl, hbp, hatP⟩ := HRX.out.2 (by omega)
                  obtain ⟨Ai, ci, hci, hcci, rdi⟩ := hatP ii hii
                  have HVI := Lib.hid (HVX.out _ (getD_mem hii))
                  obtain ⟨Pi, hPi⟩ : ∃ Pi, P.getD ii [] = Pi := ⟨_, rfl⟩
                  rw [hPi] at hci hcci rdi HVI
                  have HPI := Lib.hid hPi; have HCI := Lib.hid hci; have HRI := Lib.hid rdi; have HBP := Lib.hid hbp
                  obtain ⟨bq, oq, rfl, hbq, hatQ⟩ := HRY.out.2 (by omega)
                  obtain ⟨Aj, cj, hcj, hccj, rdj⟩ := hatQ jj hjj
                  have HVJ := Lib.hid (HVY.out _ (getD_mem hjj))
                  obtain ⟨Qj, hQj⟩ : ∃ Qj, Q.getD jj [] = Qj := ⟨_, rfl⟩
                  rw [hQj] at hcj hccj rdj HVJ
                  have HQJ := Lib.hid hQj; have HCJ := Lib.hid hcj; have HRJ := Lib.hid rdj; have HBQ := Lib.hid hbq
                  have HSX : Hid (∀ wx, Below w5.heap.size w5 wx → wx.cell? ⟨w.heap.size, 0, none⟩ = some (.slice (some ⟨bp, op, none⟩) P.length c) ∧ wx.cell? ⟨w.heap.size + 1, 0, none⟩ = some (.slice (some ⟨bq, oq, none⟩) Q.length c2) ∧ wx.cell? ⟨w.heap.size + 1 + 1, 3, none⟩ = some (.int .i64 ((ii : Nat) : Int)) ∧ wx.cell? ⟨w.heap.size + 1 + 1, 4, none⟩ = some (.int .i64 ((jj : Nat) : Int)) ∧ wx.cell? ⟨bp, op + ii, none⟩ = some (.slice Ai Pi.length ci) ∧ wx.cell? ⟨bq, oq + jj, none⟩ = some (.slice Aj Qj.length cj)) := Lib.hid fun wx hx => by
                    obtain ⟨e1, e2, e0, ei, ej, ef⟩ := HKX.out wx (HB5.out.trans (hx.mono HB5.out.size))
                    exact ⟨e1, e2, ei, ej, (hx.cell (p := ⟨bp, op + ii, none⟩) HBP.out).trans HCI.out, (hx.cell (p := ⟨bq, oq + jj, none⟩) HBQ.out).trans HCJ.out⟩
                  have HDU := Lib.hid (fun (wx : World) (hx : Below w5.heap.size w5 wx) => sdual_any Ai ci Pi wx ((HRI.out.below hx).more hx.size) HVI.out)
                  have HDL : Hid (dualL Pi = Pi.map duZ) := Lib.hid (dualL_yes HVI.out)
                  obtain ⟨Di, hDi⟩ : ∃ Di, Pi.map duZ = Di := ⟨_, rfl⟩
                  rw [hDi] at HDU HDL
                  have HLD : Hid (Di.length ≤ 1048576 ∧ Qj.length ≤ 1048576) := Lib.hid (by rw [← hDi, List.length_map]; have h1 := valid_len HVI.out; have h2 := valid_len HVJ.out; omega)
                  have HSI := Lib.hid (fun (Ad : Option Addr) (cd : Nat) (wx : World) (hx : Below w5.heap.size w5 wx) (h : RdI wx wx.heap.size Ad Di.length Di) => sameInts_any Ad Aj Di.length Qj.length cd cj Di Qj wx h ((HRJ.out.below hx).more hx.size) HLD.out.1 HLD.out.2)
                  unfold Same at HSI
                  have HCX : Hid (cdB 2 ii jj F P Q = decide (Di = Qj)) := Lib.hid (by rw [HE2.out]; show decide (Q.getD ((jj : Nat) : Int).toNat [] = dualL (P.getD ((ii : Nat) : Int).toNat [])) = _; rw [Int.toNat_natCast, Int.toNat_natCast, HPI.out, HQJ.out, HDL.out]; exact decide_eq_decide.2 eq_comm)
                  generalize decide (Di = Qj) = bb at *
                  generalize cdB 2 ii jj F P Q = V at *
                  clear hDi hPi hQj hci hcj rdi rdj hbp hbq hatP hatQ hcci hccj HPM3 HE2 HVX HVY HRX HRY
                  have FB_0 := Lib.hid (Below.refl w5.heap.size w5)
                  go_upto_region 21 with (fail)
                  clear e1 e2 e0 ei ej ef
                  refine wp_region_held_drew (S := fun wx => wx.cell? ⟨w.heap.size, 0, none⟩ = some (.slice (some ⟨bp, op, none⟩) P.length c) ∧ wx.cell? ⟨w.heap.size + 1, 0, none⟩ = some (.slice (some ⟨bq, oq, none⟩) Q.length c2) ∧ wx.cell? ⟨w.heap.size + 1 + 1, 3, none⟩ = some (.int .i64 ((ii : Nat) : Int)) ∧ wx.cell? ⟨w.heap.size + 1 + 1, 4, none⟩ = some (.int .i64 ((jj : Nat) : Int)) ∧ wx.cell? ⟨bp, op + ii, none⟩ = some (.slice Ai Pi.length ci) ∧ wx.cell? ⟨bq, oq + jj, none⟩ = some (.slice Aj Qj.length cj)) (by kernel_rfl) (HSX.out _ (Below.refl _ _).drew) (fun hHeld => ?_)
                  obtain ⟨wsix1, hwsix1⟩ : ∃ w', w' = w5.drew := ⟨_, rfl⟩
                  rw [← hwsix1] at hHeld ⊢
                  have bsix1 : Below w5.heap.size w5 wsix1 := by rw [hwsix1]; exact (Below.refl _ _).drew
                  clear hwsix1
                  have FB_six2 := Lib.hid ((FB_0.out).trans ((bsix1).mono (FB_0.out).size))
                  clear FB_0
                  refine tk (i := 0) (h := ?_)
                  (try simp only [Act.put, setIfInBounds_toArray, set_cons_zero, set_cons_succ, getElem_toArray, getElem_cons_succ, getElem_cons_zero])
                  refine tk (i := 2) (h := ?_)
                  (try simp only [Act.put, setIfInBounds_toArray, set_cons_zero, set_cons_succ, getElem_toArray, getElem_cons_succ, getElem_cons_zero])
                  refine tk (i := 7) (h := ?_)
                  (try simp only [Act.put, setIfInBounds_toArray, set_cons_zero, set_cons_succ, getElem_toArray, getElem_cons_succ, getElem_cons_zero])
                  refine tk (i := 9) (h := ?_)
                  (try simp only [Act.put, setIfInBounds_toArray, set_cons_zero, set_cons_succ, getElem_toArray, getElem_cons_succ, getElem_cons_zero])
                  refine tk (i := 1) (h := ?_)
                  (try simp only [Act.put, setIfInBounds_toArray, set_cons_zero, set_cons_succ, getElem_toArray, getElem_cons_succ, getElem_cons_zero])
                  refine tk (i := 3) (h := ?_)
                  (try simp only [Act.put, setIfInBounds_toArray, set_cons_zero, set_cons_succ, getElem_toArray, getElem_cons_succ, getElem_cons_zero])
                  refine tk (i := 8) (h := ?_)
                  (try simp only [Act.put, setIfInBounds_toArray, set_cons_zero, set_cons_succ, getElem_toArray, getElem_cons_succ, getElem_cons_zero])
                  refine tk (i := 10) (h := ?_)
                  (try simp only [Act.put, setIfInBounds_toArray, set_cons_zero, set_cons_succ, getElem_toArray, getElem_cons_succ, getElem_cons_zero])
                  refine tk (i := 4) (h := ?_)
                  (try simp only [Act.put, setIfInBounds_toArray, set_cons_zero, set_cons_succ, getElem_toArray, getElem_cons_succ, getElem_cons_zero])
                  refine tk (i := 11) (h := ?_)
                  (try simp only [Act.put, setIfInBounds_toArray, set_cons_zero, set_cons_succ, getElem_toArray, getElem_cons_succ, getElem_cons_zero])
                  refine tk (i := 5) (h := ?_)
                  (try simp only [Act.put, setIfInBounds_toArray, set_cons_zero, set_cons_succ, getElem_toArray, getElem_cons_succ, getElem_cons_zero])
                  refine tk (i := 12) (h := ?_)
                  (try simp only [Act.put, setIfInBounds_toArray, set_cons_zero, set_cons_succ, getElem_toArray, getElem_cons_succ, getElem_cons_zero])
                  refine t1 (i := 6) (h := fun K hK => ?_)
                  go_simp
                  refine (HDU.out wsix1 FB_six2.out).mono ?_
                  rintro e wsix15 ⟨Adsix15, cdsix15, rfl, ownsix15, belsix15⟩
                  dsimp only
                  have FB_six16 := Lib.hid ((FB_six2.out).trans ((belsix15).mono (FB_six2.out).size))
                  clear FB_six2
                  have FR_six15 := Lib.hid (RdI.of_own ownsix15)
                  clear ownsix15 belsix15
                  refine hK.out _ _ (HSX.out _ FB_six16.out) (fun hHeld => ?_)
                  clear hK K
                  (try simp only [Act.put, setIfInBounds_toArray, set_cons_zero, set_cons_succ, getElem_toArray, getElem_cons_succ, getElem_cons_zero])
                  refine t1 (i := 13) (h := fun K hK => ?_)
                  go_simp
                  refine (HSI.out Adsix15 cdsix15 wsix15 FB_six16.out FR_six15.out).mono ?_
                  rintro e wsix17 ⟨rfl, belsix17⟩
                  dsimp only
                  have FB_six18 := Lib.hid ((FB_six16.out).trans ((belsix17).mono (FB_six16.out).size))
                  have FR_six19 := Lib.hid (((FR_six15.out).below (belsix17)).more (belsix17).size)
                  clear FB_six16 FR_six15
                  clear belsix17
                  refine hK.out _ _ (HSX.out _ FB_six18.out) (fun hHeld => ?_)
                  clear hK K
                  (try simp only [Act.put, setIfInBounds_toArray, set_cons_zero, set_cons_succ, getElem_toArray, getElem_cons_succ, getElem_cons_zero])
                  refine tk (i := 14) (h := ?_)
                  (try simp only [Act.put, setIfInBounds_toArray, set_cons_zero, set_cons_succ, getElem_toArray, getElem_cons_succ, getElem_cons_zero])
                  refine wpAnyH_done (by kernel_rfl) ?_ _
                  have HB9 := Lib.hid (HEND.out _ (HB5.out.trans (FB_six18.out.mono HB5.out.size)))
                  cases bb with
                  | false =>
                    have HN := Lib.hid HCX.out
                    clear HSX
                    go_wp2
                    go_ret
                    exact gc_no (k := 5) (by decide) HN.out HB9.out
                  | true =>
                    have HN := Lib.hid HCX.out
                    clear HSX
                    go_wp2
                    go_ret
                    exact gc_yes HN.out HB9.out
                · by_cases r13 : r = 13
                  · clear q4 q14 r4 r14 r2
                    subst r13
                    exact absurd hcls (by decide)
                  · by_cases r7 : r = 7
                    · clear q4 q14 r4 r14 r2 r13
                      subst r7
                      obtain ⟨ii, rfl, hii⟩ := posM_I HPM3.out rfl
                      obtain ⟨jj, rfl, hjj⟩ := posM_J2 HPM3.out rfl rfl
                      obtain ⟨bp, op, rfl, hbp, hatP⟩ := HRX.out.2 (by omega)
                      obtain ⟨bq, oq, rfl, hbq, hatQ⟩ := HRY.out.2 (by omega)
                      have HSX : Hid (∀ wx, Below w5.heap.size w5 wx → wx.cell? ⟨w.heap.size, 0, none⟩ = some (.slice (some ⟨bp, op, none⟩) P.length c) ∧ wx.cell? ⟨w.heap.size + 1, 0, none⟩ = some (.slice (some ⟨bq, oq, none⟩) Q.length c2) ∧ wx.cell? ⟨w.heap.size + 1 + 1, 3, none⟩ = some (.int .i64 ((ii : Nat) : Int)) ∧ wx.cell? ⟨w.heap.size + 1 + 1, 4, none⟩ = some (.int .i64 ((jj : Nat) : Int))) := Lib.hid fun wx hx => by
                        obtain ⟨e1, e2, e0, ei, ej, ef⟩ := HKX.out wx (HB5.out.trans (hx.mono HB5.out.size))
                        exact ⟨e1, e2, ei, ej⟩
                      have HCX0 : Hid (cdB 7 ii jj F P Q = decide (woL P [((ii : Nat) : Int)] = woL Q [((jj : Nat) : Int)])) := Lib.hid (by rw [HE2.out]; show decide (woL P [((((ii : Nat) : Int).toNat : Nat) : Int)] = woL Q [((((jj : Nat) : Int).toNat : Nat) : Int)]) = _; rw [Int.toNat_natCast, Int.toNat_natCast])
                      have HWP := Lib.hid (fun (wx : World) (hx : Below w5.heap.size w5 wx) => sWithout_any (some ⟨bp, op, none⟩) P.length c P ii wx ((HRX.out.below hx).more hx.size) (by omega) hnc hii)
                      have HWQ := Lib.hid (fun (wx : World) (hx : Below w5.heap.size w5 wx) => sWithout_any (some ⟨bq, oq, none⟩) Q.length c2 Q jj wx ((HRY.out.below hx).more hx.size) (by omega) hnc2 hjj)
                      have HL1 : Hid ((woL P [((ii : Nat) : Int)]).length ≤ 1048576 ∧ (woL Q [((jj : Nat) : Int)]).length ≤ 1048576) := Lib.hid (by have h1 := woK_len P [((ii : Nat) : Int)] P.length; have h2 := woK_len Q [((jj : Nat) : Int)] Q.length; unfold woL; omega)
                      have HM1 : Hid ((∀ q ∈ woL P [((ii : Nat) : Int)], q.length ≤ 1048576) ∧ (∀ q ∈ woL Q [((jj : Nat) : Int)], q.length ≤ 1048576)) := Lib.hid ⟨fun q hq => by have := woL_le (fun q hq => by have := valid_len (HVX.out q hq); omega) q hq; omega, fun q hq => by have := woL_le (fun q hq => by have := valid_len (HVY.out q hq); omega) q hq; omega⟩
                      generalize woL P [((ii : Nat) : Int)] = R1 at *
                      generalize woL Q [((jj : Nat) : Int)] = R2 at *
                      have HSF := Lib.hid (fun (A1 A2 : Option Addr) (k1 k2 : Nat) (wx : World) (h : RdQ wx wx.heap.size A1 R1.length R1) (h2 : RdQ wx wx.heap.size A2 R2.length R2) => sameF_b A1 A2 R1.length R2.length k1 k2 R1 R2 wx h h2 HL1.out.1 HL1.out.2 HM1.out.1 HM1.out.2)
                      have HCX := HCX0
                      generalize decide (R1 = R2) = bb at *
                      generalize cdB 7 ii jj F P Q = V at *
                      clear HCX0 hbp hatP hbq hatQ HPM3 HE2 HVX HVY HRX HRY hii hjj
                      have FB_0 := Lib.hid (Below.refl w5.heap.size w5)
                      go_upto_region 27 with (fail)
                      clear e1 e2 e0 ei ej ef
                      refine wp_region_held_drew (S := fun wx => wx.cell? ⟨w.heap.size, 0, none⟩ = some (.slice (some ⟨bp, op, none⟩) P.length c) ∧ wx.cell? ⟨w.heap.size + 1, 0, none⟩ = some (.slice (some ⟨bq, oq, none⟩) Q.length c2) ∧ wx.cell? ⟨w.heap.size + 1 + 1, 3, none⟩ = some (.int .i64 ((ii : Nat) : Int)) ∧ wx.cell? ⟨w.heap.size + 1 + 1, 4, none⟩ = some (.int .i64 ((jj : Nat) : Int))) (by kernel_rfl) (HSX.out _ (Below.refl _ _).drew) (fun hHeld => ?_)
                      obtain ⟨wsjx1, hwsjx1⟩ : ∃ w', w' = w5.drew := ⟨_, rfl⟩
                      rw [← hwsjx1] at hHeld ⊢
                      have bsjx1 : Below w5.heap.size w5 wsjx1 := by rw [hwsjx1]; exact (Below.refl _ _).drew
                      clear hwsjx1
                      have FB_sjx2 := Lib.hid ((FB_0.out).trans ((bsjx1).mono (FB_0.out).size))
                      clear FB_0
                      refine tk (i := 0) (h := ?_)
                      (try simp only [Act.put, setIfInBounds_toArray, set_cons_zero, set_cons_succ, getElem_toArray, getElem_cons_succ, getElem_cons_zero])
                      refine tk (i := 2) (h := ?_)
                      (try simp only [Act.put, setIfInBounds_toArray, set_cons_zero, set_cons_succ, getElem_toArray, getElem_cons_succ, getElem_cons_zero])
                      refine tk (i := 5) (h := ?_)
                      (try simp only [Act.put, setIfInBounds_toArray, set_cons_zero, set_cons_succ, getElem_toArray, getElem_cons_succ, getElem_cons_zero])
                      refine tk (i := 7) (h := ?_)
                      (try simp only [Act.put, setIfInBounds_toArray, set_cons_zero, set_cons_succ, getElem_toArray, getElem_cons_succ, getElem_cons_zero])
                      refine tk (i := 1) (h := ?_)
                      (try simp only [Act.put, setIfInBounds_toArray, set_cons_zero, set_cons_succ, getElem_toArray, getElem_cons_succ, getElem_cons_zero])
                      refine tk (i := 3) (h := ?_)
                      (try simp only [Act.put, setIfInBounds_toArray, set_cons_zero, set_cons_succ, getElem_toArray, getElem_cons_succ, getElem_cons_zero])
                      refine tk (i := 6) (h := ?_)
                      (try simp only [Act.put, setIfInBounds_toArray, set_cons_zero, set_cons_succ, getElem_toArray, getElem_cons_succ, getElem_cons_zero])
                      refine tk (i := 8) (h := ?_)
                      (try simp only [Act.put, setIfInBounds_toArray, set_cons_zero, set_cons_succ, getElem_toArray, getElem_cons_succ, getElem_cons_zero])
                      refine t1 (i := 4) (h := fun K hK => ?_)
                      go_simp
                      refine (HWP.out wsjx1 FB_sjx2.out).mono ?_
                      rintro e wsjx11 ⟨Asjx11, ksjx11, vssjx11, rfl, ownsjx11, rdsjx11, belsjx11⟩
                      dsimp only
                      have FB_sjx12 := Lib.hid ((FB_sjx2.out).trans ((belsjx11).mono (FB_sjx2.out).size))
                      clear FB_sjx2
                      have FQ1_sjx11 := Lib.hid ((rdsjx11.below belsjx11).rd ownsjx11)
                      clear ownsjx11 rdsjx11 belsjx11
                      refine hK.out _ _ (HSX.out _ FB_sjx12.out) (fun hHeld => ?_)
                      clear hK K
                      (try simp only [Act.put, setIfInBounds_toArray, set_cons_zero, set_cons_succ, getElem_toArray, getElem_cons_succ, getElem_cons_zero])
                      refine t1 (i := 9) (h := fun K hK => ?_)
                      go_simp
                      refine (HWQ.out wsjx11 FB_sjx12.out).mono ?_
                      rintro e wsjx13 ⟨Asjx13, ksjx13, vssjx13, rfl, ownsjx13, rdsjx13, belsjx13⟩
                      dsimp only
                      have FB_sjx14 := Lib.hid ((FB_sjx12.out).trans ((belsjx13).mono (FB_sjx12.out).size))
                      have FQ1_sjx15 := Lib.hid (((FQ1_sjx11.out).below (belsjx13)).more (belsjx13).size)
                      clear FB_sjx12 FQ1_sjx11
                      have FQ2_sjx13 := Lib.hid ((rdsjx13.below belsjx13).rd ownsjx13)
                      clear ownsjx13 rdsjx13 belsjx13
                      refine hK.out _ _ (HSX.out _ FB_sjx14.out) (fun hHeld => ?_)
                      clear hK K
                      (try simp only [Act.put, setIfInBounds_toArray, set_cons_zero, set_cons_succ, getElem_toArray, getElem_cons_succ, getElem_cons_zero])
                      refine t1 (i := 10) (h := fun K hK => ?_)
                      go_simp
                      refine (HSF.out Asjx11 Asjx13 ksjx11 ksjx13 wsjx13 FQ1_sjx15.out FQ2_sjx13.out).mono ?_
                      rintro e wsjx16 ⟨rfl, belsjx16⟩
                      dsimp only
                      have FB_sjx17 := Lib.hid ((FB_sjx14.out).trans ((belsjx16).mono (FB_sjx14.out).size))
                      have FQ1_sjx18 := Lib.hid (((FQ1_sjx15.out).below (belsjx16)).more (belsjx16).size)
                      have FQ2_sjx19 := Lib.hid (((FQ2_sjx13.out).below (belsjx16)).more (belsjx16).size)
                      clear FB_sjx14 FQ1_sjx15 FQ2_sjx13
                      clear belsjx16
                      refine hK.out _ _ (HSX.out _ FB_sjx17.out) (fun hHeld => ?_)
                      clear hK K
                      (try simp only [Act.put, setIfInBounds_toArray, set_cons_zero, set_cons_succ, getElem_toArray, getElem_cons_succ, getElem_cons_zero])
                      refine tk (i := 11) (h := ?_)
                      (try simp only [Act.put, setIfInBounds_toArray, set_cons_zero, set_cons_succ, getElem_toArray, getElem_cons_succ, getElem_cons_zero])
                      refine wpAnyH_done (by kernel_rfl) ?_ _
                      have HB9 := Lib.hid (HEND.out _ (HB5.out.trans (FB_sjx17.out.mono HB5.out.size)))
                      cases bb with
                      | false =>
                        have HN := Lib.hid HCX.out
                        clear HSX
                        go_wp2
                        go_ret
                        exact gc_no (k := 6) (by decide) HN.out HB9.out
                      | true =>
                        have HN := Lib.hid HCX.out
                        clear HSX
                        go_wp2
                        go_ret
                        exact gc_yes HN.out HB9.out
                    · by_cases r10 : r = 10
                      · clear q4 q14 r4 r14 r2 r13 r7
                        subst r10
                        exact absurd hcls (by decide)
                      · have q2 : (r == 2) = false := beq_eq_false_iff_ne.2 r2
                        have q7 : (r == 7) = false := beq_eq_false_iff_ne.2 r7
                        have q10 : (r == 10) = false := beq_eq_false_iff_ne.2 r10
                        have q13 : (r == 13) = false := beq_eq_false_iff_ne.2 r13
                        have HN : Hid (cdB r i j F P Q = true) := Lib.hid (by rw [HE2.out]; unfold ctxB; rw [if_neg r2, if_neg r4, if_neg r7, if_neg r10, if_neg r13, if_neg r14])
                        clear HPM3 r2 r4 r7 r10 r13 r14
                        go_wp2
                        go_ret
                        exact gc_yes HN.out (HEND.out _ HB5.out)
end Go.Proofs.YthbkcpacgnmcfaaGreatDoor
