/- The model's stepCode. The model's stepCode, rules of kind 1, fields of way 0. Made by mkcmc.py. -/
import Derived.Test.YthbkcpacgnmcfaaGreatDoorQCkX
import Derived.Test.YthbkcpacgnmcfaaGreatDoorQCmD
import Derived.Test.YthbkcpacgnmcfaaGreatDoorQSubA
namespace Go.Proofs.YthbkcpacgnmcfaaGreatDoor
set_option linter.unusedSimpArgs false
set_option linter.unusedVariables false
section
open Go.ChangeAt Go.ChangeShapes Go.RowKit Go.WideShapes

/-- The rules by how many premises and positions they have. -/
theorem ru_class : ∀ r : Int, 1 ≤ r → r ≤ 14 → (ruP r = 0 ∧ ruK r = 0 ∧ ruI r = false ∧ ruJ r = false) ∨ (ruP r = 1 ∧ ruK r = 0 ∧ ruI r = false ∧ ruJ r = false) ∨ (ruP r = 1 ∧ ruK r = 1 ∧ ruI r = true ∧ ruJ r = false) ∨ (ruP r = 1 ∧ ruK r = 2 ∧ ruI r = true ∧ ruJ r = true) ∨ (ruP r = 2 ∧ ruK r = 2 ∧ ruI r = true ∧ ruJ r = true) :=
  ru_cases (by decide) (by decide) (by decide) (by decide) (by decide) (by decide) (by decide) (by decide) (by decide) (by decide) (by decide) (by decide) (by decide) (by decide)
theorem fit_cases (z lp vb : Bool) : (z = true ∧ lp = false) ∨ (z = false ∧ lp = true) ∨ (z = true ∧ lp = true ∧ vb = false) ∨ (z = true ∧ lp = true ∧ vb = true) ∨ (z = false ∧ lp = false) := by cases z <;> cases lp <;> cases vb <;> simp
/-- Whether a step's fields fit, as the model asks it. -/
def fitM (z lp vb x bi y bj : Bool) : Bool := (z == lp) && ((!lp || vb) && ((x || !bi) && (y || !bj)))
theorem op18 {f : List Int} (h : validB f = true) : opOf f = 18 ↔ f.getD 0 0 = 18 := by
  cases hl : leafB (f.getD 0 0) with
  | true =>
    rw [opOf_leaf h hl]
    constructor
    · intro e; cases e
    · intro e; rw [e] at hl; exact absurd hl (by decide)
  | false => rw [opOf_op h hl]
theorem ii_same {a b : Nat} : (((a : Nat) : Int) == ((b : Nat) : Int)) = decide (a = b) := by
  by_cases h : a = b
  · subst h; simp
  · rw [decide_eq_false h, beq_eq_false_iff_ne]; omega
theorem sameF_b (A B : Option Addr) (n m c d : Nat) (zs ys : List (List Int)) (w : World) (h : RdQ w w.heap.size A n zs) (h' : RdQ w w.heap.size B m ys) (hn : n ≤ 1048576) (hm : m ≤ 1048576) (hz : ∀ q ∈ zs, q.length ≤ 1048576) (hy : ∀ q ∈ ys, q.length ≤ 1048576) :
    Calls Tryz.prog 70 #[.slice A n c, .slice B m d] w fun e w' => e = .returned (.bool (decide (zs = ys))) ∧ Below w.heap.size w w' :=
  (sameForms_any A B n m c d zs ys w _ _ h h' hn hm hz hy).mono fun _ _ ⟨h1, m, h2⟩ => ⟨h1, by rw [h2]; exact below_drewN (Below.refl _ _) m⟩
theorem fitM_is (x y z : Bool) (i j : Int) (F : List Int) : fitV x y z i j F = fitM z (decide (0 < F.length)) (validB F) x (i != 0) y (j != 0) := by
  unfold fitV fitM
  have h1 : (!(i != 0)) = decide (i = 0) := by cases h : decide (i = 0) <;> simp_all
  have h2 : (!(j != 0)) = decide (j = 0) := by cases h : decide (j = 0) <;> simp_all
  rw [h1, h2]
  by_cases h0 : F.length = 0
  · have hv : validB F = false := by
      rw [List.eq_nil_of_length_eq_zero h0]; rfl
    rw [hv, decide_eq_false (show ¬ 0 < F.length by omega), decide_eq_true h0]
    cases z <;> simp
  · rw [decide_eq_true (show 0 < F.length by omega), decide_eq_false h0]
    cases z <;> cases validB F <;> simp

/-- Three kinds of rules: with a formula, with two premises, the others. -/
def clsR (r : Int) : Nat := if ruF r = true then 1 else if ruP r = 2 then 2 else 3
theorem cls_1 : ∀ r : Int, 1 ≤ r → r ≤ 14 → clsR r = 1 → ruF r = true ∧ ruJ r = false := ru_cases (by decide) (by decide) (by decide) (by decide) (by decide) (by decide) (by decide) (by decide) (by decide) (by decide) (by decide) (by decide) (by decide) (by decide)
theorem cls_2 : ∀ r : Int, 1 ≤ r → r ≤ 14 → clsR r = 2 → ruF r = false ∧ ruP r = 2 := ru_cases (by decide) (by decide) (by decide) (by decide) (by decide) (by decide) (by decide) (by decide) (by decide) (by decide) (by decide) (by decide) (by decide) (by decide)
theorem cls_3 : ∀ r : Int, 1 ≤ r → r ≤ 14 → clsR r = 3 → ruF r = false ∧ ruP r ≠ 2 := ru_cases (by decide) (by decide) (by decide) (by decide) (by decide) (by decide) (by decide) (by decide) (by decide) (by decide) (by decide) (by decide) (by decide) (by decide)
theorem cls_any (r : Int) : clsR r = 1 ∨ clsR r = 2 ∨ clsR r = 3 := by
  unfold clsR
  split
  · exact .inl rfl
  · split
    · exact .inr (.inl rfl)
    · exact .inr (.inr rfl)

/-- The ways of the fields: not as the rule asks them (0), a position too many (1), as asked (2). -/
def grpF (z lp vb x bi y bj : Bool) : Nat := if ((z != lp) || (z && !vb)) = true then 0 else if ((!x && (bi || bj)) || (x && (!y && bj))) = true then 1 else 2
theorem grp_any : ∀ z lp vb x bi y bj : Bool, grpF z lp vb x bi y bj = 0 ∨ grpF z lp vb x bi y bj = 1 ∨ grpF z lp vb x bi y bj = 2 := by decide
theorem grp_no : ∀ z lp vb x bi y bj : Bool, (x = false → y = false) → grpF z lp vb x bi y bj ≠ 2 → fitM z lp vb x bi y bj = false := by decide
end
section
open Go.ChangeAt Go.ChangeShapes Go.RowKit Go.WideShapes
open List (setIfInBounds_toArray set_cons_zero set_cons_succ getElem_toArray getElem_cons_succ getElem_cons_zero)

set_option linter.unusedSimpArgs false in
set_option maxRecDepth 100000 in
set_option maxHeartbeats 40000000 in
theorem sStepCode_1_0 (r a b i j : Int) (h1 : 1 ≤ r) (h14 : r ≤ 14) (hcls : clsR r = 1) (B : Option Addr) (m d : Nat) (F : List Int) (A : Option Addr) (n c : Nat) (P : List (List Int)) (A2 : Option Addr) (n2 c2 : Nat) (Q : List (List Int)) (w : World) (hf : RdI w w.heap.size B m F) (h : RdQ w w.heap.size A n P) (h2 : RdQ w w.heap.size A2 n2 Q) (hm : m ≤ 1048576) (hnc : n ≤ c) (hnc2 : n2 ≤ c2) (hP : validQ P = true) (hQ : validQ Q = true) (hgrp : grpF (ruF r) (decide (0 < F.length)) (validB F) (ruI r) (i != 0) (ruJ r) (j != 0) = 0) :
    Calls Tryz.prog 53 #[.agg #[.slice A n c], .agg #[.slice A2 n2 c2], Value.agg #[Value.int .i64 r, Value.int .i64 a, Value.int .i64 b, Value.int .i64 i, Value.int .i64 j, Value.slice B m d]] w (GivesC w (cdB r i j F P Q)) := by
  have hl := h.len
  subst hl
  have hl2 := h2.len
  subst hl2
  have hlf := hf.1
  obtain ⟨u, hu0⟩ : ∃ u, u = ((w.alloc (.cells #[Value.slice A P.length c] 64)).alloc (.cells #[Value.slice A2 Q.length c2] 64)).alloc (.cells #[Value.int .i64 r, Value.int .i64 a, Value.int .i64 b, Value.int .i64 i, Value.int .i64 j, Value.slice B m d] 43) := ⟨_, rfl⟩
  obtain ⟨hb, p1, p2, p0, hsz⟩ := three_any w (.cells #[Value.slice A P.length c] 64) (.cells #[Value.slice A2 Q.length c2] 64) (.cells #[Value.int .i64 r, Value.int .i64 a, Value.int .i64 b, Value.int .i64 i, Value.int .i64 j, Value.slice B m d] 43)
  rw [← hu0] at hb p0 p1 p2 hsz
  have HKX : Hid (∀ wx, Below u.heap.size u wx → wx.cell? ⟨w.heap.size, 0, none⟩ = some (.slice A P.length c) ∧ wx.cell? ⟨w.heap.size + 1, 0, none⟩ = some (.slice A2 Q.length c2) ∧ wx.cell? ⟨w.heap.size + 1 + 1, 0, none⟩ = some (.int .i64 r) ∧ wx.cell? ⟨w.heap.size + 1 + 1, 3, none⟩ = some (.int .i64 i) ∧ wx.cell? ⟨w.heap.size + 1 + 1, 4, none⟩ = some (.int .i64 j) ∧ wx.cell? ⟨w.heap.size + 1 + 1, 5, none⟩ = some (.slice B m d)) := Lib.hid fun wx hx => by
    have g : ∀ k o, u.heap[k]? = some o → wx.heap[k]? = some o := fun k o h => (hx.block k (Array.getElem?_eq_some_iff.1 h).1).trans h
    exact ⟨cell_of_row _ _ 0 _ _ (0, 0) (g _ _ p1), cell_of_row _ _ 0 _ _ (0, 0) (g _ _ p2), cell_of_row _ _ 0 _ _ (0, 0) (g _ _ p0), cell_of_row _ _ 3 _ _ (0, 0) (g _ _ p0), cell_of_row _ _ 4 _ _ (0, 0) (g _ _ p0), cell_of_row _ _ 5 _ _ (0, 0) (g _ _ p0)⟩
  have HU0 := Lib.hid hu0; have HBU := Lib.hid hb
  have HPM := fun (wx : World) => premises_any wx r h1 h14
  have HPO := fun (wx : World) => positions_any wx r h1 h14
  have HUF := fun (wx : World) => usesForm_any wx r h1 h14
  have HRP := Lib.hid (fun (wx : World) (hx : Below u.heap.size u wx) => (h.below (hb.trans (hx.mono hb.size))).more (Nat.le_trans hb.size hx.size))
  have HRQ := Lib.hid (fun (wx : World) (hx : Below u.heap.size u wx) => (h2.below (hb.trans (hx.mono hb.size))).more (Nat.le_trans hb.size hx.size))
  have hlP := validQ_len hP
  have hlQ := validQ_len hQ
  have HVP := Lib.hid (fun (wx : World) (hx : Below u.heap.size u wx) => sValidSeq_any A P.length c P wx (HRP.out wx hx) (by omega) hnc)
  have HVQ := Lib.hid (fun (wx : World) (hx : Below u.heap.size u wx) => sValidSeq_any A2 Q.length c2 Q wx (HRQ.out wx hx) (by omega) hnc2)
  rw [hP] at HVP
  rw [hQ] at HVQ
  have HVF := Lib.hid (fun (wx : World) (hx : Below u.heap.size u wx) => sValidForm_any B m d F wx ((hf.below (hb.trans (hx.mono hb.size))).more (Nat.le_trans hb.size hx.size)))
  have HIP := Lib.hid (fun (wx : World) => sIsPos_any A P.length c i wx (by omega))
  have HJP := Lib.hid (fun (wx : World) => sIsPos_any A P.length c j wx (by omega))
  have HJQ := Lib.hid (fun (wx : World) => sIsPos_any A2 Q.length c2 j wx (by omega))
  have HPV := Lib.hid hP; have HQV := Lib.hid hQ
  have HE : Hid (cdB r i j F P Q = ((fitM (ruF r) (decide (0 < F.length)) (validB F) (ruI r) (i != 0) (ruJ r) (j != 0) && posM r i j P.length Q.length) && ctxB r i j P Q)) := Lib.hid (by unfold cdB; rw [fitM_is])
  have HPM2 : Hid (posM r i j P.length Q.length = ((!ruI r || posB i P.length) && (!ruJ r || posB j (if ruP r = 2 then Q.length else P.length)))) := Lib.hid rfl
  have hcl := ru_class r h1 h14
  have hck := cls_1 r h1 h14 hcls
  have hlp : decide ((0 : Int) < (m : Int)) = decide (0 < F.length) := by rw [hlf]; exact decide_eq_decide.2 (by omega)
  generalize ruP r = np at *; generalize ruK r = kp at *; generalize ruI r = x at *; generalize ruJ r = y at *; generalize ruF r = z at *
  have HCK := Lib.hid hck
  clear hck
  generalize decide (0 < F.length) = lp at *
  generalize validB F = vb at *
  obtain ⟨bi, hbi⟩ : ∃ bi, (i != 0) = bi := ⟨_, rfl⟩
  obtain ⟨bj, hbj⟩ : ∃ bj, (j != 0) = bj := ⟨_, rfl⟩
  rw [hbi, hbj] at HE hgrp
  obtain ⟨ft, hft⟩ : ∃ ft, fitM z lp vb x bi y bj = ft := ⟨_, rfl⟩
  rw [hft] at HE
  have HFT := Lib.hid hft
  have HNO : Hid (ft = false) := Lib.hid (by rw [← hft]; exact grp_no _ _ _ _ _ _ _ (by rcases hcl with ⟨-, -, rfl, rfl⟩ | ⟨-, -, rfl, rfl⟩ | ⟨-, -, rfl, rfl⟩ | ⟨-, -, rfl, rfl⟩ | ⟨-, -, rfl, rfl⟩ <;> simp) (by rw [hgrp]; decide))
  obtain ⟨e1, e2, e0, ei, ej, ef⟩ := HKX.out u (Below.refl _ _)
  clear hu0 hb p0 p1 p2 hsz h h2 hf hft hP hQ
  go_enter Tryz.func53, Tryz.ntmps53
  go_upto_region 1 with (fail)
  rw [← HU0.out]
  go_wp2_with (fail)
  refine (HPM u).mono ?_
  rintro e w0 ⟨rfl, rfl⟩
  have hnp0 : decide (np < 0) = false := decide_eq_false (by omega)
  go_upto_region 4 with (fail)
  go_cut [31] (fun t wx => t = .bool false ∧ Below u.heap.size u wx)
  case first =>
    have hnp : np = 0 ∨ np = 1 ∨ np = 2 := by rcases hcl with h | h | h | h | h <;> simp [h.1]
    clear hcl hgrp hlp hbi hbj hnp0 HE HPM2 HFT
    rcases hnp with rfl | rfl | rfl
    · go_wp2_with (fail)
      go_meet
      exact ⟨rfl, Below.refl _ _⟩
    · go_wp2_with (fail)
      refine (HVP.out u (Below.refl _ _)).mono ?_
      rintro e w1 ⟨rfl, b1⟩
      have HB1 := Lib.hid b1
      clear b1
      go_wp2_with (fail)
      go_meet
      exact ⟨rfl, HB1.out⟩
    · go_wp2_with (fail)
      refine (HVP.out u (Below.refl _ _)).mono ?_
      rintro e w1 ⟨rfl, b1⟩
      have HB1 := Lib.hid b1
      clear b1 e1 e2 e0 ei ej ef
      obtain ⟨e1, e2, e0, ei, ej, ef⟩ := HKX.out w1 HB1.out
      go_wp2_with (fail)
      refine (HVQ.out w1 HB1.out).mono ?_
      rintro e w2 ⟨rfl, b2⟩
      have HB2 := Lib.hid (HB1.out.trans (b2.mono HB1.out.size))
      clear b2
      go_wp2_with (fail)
      go_meet
      exact ⟨rfl, HB2.out⟩
  case rest =>
    obtain ⟨rfl, hcb⟩ := hcut
    rename World => w2
    have HB2 := Lib.hid hcb
    clear hcb hnp0 e1 e2 e0 ei ej ef
    obtain ⟨e1, e2, e0, ei, ej, ef⟩ := HKX.out w2 HB2.out
    go_wp2_with (fail)
    refine (HPO w2).mono ?_
    rintro e w0 ⟨rfl, rfl⟩
    go_upto_region 7 with (fail)
    go_cut [72] (fun t wx => t = .bool (!ft) ∧ Below u.heap.size u wx)
    case first =>
      have hxyc : (x = false ∧ y = false ∧ kp = 0 ∧ bi = true) ∨ (x = false ∧ y = false ∧ kp = 0 ∧ bi = false ∧ bj = true) ∨ (x = false ∧ y = false ∧ kp = 0 ∧ bi = false ∧ bj = false) ∨ (x = true ∧ y = false ∧ kp = 1 ∧ bj = true) ∨ (x = true ∧ y = false ∧ kp = 1 ∧ bj = false) ∨ (x = true ∧ y = true ∧ kp = 2) := by
        rcases hcl with ⟨-, rfl, rfl, rfl⟩ | ⟨-, rfl, rfl, rfl⟩ | ⟨-, rfl, rfl, rfl⟩ | ⟨-, rfl, rfl, rfl⟩ | ⟨-, rfl, rfl, rfl⟩ <;> cases bi <;> cases bj <;> simp
      have hmT : lp = true → 0 < m := fun e => by rw [e] at hlp; have := of_decide_eq_true hlp; omega
      have hmF : lp = false → m = 0 := fun e => by rw [e] at hlp; have := of_decide_eq_false hlp; omega
      clear hlp hlf hcl HE HPM2 HVP HVQ HIP HJP HJQ HRP HRQ HPM HPO
      have hfc := fit_cases z lp vb
      have hz : z = true := HCK.out.1
      have hy : y = false := HCK.out.2
      rcases hfc with ⟨rfl, rfl⟩ | ⟨rfl, rfl⟩ | ⟨rfl, rfl, rfl⟩ | h4
      · obtain rfl := hmF rfl
        clear hmT hmF
        have hE : ft = false := by rw [← HFT.out]; rfl
        subst hE
        clear HFT
        clear hgrp
        have FB_0 := Lib.hid (Below.refl w2.heap.size w2)
        go_upto_region 7 with (fail)
        refine wp_region_held_drew (S := fun wx => wx.cell? ⟨w.heap.size, 0, none⟩ = some (.slice A P.length c) ∧ wx.cell? ⟨w.heap.size + 1, 0, none⟩ = some (.slice A2 Q.length c2) ∧ wx.cell? ⟨w.heap.size + 1 + 1, 0, none⟩ = some (.int .i64 r) ∧ wx.cell? ⟨w.heap.size + 1 + 1, 3, none⟩ = some (.int .i64 i) ∧ wx.cell? ⟨w.heap.size + 1 + 1, 4, none⟩ = some (.int .i64 j) ∧ wx.cell? ⟨w.heap.size + 1 + 1, 5, none⟩ = some (.slice B 0 d)) (by kernel_rfl) ⟨e1, e2, e0, ei, ej, ef⟩ (fun hHeld => ?_)
        obtain ⟨wqbx1, hwqbx1⟩ : ∃ w', w' = w2.drew := ⟨_, rfl⟩
        rw [← hwqbx1] at hHeld ⊢
        have bqbx1 : Below w2.heap.size w2 wqbx1 := by rw [hwqbx1]; exact (Below.refl _ _).drew
        clear hwqbx1
        have FB_qbx2 := Lib.hid ((FB_0.out).trans ((bqbx1).mono (FB_0.out).size))
        clear FB_0
        refine tk (i := 0) (h := ?_)
        (try simp only [Act.put, setIfInBounds_toArray, set_cons_zero, set_cons_succ, getElem_toArray, getElem_cons_succ, getElem_cons_zero])
        refine tk (i := 3) (h := ?_)
        (try simp only [Act.put, setIfInBounds_toArray, set_cons_zero, set_cons_succ, getElem_toArray, getElem_cons_succ, getElem_cons_zero])
        refine tk (i := 1) (h := ?_)
        (try simp only [Act.put, setIfInBounds_toArray, set_cons_zero, set_cons_succ, getElem_toArray, getElem_cons_succ, getElem_cons_zero])
        refine tk (i := 4) (h := ?_)
        (try simp only [Act.put, setIfInBounds_toArray, set_cons_zero, set_cons_succ, getElem_toArray, getElem_cons_succ, getElem_cons_zero])
        refine tk (i := 5) (h := ?_)
        (try simp only [Act.put, setIfInBounds_toArray, set_cons_zero, set_cons_succ, getElem_toArray, getElem_cons_succ, getElem_cons_zero])
        refine tk (i := 6) (h := ?_)
        (try simp only [Act.put, setIfInBounds_toArray, set_cons_zero, set_cons_succ, getElem_toArray, getElem_cons_succ, getElem_cons_zero])
        refine t1 (i := 2) (h := fun K hK => ?_)
        go_simp
        refine (HUF wqbx1).mono ?_
        rintro e wqbx9 ⟨rfl, rfl⟩
        dsimp only
        refine hK.out _ _ (hHeld) (fun hHeld => ?_)
        clear hK K
        (try simp only [Act.put, setIfInBounds_toArray, set_cons_zero, set_cons_succ, getElem_toArray, getElem_cons_succ, getElem_cons_zero])
        refine tk (i := 7) (h := ?_)
        (try simp only [Act.put, setIfInBounds_toArray, set_cons_zero, set_cons_succ, getElem_toArray, getElem_cons_succ, getElem_cons_zero])
        refine tk (i := 8) (h := ?_)
        (try simp only [Act.put, setIfInBounds_toArray, set_cons_zero, set_cons_succ, getElem_toArray, getElem_cons_succ, getElem_cons_zero])
        refine tn (i := 9) (h := ?_)
        (try simp only [Act.put, setIfInBounds_toArray, set_cons_zero, set_cons_succ, getElem_toArray, getElem_cons_succ, getElem_cons_zero])
        refine tn (i := 10) (h := ?_)
        (try simp only [Act.put, setIfInBounds_toArray, set_cons_zero, set_cons_succ, getElem_toArray, getElem_cons_succ, getElem_cons_zero])
        refine tn (i := 11) (h := ?_)
        (try simp only [Act.put, setIfInBounds_toArray, set_cons_zero, set_cons_succ, getElem_toArray, getElem_cons_succ, getElem_cons_zero])
        refine tn (i := 12) (h := ?_)
        (try simp only [Act.put, setIfInBounds_toArray, set_cons_zero, set_cons_succ, getElem_toArray, getElem_cons_succ, getElem_cons_zero])
        refine tn (i := 13) (h := ?_)
        (try simp only [Act.put, setIfInBounds_toArray, set_cons_zero, set_cons_succ, getElem_toArray, getElem_cons_succ, getElem_cons_zero])
        refine tn (i := 14) (h := ?_)
        (try simp only [Act.put, setIfInBounds_toArray, set_cons_zero, set_cons_succ, getElem_toArray, getElem_cons_succ, getElem_cons_zero])
        refine tn (i := 15) (h := ?_)
        (try simp only [Act.put, setIfInBounds_toArray, set_cons_zero, set_cons_succ, getElem_toArray, getElem_cons_succ, getElem_cons_zero])
        refine tn (i := 16) (h := ?_)
        (try simp only [Act.put, setIfInBounds_toArray, set_cons_zero, set_cons_succ, getElem_toArray, getElem_cons_succ, getElem_cons_zero])
        refine tn (i := 17) (h := ?_)
        (try simp only [Act.put, setIfInBounds_toArray, set_cons_zero, set_cons_succ, getElem_toArray, getElem_cons_succ, getElem_cons_zero])
        refine tn (i := 18) (h := ?_)
        (try simp only [Act.put, setIfInBounds_toArray, set_cons_zero, set_cons_succ, getElem_toArray, getElem_cons_succ, getElem_cons_zero])
        refine tk (i := 19) (h := ?_)
        (try simp only [Act.put, setIfInBounds_toArray, set_cons_zero, set_cons_succ, getElem_toArray, getElem_cons_succ, getElem_cons_zero])
        refine tk (i := 20) (h := ?_)
        (try simp only [Act.put, setIfInBounds_toArray, set_cons_zero, set_cons_succ, getElem_toArray, getElem_cons_succ, getElem_cons_zero])
        refine tn (i := 21) (h := ?_)
        (try simp only [Act.put, setIfInBounds_toArray, set_cons_zero, set_cons_succ, getElem_toArray, getElem_cons_succ, getElem_cons_zero])
        refine tn (i := 22) (h := ?_)
        (try simp only [Act.put, setIfInBounds_toArray, set_cons_zero, set_cons_succ, getElem_toArray, getElem_cons_succ, getElem_cons_zero])
        refine tn (i := 23) (h := ?_)
        (try simp only [Act.put, setIfInBounds_toArray, set_cons_zero, set_cons_succ, getElem_toArray, getElem_cons_succ, getElem_cons_zero])
        refine tn (i := 24) (h := ?_)
        (try simp only [Act.put, setIfInBounds_toArray, set_cons_zero, set_cons_succ, getElem_toArray, getElem_cons_succ, getElem_cons_zero])
        refine tn (i := 25) (h := ?_)
        (try simp only [Act.put, setIfInBounds_toArray, set_cons_zero, set_cons_succ, getElem_toArray, getElem_cons_succ, getElem_cons_zero])
        refine tn (i := 26) (h := ?_)
        (try simp only [Act.put, setIfInBounds_toArray, set_cons_zero, set_cons_succ, getElem_toArray, getElem_cons_succ, getElem_cons_zero])
        refine tn (i := 27) (h := ?_)
        (try simp only [Act.put, setIfInBounds_toArray, set_cons_zero, set_cons_succ, getElem_toArray, getElem_cons_succ, getElem_cons_zero])
        refine tk (i := 28) (h := ?_)
        (try simp only [Act.put, setIfInBounds_toArray, set_cons_zero, set_cons_succ, getElem_toArray, getElem_cons_succ, getElem_cons_zero])
        refine tk (i := 29) (h := ?_)
        (try simp only [Act.put, setIfInBounds_toArray, set_cons_zero, set_cons_succ, getElem_toArray, getElem_cons_succ, getElem_cons_zero])
        refine tn (i := 30) (h := ?_)
        (try simp only [Act.put, setIfInBounds_toArray, set_cons_zero, set_cons_succ, getElem_toArray, getElem_cons_succ, getElem_cons_zero])
        refine tn (i := 31) (h := ?_)
        (try simp only [Act.put, setIfInBounds_toArray, set_cons_zero, set_cons_succ, getElem_toArray, getElem_cons_succ, getElem_cons_zero])
        refine tn (i := 32) (h := ?_)
        (try simp only [Act.put, setIfInBounds_toArray, set_cons_zero, set_cons_succ, getElem_toArray, getElem_cons_succ, getElem_cons_zero])
        refine tn (i := 33) (h := ?_)
        (try simp only [Act.put, setIfInBounds_toArray, set_cons_zero, set_cons_succ, getElem_toArray, getElem_cons_succ, getElem_cons_zero])
        refine tn (i := 34) (h := ?_)
        (try simp only [Act.put, setIfInBounds_toArray, set_cons_zero, set_cons_succ, getElem_toArray, getElem_cons_succ, getElem_cons_zero])
        refine tn (i := 35) (h := ?_)
        (try simp only [Act.put, setIfInBounds_toArray, set_cons_zero, set_cons_succ, getElem_toArray, getElem_cons_succ, getElem_cons_zero])
        refine tn (i := 36) (h := ?_)
        (try simp only [Act.put, setIfInBounds_toArray, set_cons_zero, set_cons_succ, getElem_toArray, getElem_cons_succ, getElem_cons_zero])
        refine tk (i := 37) (h := ?_)
        (try simp only [Act.put, setIfInBounds_toArray, set_cons_zero, set_cons_succ, getElem_toArray, getElem_cons_succ, getElem_cons_zero])
        refine wpAnyH_done (by kernel_rfl) ?_ _
        go_wp2_with (fail)
        go_meet
        exact ⟨rfl, HB2.out.trans (FB_qbx2.out.mono HB2.out.size)⟩
      · cases hz
      · have hm0 := hmT rfl
        have hm1 : ¬ m = 0 := by omega
        clear hmT hmF
        have hE : ft = false := by rw [← HFT.out]; rfl
        subst hE
        clear HFT
        clear hgrp
        have FB_0 := Lib.hid (Below.refl w2.heap.size w2)
        go_upto_region 7 with (fail)
        refine wp_region_held_drew (S := fun wx => wx.cell? ⟨w.heap.size, 0, none⟩ = some (.slice A P.length c) ∧ wx.cell? ⟨w.heap.size + 1, 0, none⟩ = some (.slice A2 Q.length c2) ∧ wx.cell? ⟨w.heap.size + 1 + 1, 0, none⟩ = some (.int .i64 r) ∧ wx.cell? ⟨w.heap.size + 1 + 1, 3, none⟩ = some (.int .i64 i) ∧ wx.cell? ⟨w.heap.size + 1 + 1, 4, none⟩ = some (.int .i64 j) ∧ wx.cell? ⟨w.heap.size + 1 + 1, 5, none⟩ = some (.slice B m d)) (by kernel_rfl) ⟨e1, e2, e0, ei, ej, ef⟩ (fun hHeld => ?_)
        obtain ⟨wqcx1, hwqcx1⟩ : ∃ w', w' = w2.drew := ⟨_, rfl⟩
        rw [← hwqcx1] at hHeld ⊢
        have bqcx1 : Below w2.heap.size w2 wqcx1 := by rw [hwqcx1]; exact (Below.refl _ _).drew
        clear hwqcx1
        have FB_qcx2 := Lib.hid ((FB_0.out).trans ((bqcx1).mono (FB_0.out).size))
        clear FB_0
        refine tk (i := 0) (h := ?_)
        (try simp only [Act.put, setIfInBounds_toArray, set_cons_zero, set_cons_succ, getElem_toArray, getElem_cons_succ, getElem_cons_zero])
        refine tk (i := 3) (h := ?_)
        (try simp only [Act.put, setIfInBounds_toArray, set_cons_zero, set_cons_succ, getElem_toArray, getElem_cons_succ, getElem_cons_zero])
        refine tk (i := 1) (h := ?_)
        (try simp only [Act.put, setIfInBounds_toArray, set_cons_zero, set_cons_succ, getElem_toArray, getElem_cons_succ, getElem_cons_zero])
        refine tk (i := 4) (h := ?_)
        (try simp only [Act.put, setIfInBounds_toArray, set_cons_zero, set_cons_succ, getElem_toArray, getElem_cons_succ, getElem_cons_zero])
        refine tk (i := 5) (h := ?_)
        (try simp only [Act.put, setIfInBounds_toArray, set_cons_zero, set_cons_succ, getElem_toArray, getElem_cons_succ, getElem_cons_zero])
        refine tk (i := 6) (h := ?_)
        (try simp only [Act.put, setIfInBounds_toArray, set_cons_zero, set_cons_succ, getElem_toArray, getElem_cons_succ, getElem_cons_zero])
        refine t1 (i := 2) (h := fun K hK => ?_)
        go_simp
        refine (HUF wqcx1).mono ?_
        rintro e wqcx9 ⟨rfl, rfl⟩
        dsimp only
        refine hK.out _ _ (hHeld) (fun hHeld => ?_)
        clear hK K
        (try simp only [Act.put, setIfInBounds_toArray, set_cons_zero, set_cons_succ, getElem_toArray, getElem_cons_succ, getElem_cons_zero])
        refine tk (i := 7) (h := ?_)
        (try simp only [Act.put, setIfInBounds_toArray, set_cons_zero, set_cons_succ, getElem_toArray, getElem_cons_succ, getElem_cons_zero])
        refine tk (i := 8) (h := ?_)
        (try simp only [Act.put, setIfInBounds_toArray, set_cons_zero, set_cons_succ, getElem_toArray, getElem_cons_succ, getElem_cons_zero])
        refine tk (i := 9) (h := ?_)
        (try simp only [Act.put, setIfInBounds_toArray, set_cons_zero, set_cons_succ, getElem_toArray, getElem_cons_succ, getElem_cons_zero])
        refine tk (i := 10) (h := ?_)
        (try simp only [Act.put, setIfInBounds_toArray, set_cons_zero, set_cons_succ, getElem_toArray, getElem_cons_succ, getElem_cons_zero])
        refine tk (i := 11) (h := ?_)
        (try simp only [Act.put, setIfInBounds_toArray, set_cons_zero, set_cons_succ, getElem_toArray, getElem_cons_succ, getElem_cons_zero])
        refine tk (i := 12) (h := ?_)
        (try simp only [Act.put, setIfInBounds_toArray, set_cons_zero, set_cons_succ, getElem_toArray, getElem_cons_succ, getElem_cons_zero])
        refine tk (i := 13) (h := ?_)
        (try simp only [Act.put, setIfInBounds_toArray, set_cons_zero, set_cons_succ, getElem_toArray, getElem_cons_succ, getElem_cons_zero])
        refine tk (i := 14) (h := ?_)
        (try simp only [Act.put, setIfInBounds_toArray, set_cons_zero, set_cons_succ, getElem_toArray, getElem_cons_succ, getElem_cons_zero])
        refine tk (i := 15) (h := ?_)
        (try simp only [Act.put, setIfInBounds_toArray, set_cons_zero, set_cons_succ, getElem_toArray, getElem_cons_succ, getElem_cons_zero])
        refine t1 (i := 16) (h := fun K hK => ?_)
        go_simp
        refine (HVF.out wqcx1 (HB2.out.trans (FB_qcx2.out.mono HB2.out.size))).mono ?_
        rintro e wqcx19 ⟨rfl, rfl⟩
        dsimp only
        refine hK.out _ _ (hHeld) (fun hHeld => ?_)
        clear hK K
        (try simp only [Act.put, setIfInBounds_toArray, set_cons_zero, set_cons_succ, getElem_toArray, getElem_cons_succ, getElem_cons_zero])
        refine tk (i := 17) (h := ?_)
        (try simp only [Act.put, setIfInBounds_toArray, set_cons_zero, set_cons_succ, getElem_toArray, getElem_cons_succ, getElem_cons_zero])
        refine tk (i := 18) (h := ?_)
        (try simp only [Act.put, setIfInBounds_toArray, set_cons_zero, set_cons_succ, getElem_toArray, getElem_cons_succ, getElem_cons_zero])
        refine tk (i := 19) (h := ?_)
        (try simp only [Act.put, setIfInBounds_toArray, set_cons_zero, set_cons_succ, getElem_toArray, getElem_cons_succ, getElem_cons_zero])
        refine tk (i := 20) (h := ?_)
        (try simp only [Act.put, setIfInBounds_toArray, set_cons_zero, set_cons_succ, getElem_toArray, getElem_cons_succ, getElem_cons_zero])
        refine tn (i := 21) (h := ?_)
        (try simp only [Act.put, setIfInBounds_toArray, set_cons_zero, set_cons_succ, getElem_toArray, getElem_cons_succ, getElem_cons_zero])
        refine tn (i := 22) (h := ?_)
        (try simp only [Act.put, setIfInBounds_toArray, set_cons_zero, set_cons_succ, getElem_toArray, getElem_cons_succ, getElem_cons_zero])
        refine tn (i := 23) (h := ?_)
        (try simp only [Act.put, setIfInBounds_toArray, set_cons_zero, set_cons_succ, getElem_toArray, getElem_cons_succ, getElem_cons_zero])
        refine tn (i := 24) (h := ?_)
        (try simp only [Act.put, setIfInBounds_toArray, set_cons_zero, set_cons_succ, getElem_toArray, getElem_cons_succ, getElem_cons_zero])
        refine tn (i := 25) (h := ?_)
        (try simp only [Act.put, setIfInBounds_toArray, set_cons_zero, set_cons_succ, getElem_toArray, getElem_cons_succ, getElem_cons_zero])
        refine tn (i := 26) (h := ?_)
        (try simp only [Act.put, setIfInBounds_toArray, set_cons_zero, set_cons_succ, getElem_toArray, getElem_cons_succ, getElem_cons_zero])
        refine tn (i := 27) (h := ?_)
        (try simp only [Act.put, setIfInBounds_toArray, set_cons_zero, set_cons_succ, getElem_toArray, getElem_cons_succ, getElem_cons_zero])
        refine tk (i := 28) (h := ?_)
        (try simp only [Act.put, setIfInBounds_toArray, set_cons_zero, set_cons_succ, getElem_toArray, getElem_cons_succ, getElem_cons_zero])
        refine tk (i := 29) (h := ?_)
        (try simp only [Act.put, setIfInBounds_toArray, set_cons_zero, set_cons_succ, getElem_toArray, getElem_cons_succ, getElem_cons_zero])
        refine tn (i := 30) (h := ?_)
        (try simp only [Act.put, setIfInBounds_toArray, set_cons_zero, set_cons_succ, getElem_toArray, getElem_cons_succ, getElem_cons_zero])
        refine tn (i := 31) (h := ?_)
        (try simp only [Act.put, setIfInBounds_toArray, set_cons_zero, set_cons_succ, getElem_toArray, getElem_cons_succ, getElem_cons_zero])
        refine tn (i := 32) (h := ?_)
        (try simp only [Act.put, setIfInBounds_toArray, set_cons_zero, set_cons_succ, getElem_toArray, getElem_cons_succ, getElem_cons_zero])
        refine tn (i := 33) (h := ?_)
        (try simp only [Act.put, setIfInBounds_toArray, set_cons_zero, set_cons_succ, getElem_toArray, getElem_cons_succ, getElem_cons_zero])
        refine tn (i := 34) (h := ?_)
        (try simp only [Act.put, setIfInBounds_toArray, set_cons_zero, set_cons_succ, getElem_toArray, getElem_cons_succ, getElem_cons_zero])
        refine tn (i := 35) (h := ?_)
        (try simp only [Act.put, setIfInBounds_toArray, set_cons_zero, set_cons_succ, getElem_toArray, getElem_cons_succ, getElem_cons_zero])
        refine tn (i := 36) (h := ?_)
        (try simp only [Act.put, setIfInBounds_toArray, set_cons_zero, set_cons_succ, getElem_toArray, getElem_cons_succ, getElem_cons_zero])
        refine tk (i := 37) (h := ?_)
        (try simp only [Act.put, setIfInBounds_toArray, set_cons_zero, set_cons_succ, getElem_toArray, getElem_cons_succ, getElem_cons_zero])
        refine wpAnyH_done (by kernel_rfl) ?_ _
        go_wp2_with (fail)
        go_meet
        exact ⟨rfl, HB2.out.trans (FB_qcx2.out.mono HB2.out.size)⟩
      · rcases h4 with ⟨rfl, rfl, rfl⟩ | ⟨rfl, rfl⟩
        · have hm0 := hmT rfl
          have hm1 : ¬ m = 0 := by omega
          clear hmT hmF
          rcases hxyc with ⟨rfl, rfl, rfl, rfl⟩ | ⟨rfl, rfl, rfl, rfl, rfl⟩ | ⟨rfl, rfl, rfl, rfl, rfl⟩ | ⟨rfl, rfl, rfl, rfl⟩ | ⟨rfl, rfl, rfl, rfl⟩ | ⟨rfl, rfl, rfl⟩
          · exact absurd (show (1 : Nat) = 0 from hgrp) (by decide)
          · exact absurd (show (1 : Nat) = 0 from hgrp) (by decide)
          · exact absurd (show (2 : Nat) = 0 from hgrp) (by decide)
          · exact absurd (show (1 : Nat) = 0 from hgrp) (by decide)
          · exact absurd (show (2 : Nat) = 0 from hgrp) (by decide)
          · cases hy
        · cases hz
    case rest =>
      obtain ⟨rfl, hcb⟩ := hcut
      rename World => w3
      have HB3 := Lib.hid hcb
      clear hgrp hcb e1 e2 e0 ei ej ef HUF HVF HVP HVQ HPM HPO hlp hlf HFT
      obtain ⟨e1, e2, e0, ei, ej, ef⟩ := HKX.out w3 HB3.out
      cases ft with
      | false =>
        go_wp2
        go_ret
        exact gc_no (k := 3) (by decide) (by rw [HE.out]; rfl) (HBU.out.trans (HB3.out.mono HBU.out.size))
      | true =>
        exact absurd HNO.out (by decide)
end
end Go.Proofs.YthbkcpacgnmcfaaGreatDoor
