/- The model's conclude at rule 13. Made by mkcme.py. The model's conclude at the rules 5, 6. Made by mkcmf.py. CheckProof, the mathematics: what each step concludes, the row of the sequents so far. -/
import Derived.Test.YthbkcpacgnmcfaaGreatDoorQCmC3a
import Derived.Test.YthbkcpacgnmcfaaGreatDoorQSubA
import Derived.Test.YthbkcpacgnmcfaaGreatDoorQCkX
namespace Go.Proofs.YthbkcpacgnmcfaaGreatDoor
set_option linter.unusedSimpArgs false
set_option linter.unusedVariables false
section
open Go.ChangeAt Go.ChangeShapes Go.RowKit Go.WideShapes
open List (setIfInBounds_toArray set_cons_zero set_cons_succ getElem_toArray getElem_cons_succ getElem_cons_zero)

set_option linter.unusedSimpArgs false in
set_option maxRecDepth 100000 in
set_option maxHeartbeats 16000000 in
theorem cc_13 (a b : Int) (ii jj : Nat) (B : Option Addr) (m d : Nat) (F : List Int) (A : Option Addr) (n c : Nat) (P : List (List Int)) (A2 : Option Addr) (n2 c2 : Nat) (Q : List (List Int)) (w : World) (h : RdQ w w.heap.size A n P) (hnc : n ≤ c) (hP : validQ P = true) (hii : ii < P.length) (hjj : jj < P.length) (hij : ii ≠ jj) :
    Calls Tryz.prog 55 #[.slice A n c, .slice A2 n2 c2, Value.agg #[Value.int .i64 13, Value.int .i64 a, Value.int .i64 b, Value.int .i64 ((ii : Nat) : Int), Value.int .i64 ((jj : Nat) : Int), Value.slice B m d]] w (GivesV w (cnL 13 ((ii : Nat) : Int) ((jj : Nat) : Int) F P Q)) := by
  obtain ⟨i0, hi0, hz0, hz1, hz2⟩ := info_parts_s
  have HI := Lib.hid hi0; have HZ0 := Lib.hid hz0; have HZ1 := Lib.hid hz1; have HZ2 := Lib.hid hz2
  have hl := h.len
  subst hl
  have hcn : cnL 13 ((ii : Nat) : Int) ((jj : Nat) : Int) F P Q = woL P [((ii : Nat) : Int), ((jj : Nat) : Int)] ++ [P.getD ii []] := rfl
  rw [hcn]
  clear hcn
  obtain ⟨u, hu0⟩ : ∃ u, u = w.alloc (.cells #[Value.int .i64 13, Value.int .i64 a, Value.int .i64 b, Value.int .i64 ((ii : Nat) : Int), Value.int .i64 ((jj : Nat) : Int), Value.slice B m d] 43) := ⟨_, rfl⟩
  have hb : Below w.heap.size w u := by rw [hu0]; exact box_any w _
  have p0 := an hu0
  have HU0 := Lib.hid hu0; have HBU := Lib.hid hb; have HP0 := Lib.hid p0
  have hvl := validQ_len hP
  obtain ⟨bp, op, rfl, hbp, hcp⟩ := h.2 (by omega)
  obtain ⟨vsP, hvP, hcP⟩ := RdV.of_q ((h.below hb).more hb.size)
  have hlP := hvP.len
  obtain ⟨AI, cI, kI, mI, rI⟩ := hcp ii (by omega)
  have HRI := Lib.hid ((rI.below hb).more hb.size); have HMI := Lib.hid mI
  have hlI : 0 < (P.getD ii []).length ∧ (P.getD ii []).length ≤ 24 := by have := valid_len (validQ_mem hP (getD_mem (show ii < _ by omega))); omega
  have HSX : Hid (∀ wx, Below u.heap.size u wx → wx.cell? ⟨w.heap.size, 3, none⟩ = some (.int .i64 ((ii : Nat) : Int)) ∧ wx.cell? ⟨w.heap.size, 4, none⟩ = some (.int .i64 ((jj : Nat) : Int)) ∧ wx.cell? ⟨bp, op + ii, none⟩ = some (.slice AI (P.getD ii []).length cI)) := Lib.hid fun wx hx => by
    have q := (hx.block w.heap.size (Array.getElem?_eq_some_iff.1 p0).1).trans p0
    exact ⟨cell_of_row _ _ 3 _ _ (0, 0) q, cell_of_row _ _ 4 _ _ (0, 0) q, ((hb.trans (hx.mono hb.size)).cell (p := ⟨bp, op + ii, none⟩) hbp).trans kI⟩
  have K0 := Lib.hid (HSX.out u (Below.refl _ _))
  have hwo := fun (wx : World) (hx : Below u.heap.size u wx) => sTwoS_any bp op P.length c vsP ii jj wx hlP hvP.one (Nat.lt_of_lt_of_le (Nat.lt_of_lt_of_le hbp hb.size) hx.size) (fun j v hv => by have e := hcP j v hv; rw [add_off] at e ⊢; rw [← e]; exact hx.cell (Nat.lt_of_lt_of_le hbp hb.size)) (by omega) hnc hii hjj hij
  have hrv := hvP.exW hij
  obtain ⟨vR, hvR⟩ : ∃ vR, exW vsP ii jj = vR := ⟨_, rfl⟩
  obtain ⟨R, hR⟩ : ∃ R, woL P [((ii : Nat) : Int), ((jj : Nat) : Int)] = R := ⟨_, rfl⟩
  rw [hvR] at hwo hrv
  rw [hR] at hrv ⊢
  have hR9 : R.length ≤ 10 := by rw [← hR]; exact Nat.le_trans (woK_len _ _ _) hvl
  have HWO := Lib.hid hwo; have HRV := Lib.hid hrv; have HR9 : Hid (vR.length ≤ 10) := Lib.hid (by rw [hrv.len]; exact hR9); have HONE := Lib.hid hrv.one
  obtain ⟨X, hX⟩ : ∃ X, P.getD ii [] = X := ⟨_, rfl⟩
  rw [hX] at HRI HSX hlI HMI K0 ⊢
  have HLI := Lib.hid hlI
  have e0 := cell_of_row _ _ 0 _ _ (0, 0) HP0.out
  clear hu0 hb p0 hwo hrv hvR hR hR9 h hi0 hz0 hz1 hz2 hcp hcP hvP hlP hP hbp hX kI mI rI
  have FB_0 := Lib.hid (Below.refl u.heap.size u)
  go_enter Tryz.func55, Tryz.ntmps55
  go_upto_region 1 with (fail)
  rw [← HU0.out]
  go_upto_region 27 with (fail)
  clear e0
  refine wp_region_held_drew (S := fun wx => wx.cell? ⟨w.heap.size, 3, none⟩ = some (.int .i64 ((ii : Nat) : Int)) ∧ wx.cell? ⟨w.heap.size, 4, none⟩ = some (.int .i64 ((jj : Nat) : Int)) ∧ wx.cell? ⟨bp, op + ii, none⟩ = some (.slice AI X.length cI)) (by kernel_rfl) K0.out (fun hHeld => ?_)
  obtain ⟨wq1, hwq1⟩ : ∃ w', w' = u.drew := ⟨_, rfl⟩
  rw [← hwq1] at hHeld ⊢
  have bq1 : Below u.heap.size u wq1 := by rw [hwq1]; exact (Below.refl _ _).drew
  clear hwq1
  have FB_q2 := Lib.hid ((FB_0.out).trans ((bq1).mono (FB_0.out).size))
  clear FB_0
  refine tk (i := 0) (h := ?_)
  (try simp only [Act.put, setIfInBounds_toArray, set_cons_zero, set_cons_succ, getElem_toArray, getElem_cons_succ, getElem_cons_zero])
  refine tk (i := 1) (h := ?_)
  (try simp only [Act.put, setIfInBounds_toArray, set_cons_zero, set_cons_succ, getElem_toArray, getElem_cons_succ, getElem_cons_zero])
  refine tk (i := 3) (h := ?_)
  (try simp only [Act.put, setIfInBounds_toArray, set_cons_zero, set_cons_succ, getElem_toArray, getElem_cons_succ, getElem_cons_zero])
  refine tk (i := 6) (h := ?_)
  (try simp only [Act.put, setIfInBounds_toArray, set_cons_zero, set_cons_succ, getElem_toArray, getElem_cons_succ, getElem_cons_zero])
  refine tk (i := 7) (h := ?_)
  (try simp only [Act.put, setIfInBounds_toArray, set_cons_zero, set_cons_succ, getElem_toArray, getElem_cons_succ, getElem_cons_zero])
  refine tk (i := 2) (h := ?_)
  (try simp only [Act.put, setIfInBounds_toArray, set_cons_zero, set_cons_succ, getElem_toArray, getElem_cons_succ, getElem_cons_zero])
  refine tk (i := 4) (h := ?_)
  (try simp only [Act.put, setIfInBounds_toArray, set_cons_zero, set_cons_succ, getElem_toArray, getElem_cons_succ, getElem_cons_zero])
  refine tk (i := 8) (h := ?_)
  (try simp only [Act.put, setIfInBounds_toArray, set_cons_zero, set_cons_succ, getElem_toArray, getElem_cons_succ, getElem_cons_zero])
  refine tk (i := 9) (h := ?_)
  (try simp only [Act.put, setIfInBounds_toArray, set_cons_zero, set_cons_succ, getElem_toArray, getElem_cons_succ, getElem_cons_zero])
  refine tk (i := 10) (h := ?_)
  (try simp only [Act.put, setIfInBounds_toArray, set_cons_zero, set_cons_succ, getElem_toArray, getElem_cons_succ, getElem_cons_zero])
  refine wpAnyH_ready (rs := [5, 11]) (by kernel_rfl) (by simp) ?_
  refine AllReadyH.cons rfl (fun K hK => ?_) ?_
  · go_simp
    have KBq13 := Lib.hid FB_q2.out.size
    refine (HWO.out wq1 FB_q2.out).mono ?_
    rintro e wq13 ⟨gRq13, kRq13, rfl, oq13, belq13⟩
    dsimp only
    have FB_q14 := Lib.hid ((FB_q2.out).trans ((belq13).mono (FB_q2.out).size))
    clear FB_q2
    have FO_q13 := Lib.hid (own_base oq13 KBq13.out)
    clear oq13 belq13
    refine hK.out _ _ (HSX.out _ FB_q14.out) (fun hHeld => ?_)
    clear hK K
    (try simp only [Act.put, setIfInBounds_toArray, set_cons_zero, set_cons_succ, getElem_toArray, getElem_cons_succ, getElem_cons_zero])
    refine t1 (i := 11) (h := fun K hK => ?_)
    go_simp
    obtain ⟨wq15, hwq15⟩ : ∃ w', w' = wq13.alloc (.cells #[Value.slice AI X.length cI] 36) := ⟨_, rfl⟩
    rw [← hwq15]
    have bq15 := al hwq15
    have gq15 := an hwq15
    clear hwq15
    have FB_q16 := Lib.hid ((FB_q14.out).trans ((bq15).mono (FB_q14.out).size))
    have FO_q17 := Lib.hid (own_below (FO_q13.out) (bq15) (Nat.le_refl _))
    clear FB_q14 FO_q13
    obtain ⟨gnq18, hgq18⟩ : ∃ b, wq13.heap.size = b := ⟨_, rfl⟩
    have FN_q18 := Lib.hid gq15
    rw [hgq18] at FN_q18 ⊢
    clear hgq18 gq15 bq15
    refine hK.out _ _ (HSX.out _ FB_q16.out) (fun hHeld => ?_)
    clear hK K
    (try simp only [Act.put, setIfInBounds_toArray, set_cons_zero, set_cons_succ, getElem_toArray, getElem_cons_succ, getElem_cons_zero])
    refine t1 (i := 12) (h := fun K hK => ?_)
    refine step_append_o rfl _ _ 23 rfl u.heap.size 36 i0 (.slice none 0 0) 1 24 Tryz.underlying23 HI.out HZ0.out HZ1.out HZ2.out rfl (by decide) _ _ _ rfl FO_q17.out ⟨gnq18, 0, none⟩ 1 1 [.slice AI X.length cI] rfl rfl (World.news_of_block FN_q18.out) (by simp [Value.oneCell']) (by have := HR9.out; unfold maxLen; omega) (by have := HR9.out; omega) FB_q16.out.size ?_
    intro v7 wq19 hown7 hgrow7 _
    have FB_q19 := Lib.hid (FB_q16.out.grown hgrow7 FB_q16.out.size (fun k hk => (FO_q17.out.lt k hk).1))
    obtain ⟨A7, c7, rfl, bq19, oq19, rq19⟩ := rule_out HBU.out FB_q16.out (by rw [← HRV.out.len]) FO_q17.out HRV.out ((HRI.out.below FB_q16.out).more FB_q16.out.size) (rd_ord HRI.out (by have := HLI.out; omega) FO_q17.out (Nat.le_refl _)) HMI.out hown7 hgrow7
    have HB9 := Lib.hid bq19; have HO9 := Lib.hid oq19; have HV9 := Lib.hid rq19
    clear bq19 oq19 rq19 hown7 hgrow7
    refine hK.out _ _ (HSX.out _ FB_q19.out) (fun hHeld => ?_)
    clear hK K
    (try simp only [Act.put, setIfInBounds_toArray, set_cons_zero, set_cons_succ, getElem_toArray, getElem_cons_succ, getElem_cons_zero])
    refine t1 (i := 13) (h := fun K hK => ?_)
    go_simp
    refine hK.out _ _ hHeld (fun hHeld => ?_)
    clear hK K
    (try simp only [Act.put, setIfInBounds_toArray, set_cons_zero, set_cons_succ, getElem_toArray, getElem_cons_succ, getElem_cons_zero])
    refine wpAnyH_done (by kernel_rfl) ?_ _
    clear HSX
    go_wp2
    go_ret
    exact givesV_app HO9.out HV9.out HB9.out
  refine AllReadyH.cons rfl (fun K hK => ?_) ?_
  · go_simp
    obtain ⟨wq20, hwq20⟩ : ∃ w', w' = wq1.alloc (.cells #[Value.slice AI X.length cI] 36) := ⟨_, rfl⟩
    rw [← hwq20]
    have bq20 := al hwq20
    have gq20 := an hwq20
    clear hwq20
    have FB_q21 := Lib.hid ((FB_q2.out).trans ((bq20).mono (FB_q2.out).size))
    clear FB_q2
    obtain ⟨gnq22, hgq22⟩ : ∃ b, wq1.heap.size = b := ⟨_, rfl⟩
    have FN_q22 := Lib.hid gq20
    rw [hgq22] at FN_q22 ⊢
    clear hgq22 gq20 bq20
    refine hK.out _ _ (HSX.out _ FB_q21.out) (fun hHeld => ?_)
    clear hK K
    (try simp only [Act.put, setIfInBounds_toArray, set_cons_zero, set_cons_succ, getElem_toArray, getElem_cons_succ, getElem_cons_zero])
    refine t1 (i := 5) (h := fun K hK => ?_)
    go_simp
    have KBq23 := Lib.hid FB_q21.out.size
    refine (HWO.out wq20 FB_q21.out).mono ?_
    rintro e wq23 ⟨gRq23, kRq23, rfl, oq23, belq23⟩
    dsimp only
    have FB_q24 := Lib.hid ((FB_q21.out).trans ((belq23).mono (FB_q21.out).size))
    have FN_q25 := Lib.hid (((belq23).block _ (Array.getElem?_eq_some_iff.1 (FN_q22.out)).1).trans (FN_q22.out))
    clear FB_q21 FN_q22
    have FO_q23 := Lib.hid (own_base oq23 KBq23.out)
    clear oq23 belq23
    refine hK.out _ _ (HSX.out _ FB_q24.out) (fun hHeld => ?_)
    clear hK K
    (try simp only [Act.put, setIfInBounds_toArray, set_cons_zero, set_cons_succ, getElem_toArray, getElem_cons_succ, getElem_cons_zero])
    refine t1 (i := 12) (h := fun K hK => ?_)
    refine step_append_o rfl _ _ 23 rfl u.heap.size 36 i0 (.slice none 0 0) 1 24 Tryz.underlying23 HI.out HZ0.out HZ1.out HZ2.out rfl (by decide) _ _ _ rfl FO_q23.out ⟨gnq22, 0, none⟩ 1 1 [.slice AI X.length cI] rfl rfl (World.news_of_block FN_q25.out) (by simp [Value.oneCell']) (by have := HR9.out; unfold maxLen; omega) (by have := HR9.out; omega) FB_q24.out.size ?_
    intro v7 wq26 hown7 hgrow7 _
    have FB_q26 := Lib.hid (FB_q24.out.grown hgrow7 FB_q24.out.size (fun k hk => (FO_q23.out.lt k hk).1))
    obtain ⟨A7, c7, rfl, bq26, oq26, rq26⟩ := rule_out HBU.out FB_q24.out (by rw [← HRV.out.len]) FO_q23.out HRV.out ((HRI.out.below FB_q24.out).more FB_q24.out.size) (rd_ord HRI.out (by have := HLI.out; omega) FO_q23.out (Nat.le_refl _)) HMI.out hown7 hgrow7
    have HB9 := Lib.hid bq26; have HO9 := Lib.hid oq26; have HV9 := Lib.hid rq26
    clear bq26 oq26 rq26 hown7 hgrow7
    refine hK.out _ _ (HSX.out _ FB_q26.out) (fun hHeld => ?_)
    clear hK K
    (try simp only [Act.put, setIfInBounds_toArray, set_cons_zero, set_cons_succ, getElem_toArray, getElem_cons_succ, getElem_cons_zero])
    refine t1 (i := 13) (h := fun K hK => ?_)
    go_simp
    refine hK.out _ _ hHeld (fun hHeld => ?_)
    clear hK K
    (try simp only [Act.put, setIfInBounds_toArray, set_cons_zero, set_cons_succ, getElem_toArray, getElem_cons_succ, getElem_cons_zero])
    refine wpAnyH_done (by kernel_rfl) ?_ _
    clear HSX
    go_wp2
    go_ret
    exact givesV_app HO9.out HV9.out HB9.out
  exact AllReadyH.nil
end
section
open Go.ChangeAt Go.ChangeShapes Go.RowKit Go.WideShapes

/-- The headers of a sequent, at an address, or nothing. -/
theorem hdrs_any {w : World} {A : Option Addr} {n c : Nat} {P : List (List Int)} (h : RdQ w w.heap.size A n P) (hA : A = none → c = 0) :
    (A = none ∧ c = 0 ∧ P = []) ∨ ∃ ad vs, A = some ad ∧ RdV w vs P ∧ ∀ wx, Below w.heap.size w wx → ∀ j u, vs[j]? = some u → wx.cell? (ad.add j) = some u := by
  have hl := h.len
  subst hl
  by_cases h0 : 0 < P.length
  · obtain ⟨b, off, rfl, hbb, _⟩ := h.2 h0
    obtain ⟨vs, hv, hc⟩ := RdV.of_q h
    refine .inr ⟨_, vs, rfl, hv, fun wx hx j u hu => ?_⟩
    have e := hc j u hu
    rw [add_off] at e ⊢
    rw [← e]; exact hx.cell hbb
  · have hP : P = [] := List.eq_nil_of_length_eq_zero (by omega)
    subst hP
    cases A with
    | none => exact .inl ⟨rfl, hA rfl, rfl⟩
    | some ad => exact .inr ⟨ad, [], rfl, RdV.nil w, fun wx hx j u hu => by simp at hu⟩
theorem step_append_none {P : Program} {w : World} {ops : Array Oper} {o : Oper} {a : Act} {K : Act → World → Prop} {Q : Exit → Act → World → Prop} {E : Prop} (hgd : o.guard = none) (s x : Operand) (t : TypeId)
    (ho : o.op = .call { callee := .builtin .append, args := #[s, x], argTypes := #[t, t] })
    (base : Nat) (e : TypeId) (i : TypeInfo) (size : Nat) (ht : P.underlying t = some (.slice e)) (hi : P.info? e = some i)
    (v : Value) (n : Nat) (xs : List Value) (hs : a.eval s = v) (hown : w.ownsRow base e size v n xs) (hx : a.eval x = .slice none 0 0)
    (h : K (a.put o.dst v) w) : if Region.wanted o (yielded ops a.tmps) = true then Oper.wp P o a w K Q else E := by
  have hw : Region.wanted o (yielded ops a.tmps) = true := by simp [Region.wanted, hgd]
  rw [if_pos hw]
  have hrun := run_append_owned_none (P := P) (w := w) base t o.type e i size ht hi v n xs hown
  unfold Oper.wp
  simp [execOp, ho, resolve, invoke, builtin, hs, hx, hrun, Result.andThen]
  exact h
theorem made_q {w : World} {base : Nat} (hb : base ≤ w.heap.size) : (w.alloc (.cells #[] 36)).ownsRow base 36 1 (.slice (some ⟨w.heap.size, 0, none⟩) 0 0) 0 [] :=
  World.ownsRow_made w #[] 0 hb (by simp [maxLen]) rfl
theorem lit_q {w : World} {base : Nat} (hb : base ≤ w.heap.size) (v : Value) : (w.alloc (.cells #[v] 36)).ownsRow base 36 1 (.slice (some ⟨w.heap.size, 0, none⟩) 1 1) 1 [v] :=
  ⟨by simp, .inr ⟨w.heap.size, 1, #[v], rfl, hb, heap_alloc_new w _, Nat.le_refl _, by simp [maxLen], rfl, by simp⟩⟩

theorem give5 {w w2 : World} {X : List Int} {g k base : Nat} (hb : w.heap.size ≤ base) (hl : X.length = 1) (o : w2.ownsRow base 36 1 (.slice (some ⟨k, 0, none⟩) 1 1) 1 [Value.slice (some ⟨g, 0, none⟩) 1 1]) (rd : RdI w2 w2.heap.size (some ⟨g, 0, none⟩) X.length X) (b : Below w.heap.size w w2) : GivesV w [X] (.returned (.slice (some ⟨k, 0, none⟩) 1 1)) w2 :=
  ⟨_, 1, [Value.slice (some ⟨g, 0, none⟩) 1 1], rfl, own_base o hb, by rw [← hl]; exact RdV.single rd (by omega), b⟩

set_option linter.unusedSimpArgs false in
set_option maxRecDepth 100000 in
set_option maxHeartbeats 16000000 in
theorem cc_5 (a b i j : Int) (B : Option Addr) (m d : Nat) (F : List Int) (A : Option Addr) (n c : Nat) (P : List (List Int)) (A2 : Option Addr) (n2 c2 : Nat) (Q : List (List Int)) (w : World) :
    Calls Tryz.prog 55 #[.slice A n c, .slice A2 n2 c2, Value.agg #[Value.int .i64 5, Value.int .i64 a, Value.int .i64 b, Value.int .i64 i, Value.int .i64 j, Value.slice B m d]] w (GivesV w (cnL 5 i j F P Q)) := by
  rw [show cnL 5 i j F P Q = [[13]] from rfl]
  obtain ⟨X, hX⟩ : ∃ X, ([13] : List Int) = X := ⟨_, rfl⟩
  obtain ⟨u, hu0⟩ : ∃ u, u = w.alloc (.cells #[Value.int .i64 5, Value.int .i64 a, Value.int .i64 b, Value.int .i64 i, Value.int .i64 j, Value.slice B m d] 43) := ⟨_, rfl⟩
  have hb : Below w.heap.size w u := by rw [hu0]; exact box_any w _
  have p0 := an hu0
  have HU0 := Lib.hid hu0; have HBU := Lib.hid hb; have HP0 := Lib.hid p0
  obtain ⟨w1, hw1⟩ : ∃ w1, w1 = u.alloc (.cells #[Value.int .i64 13] 2) := ⟨_, rfl⟩
  have b1 : Below u.heap.size u w1 := by rw [hw1]; exact box_any u _
  have o1 : w1.ownsRow u.heap.size 2 1 (.slice (some ⟨u.heap.size, 0, none⟩) 1 1) 1 [.int .i64 13] := by rw [hw1]; exact lit_i (Nat.le_refl _) _
  obtain ⟨w2, hw2⟩ : ∃ w2, w2 = w1.alloc (.cells #[Value.slice (some ⟨u.heap.size, 0, none⟩) 1 1] 36) := ⟨_, rfl⟩
  have b2 : Below w1.heap.size w1 w2 := by rw [hw2]; exact box_any w1 _
  have hs1 : w1.heap.size = u.heap.size + 1 := by rw [hw1]; simp
  have HO2 := Lib.hid (show w2.ownsRow u.heap.size 36 1 (.slice (some ⟨u.heap.size + 1, 0, none⟩) 1 1) 1 [Value.slice (some ⟨u.heap.size, 0, none⟩) 1 1] by rw [hw2, ← hs1]; exact lit_q b1.size _)
  have HRX : Hid (RdI w2 w2.heap.size (some ⟨u.heap.size, 0, none⟩) X.length X) := Lib.hid (by rw [← hX]; exact ((RdI.of_own (zs := [13]) o1).below b2).more b2.size)
  have HL : Hid (X.length = 1) := Lib.hid (by rw [← hX]; rfl)
  have HB2 := Lib.hid (hb.trans ((b1.trans (b2.mono b1.size)).mono hb.size))
  have HW1 := Lib.hid hw1; have HW2 := Lib.hid hw2
  rw [hX]
  clear hX hw1 hw2 b1 b2 o1 hs1
  have e0 := cell_of_row _ _ 0 _ _ (0, 0) HP0.out
  clear hu0 hb p0
  go_enter Tryz.func55, Tryz.ntmps55
  go_upto_region 1 with (fail)
  rw [← HU0.out]
  go_wp2
  rw [← HW1.out, ← HW2.out]
  go_ret
  exact give5 HBU.out.size HL.out HO2.out HRX.out HB2.out

set_option linter.unusedSimpArgs false in
set_option maxRecDepth 100000 in
set_option maxHeartbeats 16000000 in
theorem cc_6 (a b i j : Int) (B : Option Addr) (m d : Nat) (F : List Int) (A : Option Addr) (n c : Nat) (P : List (List Int)) (A2 : Option Addr) (n2 c2 : Nat) (Q : List (List Int)) (w : World) (h : RdQ w w.heap.size A n P) (hA : A = none → c = 0) (hP : validQ P = true) :
    Calls Tryz.prog 55 #[.slice A n c, .slice A2 n2 c2, Value.agg #[Value.int .i64 6, Value.int .i64 a, Value.int .i64 b, Value.int .i64 i, Value.int .i64 j, Value.slice B m d]] w (GivesV w (cnL 6 i j F P Q)) := by
  rw [show cnL 6 i j F P Q = woL P [] ++ [[14]] from rfl, woL_nil]
  obtain ⟨i0, hi0, hz0, hz1, hz2⟩ := info_parts_s
  have HI := Lib.hid hi0; have HZ0 := Lib.hid hz0; have HZ1 := Lib.hid hz1; have HZ2 := Lib.hid hz2
  have hl := h.len
  subst hl
  have hvl := validQ_len hP
  obtain ⟨u, hu0⟩ : ∃ u, u = w.alloc (.cells #[Value.int .i64 6, Value.int .i64 a, Value.int .i64 b, Value.int .i64 i, Value.int .i64 j, Value.slice B m d] 43) := ⟨_, rfl⟩
  have hb : Below w.heap.size w u := by rw [hu0]; exact box_any w _
  have p0 := an hu0
  have HU0 := Lib.hid hu0; have HBU := Lib.hid hb; have HP0 := Lib.hid p0
  have hd := hdrs_any ((h.below hb).more hb.size) hA
  obtain ⟨X, hX⟩ : ∃ X, ([14] : List Int) = X := ⟨_, rfl⟩
  have HL : Hid (X.length = 1) := Lib.hid (by rw [← hX]; rfl)
  have HM : Hid (X.map (Value.int .i64) = [.int .i64 14]) := Lib.hid (by rw [← hX]; rfl)
  rw [hX]
  obtain ⟨w1, hw1⟩ : ∃ w1, w1 = u.alloc (.cells #[] 36) := ⟨_, rfl⟩
  have HO1 := Lib.hid (show w1.ownsRow u.heap.size 36 1 (.slice (some ⟨u.heap.size, 0, none⟩) 0 0) 0 [] by rw [hw1]; exact made_q (Nat.le_refl _))
  have HB1 := Lib.hid (show Below u.heap.size u w1 by rw [hw1]; exact box_any u _)
  have HW1 := Lib.hid hw1
  have HH : Hid (∀ (w2 : World) (g2 k2 : Nat) (vs : List Value), Below u.heap.size u w2 → w2.ownsRow u.heap.size 36 1 (.slice (some ⟨g2, 0, none⟩) P.length k2) P.length vs → RdV u vs P → ∃ w4, w4 = (w2.alloc (.cells #[Value.int .i64 14] 2)).alloc (.cells #[Value.slice (some ⟨w2.heap.size, 0, none⟩) 1 1] 36) ∧ Below u.heap.size u w4 ∧ w4.ownsRow u.heap.size 36 1 (.slice (some ⟨g2, 0, none⟩) P.length k2) P.length vs ∧ w4.ownsRow u.heap.size 2 1 (.slice (some ⟨w2.heap.size, 0, none⟩) X.length 1) X.length (X.map (Value.int .i64)) ∧ w4.heap[w2.heap.size + 1]? = some (.cells #[Value.slice (some ⟨w2.heap.size, 0, none⟩) 1 1] 36 (0, 0)) ∧ [Value.slice (some ⟨w2.heap.size, 0, none⟩) 1 1] = [Value.slice (some ⟨w2.heap.size, 0, none⟩) X.length 1]) := Lib.hid (fun w2 g2 k2 vs hx o _ => by
    have ba : Below w2.heap.size w2 (w2.alloc (.cells #[Value.int .i64 14] 2)) := box_any w2 _
    have bb := box_any (w2.alloc (.cells #[Value.int .i64 14] 2)) (.cells #[Value.slice (some ⟨w2.heap.size, 0, none⟩) 1 1] 36)
    have hs9 : (w2.alloc (.cells #[Value.int .i64 14] 2)).heap.size = w2.heap.size + 1 := by simp
    have bc := ba.trans (bb.mono ba.size)
    refine ⟨_, rfl, hx.trans (bc.mono hx.size), own_below o bc (Nat.le_refl _), ?_, by rw [← hs9]; exact heap_alloc_new _ _, by rw [HL.out]⟩
    rw [HM.out, HL.out]
    exact own_below (lit_i hx.size _) bb (Nat.le_refl _))
  clear hX hw1 h hA hP
  rcases hd with ⟨rfl, rfl, rfl⟩ | ⟨ad, vs, rfl, hv, hc⟩
  · have HV : Hid (RdV u ([] : List Value) ([] : List (List Int))) := Lib.hid (RdV.nil u)

    obtain ⟨w4, hw4, b4, o4, x4, n4, q4⟩ := HH.out w1 u.heap.size 0 [] HB1.out HO1.out HV.out
    have HW4 := Lib.hid hw4; have HB4 := Lib.hid b4; have HO4 := Lib.hid o4; have HX4 := Lib.hid x4; have HN4 := Lib.hid n4; have HE4 := Lib.hid q4
    clear hw4 b4 o4 x4 n4 q4 HH
    have tokA : True := trivial
    have e0 := cell_of_row _ _ 0 _ _ (0, 0) HP0.out
    clear hu0 hb p0
    go_enter Tryz.func55, Tryz.ntmps55
    go_upto_region 1 with (fail)
    rw [← HU0.out]
    go_wp2_with (first
      | (have _t := tokA; at_builtin; rw [← HW1.out]; refine wpList_append_own_none rfl _ _ 23 rfl u.heap.size 36 i0 1 Tryz.underlying23 HI.out _ _ _ rfl HO1.out rfl ?_; clear tokA)
      | (at_builtin; rw [← HW4.out]; refine wpList_append_own _ rfl _ _ 23 rfl u.heap.size 36 i0 (.slice none 0 0) 1 24 Tryz.underlying23 HI.out HZ0.out HZ1.out HZ2.out rfl (by decide) _ _ _ rfl HO4.out ⟨_, 0, none⟩ 1 1 [.slice (some ⟨w1.heap.size, 0, none⟩) 1 1] rfl rfl (World.news_of_block HN4.out) (by simp [Value.oneCell']) (by unfold maxLen; omega) (by omega) HB4.out.size ?_; intro v7 w7 hown7 hgrow7 _; rw [HE4.out] at hown7; obtain ⟨A7, c7, rfl, b7, o7, r7⟩ := rule_out HBU.out HB4.out rfl HO4.out HV.out (RdI.of_own HX4.out) (row_apart HX4.out HO4.out (by decide)) (own_cap1 HX4.out) hown7 hgrow7; have HB9 := Lib.hid b7; have HO9 := Lib.hid o7; have HV9 := Lib.hid r7; clear b7 o7 r7 hown7 hgrow7))
    go_wp2
    go_ret
    exact givesV_app HO9.out HV9.out HB9.out
  · have H1 : Hid (∀ v ∈ vs, v.oneCell' = true) := Lib.hid hv.one
    have hlv := hv.len
    have HV := Lib.hid hv; have HC := Lib.hid (hc w1 HB1.out)
    clear hv hc
    have tokA : True := trivial
    have e0 := cell_of_row _ _ 0 _ _ (0, 0) HP0.out
    clear hu0 hb p0
    go_enter Tryz.func55, Tryz.ntmps55
    go_upto_region 1 with (fail)
    rw [← HU0.out]
    go_wp2_with (first
      | (have _t := tokA; at_builtin; rw [← HW1.out]; refine wpList_append_own _ rfl _ _ 23 rfl u.heap.size 36 i0 (.slice none 0 0) 1 24 Tryz.underlying23 HI.out HZ0.out HZ1.out HZ2.out rfl (by decide) _ _ _ rfl HO1.out ad P.length c vs rfl (by rw [Nat.mul_one]; exact hlv) HC.out H1.out (by unfold maxLen; omega) (by omega) HB1.out.size ?_; intro v2 w2 hown2 hgrow2 hiff2; rw [Nat.zero_add, List.nil_append] at hown2; obtain ⟨g2, k2, rfl⟩ := own_some hown2 (fun e => by have := (hiff2.1 e).1; cases this); have HB2 := Lib.hid (HB1.out.grown hgrow2 HB1.out.size (fun k hk => (HO1.out.lt k hk).1)); have HO2 := Lib.hid hown2; clear hown2 hgrow2 hiff2 tokA; obtain ⟨w4, hw4, b4, o4, x4, n4, q4⟩ := HH.out w2 g2 k2 vs HB2.out HO2.out HV.out; have HW4 := Lib.hid hw4; have HB4 := Lib.hid b4; have HO4 := Lib.hid o4; have HX4 := Lib.hid x4; have HN4 := Lib.hid n4; have HE4 := Lib.hid q4; clear hw4 b4 o4 x4 n4 q4 HH)
      | (at_builtin; rw [← HW4.out]; refine wpList_append_own _ rfl _ _ 23 rfl u.heap.size 36 i0 (.slice none 0 0) 1 24 Tryz.underlying23 HI.out HZ0.out HZ1.out HZ2.out rfl (by decide) _ _ _ rfl HO4.out ⟨_, 0, none⟩ 1 1 [.slice (some ⟨w2.heap.size, 0, none⟩) 1 1] rfl rfl (World.news_of_block HN4.out) (by simp [Value.oneCell']) (by unfold maxLen; omega) (by omega) HB4.out.size ?_; intro v7 w7 hown7 hgrow7 _; rw [HE4.out] at hown7; obtain ⟨A7, c7, rfl, b7, o7, r7⟩ := rule_out HBU.out HB4.out rfl HO4.out HV.out (RdI.of_own HX4.out) (row_apart HX4.out HO4.out (by decide)) (own_cap1 HX4.out) hown7 hgrow7; have HB9 := Lib.hid b7; have HO9 := Lib.hid o7; have HV9 := Lib.hid r7; clear b7 o7 r7 hown7 hgrow7))
    go_wp2
    go_ret
    exact givesV_app HO9.out HV9.out HB9.out
end
section
open Go.ChangeAt Go.ChangeShapes Go.RowKit Go.WideShapes

/-- What step s concludes behind the sequents L. -/
def seqOf (L : List (List (List Int))) (s : Stp) : Option (List (List Int)) := raV L s.r s.a s.b s.i s.j s.f
/-- The sequents of the first k steps, if each concludes one. -/
def sqK (ss : List Stp) : Nat → Option (List (List (List Int)))
  | 0 => some []
  | k + 1 => match sqK ss k with
    | none => none
    | some L => match seqOf L (ss.getD k Stp.nil) with
      | none => none
      | some R => some (L ++ [R])
theorem sqK_none {ss : List Stp} {k : Nat} (h : sqK ss k = none) : ∀ m, k ≤ m → sqK ss m = none := by
  intro m hm
  obtain ⟨d, rfl⟩ : ∃ d, m = k + d := ⟨m - k, by omega⟩
  induction d with
  | zero => exact h
  | succ d ih => rw [← Nat.add_assoc]; simp only [sqK]; rw [ih (by omega)]
theorem sqK_stop {ss : List Stp} {k n : Nat} {L : List (List (List Int))} (h : sqK ss k = some L) (hs : seqOf L (ss.getD k Stp.nil) = none) (hk : k < n) : sqK ss n = none :=
  sqK_none (k := k + 1) (by simp only [sqK]; rw [h]; dsimp only; rw [hs]) n hk
theorem sqK_step {ss : List Stp} {k : Nat} {L : List (List (List Int))} {R : List (List Int)} (h : sqK ss k = some L) (hs : seqOf L (ss.getD k Stp.nil) = some R) : sqK ss (k + 1) = some (L ++ [R]) := by
  simp only [sqK]; rw [h]; dsimp only; rw [hs]
theorem fin_some {X : Option (List (List Int))} {R : List (List Int)} (h : fin X = some R) : validQ R = true := by
  cases X with
  | none => cases h
  | some S =>
    have h2 : (if validQ S = true then some S else none) = some R := h
    split at h2
    · injection h2 with h2; subst h2; assumption
    · cases h2
theorem srV_valid {r i j : Int} {F : List Int} {P Q R : List (List Int)} (h : srV r i j F P Q = some R) : validQ R = true := by
  unfold srV at h
  split at h
  · split at h
    · exact fin_some h
    · cases h
  · split at h
    · split at h
      · exact fin_some h
      · cases h
    · split at h
      · exact fin_some h
      · cases h
theorem both_some {S : List (List Int) → List (List Int) → Option (List (List Int))} {X Y : Option (List (List Int))} {R : List (List Int)} (h : bothV S X Y = some R) : ∃ P Q, X = some P ∧ Y = some Q ∧ S P Q = some R := by
  cases X with
  | none => rw [both_left] at h; cases h
  | some P =>
    cases Y with
    | none => rw [both_right] at h; cases h
    | some Q => exact ⟨P, Q, rfl, rfl, h⟩
theorem paV_in {L : List (List (List Int))} {p : Int} {nm : Bool} {P : List (List Int)} (h : paV L p nm = some P) (hp : p ≠ -1) : 0 ≤ p ∧ p < (L.length : Int) := by
  unfold paV at h
  split at h
  · cases h
  · split at h
    · assumption
    · cases h
theorem seqOf_valid {L : List (List (List Int))} {s : Stp} {R : List (List Int)} (h : seqOf L s = some R) : validQ R = true := by
  unfold seqOf raV at h
  split at h
  · obtain ⟨P, Q, _, _, hs⟩ := both_some h
    exact srV_valid hs
  · cases h
theorem seqOf_prems {L : List (List (List Int))} {s : Stp} {R : List (List Int)} (h : seqOf L s = some R) : ∀ x ∈ prS s, 0 ≤ x ∧ x < (L.length : Int) := by
  unfold seqOf raV at h
  split at h
  · obtain ⟨P, Q, hp, hq, _⟩ := both_some h
    intro x hx
    unfold prS poL at hx
    rw [List.mem_filter] at hx
    obtain ⟨hm, hne⟩ := hx
    have hne' : x ≠ -1 := by simpa using hne
    rcases List.mem_cons.1 hm with e | hm
    · subst e; exact paV_in hp hne'
    · rcases List.mem_cons.1 hm with e | hm
      · subst e; exact paV_in hq hne'
      · cases hm
  · cases h
/-- A list of steps is a proof. -/
def ckB (ss : List Stp) : Bool := (decide (0 < ss.length) && decide (ss.length ≤ 40)) && ((sqK ss ss.length).isSome && useB ss)
/-- The row of the sequents so far: block g, the parts from block lo on. -/
structure Sqs (w : World) (g lo : Nat) (vs : List Value) (L : List (List (List Int))) : Prop where
  glt : g < lo
  parts : ∀ j, j < L.length → ∃ hs A c, vs[j]? = some (.slice A (L.getD j []).length c) ∧ OwnQ w lo w.heap.size (.slice A (L.getD j []).length c) hs (L.getD j [])
theorem Sqs.below {w w' : World} {g lo : Nat} {vs : List Value} {L : List (List (List Int))} (h : Sqs w g lo vs L) (hb : Below w.heap.size w w') : Sqs w' g lo vs L := by
  refine ⟨h.glt, fun j hj => ?_⟩
  obtain ⟨hs, A, c, h1, h2⟩ := h.parts j hj
  exact ⟨hs, A, c, h1, (h2.below hb).more (Nat.le_refl _) hb.size⟩
theorem Sqs.push {w : World} {g lo k cR : Nat} {vs : List Value} {L : List (List (List Int))} {AR : Option Addr} {R : List (List Int)} {hs : Nat → Option Addr × Nat} (h : Sqs w g lo vs L) (hk : L.length = k) (hv : k < vs.length) (own : OwnQ w lo w.heap.size (.slice AR R.length cR) hs R) :
    Sqs (w.setCell ⟨g, k, none⟩ (.slice AR R.length cR)) g lo (vs.set k (.slice AR R.length cR)) (L ++ [R]) := by
  refine ⟨h.glt, fun j hj => ?_⟩
  have hsz : (w.setCell ⟨g, k, none⟩ (.slice AR R.length cR)).heap.size = w.heap.size := by simp
  rw [List.length_append] at hj
  rw [hsz]
  by_cases e : j < k
  · have hg : (L ++ [R]).getD j [] = L.getD j [] := by rw [List.getD_eq_getElem?_getD, List.getD_eq_getElem?_getD, List.getElem?_append_left (by omega)]
    rw [hg]
    obtain ⟨hs', A, c, h1, h2⟩ := h.parts j (by omega)
    exact ⟨hs', A, c, by rw [List.getElem?_set_ne (by omega)]; exact h1, h2.setBelow h.glt _⟩
  · have ej : j = k := by simp only [List.length_cons, List.length_nil] at hj; omega
    subst ej
    have hg : (L ++ [R]).getD j [] = R := by rw [List.getD_eq_getElem?_getD, ← hk, List.getElem?_append_right (Nat.le_refl _)]; simp
    rw [hg]
    exact ⟨hs, AR, cR, by rw [List.getElem?_set_self hv], own.setBelow h.glt _⟩
theorem Sqs.rd {w : World} {base g lo n : Nat} {vs : List Value} {L : List (List (List Int))} (h : Sqs w g lo vs L) (own : w.ownsRow base 64 1 (.slice (some ⟨g, 0, none⟩) n n) n vs) (hL : L.length ≤ n) : RdR w w.heap.size (some ⟨g, 0, none⟩) L.length L := by
  refine ⟨rfl, fun h0 => ⟨g, 0, rfl, (own.lt g rfl).2, fun j hj => ?_⟩⟩
  obtain ⟨hs, A, c, h1, h2⟩ := h.parts j hj
  refine ⟨A, c, ?_, h2.rd rfl⟩
  rw [Nat.zero_add]
  exact (own.cellAt j (by omega)).trans h1
theorem info_seqT : (Tryz.prog.info? 64).map (fun i => (i.zero, i.size, i.bytes)) = some (some (.agg #[.slice none 0 0]), 1, 24) := by kernel_rfl
theorem info_parts_seqT : ∃ i, Tryz.prog.info? 64 = some i ∧ i.zero = some (.agg #[.slice none 0 0]) ∧ i.size = 1 ∧ i.bytes = 24 := by
  obtain ⟨i, hi, he⟩ := Option.map_eq_some_iff.1 info_seqT
  simp only [Prod.mk.injEq] at he
  exact ⟨i, hi, he.1, he.2.1, he.2.2⟩
/-- What CheckProof leaves: three values, the code 0 exactly for a proof. -/
def GivesK (w : World) (ok : Bool) (e : Ending) (w' : World) : Prop :=
  ∃ (v : Value) (k p : Int), e = .returned (.tuple #[v, .int .i64 k, .int .i64 p]) ∧ (k = 0 ↔ ok = true) ∧ Below w.heap.size w w'
end
end Go.Proofs.YthbkcpacgnmcfaaGreatDoor
