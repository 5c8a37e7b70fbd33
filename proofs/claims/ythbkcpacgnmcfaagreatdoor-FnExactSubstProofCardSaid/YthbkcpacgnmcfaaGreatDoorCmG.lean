/- The model's conclude at the rules 1, 12. Made by mkcmf.py. -/
import Derived.Test.YthbkcpacgnmcfaaGreatDoorQCmE13
import Derived.Test.YthbkcpacgnmcfaaGreatDoorQSubA
namespace Go.Proofs.YthbkcpacgnmcfaaGreatDoor
set_option linter.unusedSimpArgs false
set_option linter.unusedVariables false
open Go.ChangeAt Go.ChangeShapes Go.RowKit Go.WideShapes
open List (setIfInBounds_toArray set_cons_zero set_cons_succ getElem_toArray getElem_cons_succ getElem_cons_zero)

theorem give2 {w w2 : World} {X Y : List Int} {k base cX cY : Nat} {AX AY : Option Addr} (hb : w.heap.size ≤ base) (o : w2.ownsRow base 36 1 (.slice (some ⟨k, 0, none⟩) 2 2) 2 [Value.slice AX X.length cX, Value.slice AY Y.length cY]) (r1 : RdI w2 w2.heap.size AX X.length X) (r2 : RdI w2 w2.heap.size AY Y.length Y) (h1 : X.length ≤ cX) (h2 : Y.length ≤ cY) (b : Below w.heap.size w w2) : GivesV w [X, Y] (.returned (.slice (some ⟨k, 0, none⟩) 2 2)) w2 :=
  ⟨_, 2, _, rfl, own_base o hb, (RdV.single r1 h1).app (RdV.single r2 h2), b⟩
theorem lit_q2 {w : World} {base : Nat} (hb : base ≤ w.heap.size) (v0 v1 : Value) : (w.alloc (.cells #[v0, v1] 36)).ownsRow base 36 1 (.slice (some ⟨w.heap.size, 0, none⟩) 2 2) 2 [v0, v1] :=
  ⟨by simp, .inr ⟨w.heap.size, 2, #[v0, v1], rfl, hb, heap_alloc_new w _, Nat.le_refl _, by simp [maxLen], rfl, by simp⟩⟩

set_option linter.unusedSimpArgs false in
set_option maxRecDepth 100000 in
set_option maxHeartbeats 16000000 in
theorem cc_1 (a b i j : Int) (B : Option Addr) (m d : Nat) (F : List Int) (A : Option Addr) (n c : Nat) (P : List (List Int)) (A2 : Option Addr) (n2 c2 : Nat) (Q : List (List Int)) (w : World) (hf : RdI w w.heap.size B m F) (hmd : m ≤ d) (hF : validB F = true) :
    Calls Tryz.prog 55 #[.slice A n c, .slice A2 n2 c2, Value.agg #[Value.int .i64 1, Value.int .i64 a, Value.int .i64 b, Value.int .i64 i, Value.int .i64 j, Value.slice B m d]] w (GivesV w (cnL 1 i j F P Q)) := by
  rw [show cnL 1 i j F P Q = [F, dualL F] from rfl, dualL_yes hF]
  have hl := hf.len
  subst hl
  obtain ⟨u, hu0⟩ : ∃ u, u = w.alloc (.cells #[Value.int .i64 1, Value.int .i64 a, Value.int .i64 b, Value.int .i64 i, Value.int .i64 j, Value.slice B F.length d] 43) := ⟨_, rfl⟩
  have hb : Below w.heap.size w u := by rw [hu0]; exact box_any w _
  have p0 := an hu0
  have HU0 := Lib.hid hu0; have HBU := Lib.hid hb; have HP0 := Lib.hid p0
  have HRF := Lib.hid ((hf.below hb).more hb.size)
  have HSX : Hid (∀ wx, Below u.heap.size u wx → wx.cell? ⟨w.heap.size, 5, none⟩ = some (.slice B F.length d)) := Lib.hid fun wx hx => by
    have q := (hx.block w.heap.size (Array.getElem?_eq_some_iff.1 p0).1).trans p0
    exact cell_of_row _ _ 5 _ _ (0, 0) q
  have K0 := Lib.hid (HSX.out u (Below.refl _ _))
  have hdu := fun (wx : World) (hx : Below u.heap.size u wx) => sdual_any B d F wx ((HRF.out.below hx).more hx.size) hF
  obtain ⟨D, hD⟩ : ∃ D, F.map duZ = D := ⟨_, rfl⟩
  rw [hD] at hdu ⊢
  have HDU := Lib.hid hdu; have HMD := Lib.hid hmd
  clear hdu hD hf hmd hF
  have e0 := cell_of_row _ _ 0 _ _ (0, 0) HP0.out
  clear hu0 hb p0
  go_enter Tryz.func55, Tryz.ntmps55
  go_upto_region 1 with (fail)
  rw [← HU0.out]
  go_upto_region 3 with (fail)
  clear e0
  have FB_0 := Lib.hid (Below.refl u.heap.size u)
  refine wp_region_held_drew (S := fun wx => wx.cell? ⟨w.heap.size, 5, none⟩ = some (.slice B F.length d)) (by kernel_rfl) K0.out (fun hHeld => ?_)
  obtain ⟨wq1, hwq1⟩ : ∃ w', w' = u.drew := ⟨_, rfl⟩
  rw [← hwq1] at hHeld ⊢
  have bq1 : Below u.heap.size u wq1 := by rw [hwq1]; exact (Below.refl _ _).drew
  clear hwq1
  have FB_q2 := Lib.hid ((FB_0.out).trans ((bq1).mono (FB_0.out).size))
  clear FB_0
  refine tk (i := 0) (h := ?_)
  (try simp only [Act.put, setIfInBounds_toArray, set_cons_zero, set_cons_succ, getElem_toArray, getElem_cons_succ, getElem_cons_zero])
  refine tk (i := 2) (h := ?_)
  (try simp only [Act.put, setIfInBounds_toArray, set_cons_zero, set_cons_succ, getElem_toArray, getElem_cons_succ, getElem_cons_zero])
  refine tk (i := 1) (h := ?_)
  (try simp only [Act.put, setIfInBounds_toArray, set_cons_zero, set_cons_succ, getElem_toArray, getElem_cons_succ, getElem_cons_zero])
  refine tk (i := 3) (h := ?_)
  (try simp only [Act.put, setIfInBounds_toArray, set_cons_zero, set_cons_succ, getElem_toArray, getElem_cons_succ, getElem_cons_zero])
  refine t1 (i := 4) (h := fun K hK => ?_)
  go_simp
  have KBq7 := Lib.hid FB_q2.out.size
  refine (HDU.out wq1 FB_q2.out).mono ?_
  rintro e wq7 ⟨AD, cD, rfl, oq7, belq7⟩
  dsimp only
  have FB_q8 := Lib.hid ((FB_q2.out).trans ((belq7).mono (FB_q2.out).size))
  clear FB_q2
  have FX_q7 := Lib.hid (own_base oq7 KBq7.out)
  clear oq7 belq7
  refine hK.out _ _ (HSX.out _ FB_q8.out) (fun hHeld => ?_)
  clear hK K
  (try simp only [Act.put, setIfInBounds_toArray, set_cons_zero, set_cons_succ, getElem_toArray, getElem_cons_succ, getElem_cons_zero])
  refine t1 (i := 5) (h := fun K hK => ?_)
  go_simp
  obtain ⟨wq9, hwq9⟩ : ∃ w', w' = wq7.alloc (.cells #[Value.slice B F.length d, Value.slice AD D.length cD] 36) := ⟨_, rfl⟩
  rw [← hwq9]
  have bq9 := al hwq9
  have oq9 : wq9.ownsRow u.heap.size 36 1 (.slice (some ⟨wq7.heap.size, 0, none⟩) 2 2) 2 [Value.slice B F.length d, Value.slice AD D.length cD] := by rw [hwq9]; exact lit_q2 FB_q8.out.size _ _
  clear hwq9
  have FB_q10 := Lib.hid ((FB_q8.out).trans ((bq9).mono (FB_q8.out).size))
  have FX_q11 := Lib.hid (own_below (FX_q7.out) (bq9) (Nat.le_refl _))
  clear FB_q8 FX_q7
  obtain ⟨grq12, hgq12⟩ : ∃ b, wq7.heap.size = b := ⟨_, rfl⟩
  have FR_q12 := Lib.hid oq9
  rw [hgq12] at FR_q12 ⊢
  clear hgq12 oq9 bq9
  refine hK.out _ _ (HSX.out _ FB_q10.out) (fun hHeld => ?_)
  clear hK K
  (try simp only [Act.put, setIfInBounds_toArray, set_cons_zero, set_cons_succ, getElem_toArray, getElem_cons_succ, getElem_cons_zero])
  refine t1 (i := 6) (h := fun K hK => ?_)
  go_simp
  refine hK.out _ _ hHeld (fun hHeld => ?_)
  clear hK K
  (try simp only [Act.put, setIfInBounds_toArray, set_cons_zero, set_cons_succ, getElem_toArray, getElem_cons_succ, getElem_cons_zero])
  refine wpAnyH_done (by kernel_rfl) ?_ _
  have HO9 := Lib.hid FR_q12.out; have HX9 := Lib.hid FX_q11.out; have HB9 := Lib.hid FB_q10.out
  clear HSX
  go_wp2
  go_ret
  exact give2 HBU.out.size HO9.out ((HRF.out.below HB9.out).more HB9.out.size) (RdI.of_own HX9.out) HMD.out (own_cap1 HX9.out) (HBU.out.trans (HB9.out.mono HBU.out.size))

set_option linter.unusedSimpArgs false in
set_option maxRecDepth 100000 in
set_option maxHeartbeats 16000000 in
theorem cc_12 (a b i j : Int) (B : Option Addr) (m d : Nat) (F : List Int) (A : Option Addr) (n c : Nat) (P : List (List Int)) (A2 : Option Addr) (n2 c2 : Nat) (Q : List (List Int)) (w : World) (h : RdQ w w.heap.size A n P) (hA : A = none → c = 0) (hP : validQ P = true) (hf : RdI w w.heap.size B m F) (hF : validB F = true) :
    Calls Tryz.prog 55 #[.slice A n c, .slice A2 n2 c2, Value.agg #[Value.int .i64 12, Value.int .i64 a, Value.int .i64 b, Value.int .i64 i, Value.int .i64 j, Value.slice B m d]] w (GivesV w (cnL 12 i j F P Q)) := by
  rw [show cnL 12 i j F P Q = woL P [] ++ [18 :: F] from rfl, woL_nil]
  obtain ⟨i0, hi0, hz0, hz1, hz2⟩ := info_parts_s
  have HI := Lib.hid hi0; have HZ0 := Lib.hid hz0; have HZ1 := Lib.hid hz1; have HZ2 := Lib.hid hz2
  obtain ⟨i1, hi1, hy0, hy1, hy2⟩ := info_parts info_i64
  have HI1 := Lib.hid hi1; have HY0 := Lib.hid hy0; have HY1 := Lib.hid hy1; have HY2 := Lib.hid hy2
  have hl := h.len
  subst hl
  have hl3 := hf.len
  subst hl3
  have hvl := validQ_len hP
  have hlF := valid_len hF
  obtain ⟨u, hu0⟩ : ∃ u, u = w.alloc (.cells #[Value.int .i64 12, Value.int .i64 a, Value.int .i64 b, Value.int .i64 i, Value.int .i64 j, Value.slice B F.length d] 43) := ⟨_, rfl⟩
  have hb : Below w.heap.size w u := by rw [hu0]; exact box_any w _
  have p0 := an hu0
  have HU0 := Lib.hid hu0; have HBU := Lib.hid hb; have HP0 := Lib.hid p0
  have hd := hdrs_any ((h.below hb).more hb.size) hA
  obtain ⟨bi, oi, rfl, hbi, hci⟩ := hf.2 (by omega)
  have HCI : Hid (∀ wx, Below u.heap.size u wx → ∀ j v, (F.map (Value.int .i64))[j]? = some v → wx.cell? ((⟨bi, oi, none⟩ : Addr).add j) = some v) := Lib.hid fun wx hx j v hv => by
    rw [List.getElem?_map] at hv
    have hj : j < F.length := by
      rcases Nat.lt_or_ge j F.length with h9 | h9
      · exact h9
      · rw [List.getElem?_eq_none h9] at hv; cases hv
    rw [add_off, ((hb.trans (hx.mono hb.size)).cell (p := ⟨bi, oi + j, none⟩) hbi), hci j hj, ← hv, List.getElem?_eq_getElem hj, List.getD_eq_getElem?_getD, List.getElem?_eq_getElem hj]; rfl
  have HSX : Hid (∀ wx, Below u.heap.size u wx → wx.cell? ⟨w.heap.size, 5, none⟩ = some (.slice (some ⟨bi, oi, none⟩) F.length d)) := Lib.hid fun wx hx => by
    have q := (hx.block w.heap.size (Array.getElem?_eq_some_iff.1 p0).1).trans p0
    exact cell_of_row _ _ 5 _ _ (0, 0) q
  have K0 := Lib.hid (HSX.out u (Below.refl _ _))
  have HXL : Hid (1 + F.length = (18 :: F).length) := Lib.hid (Nat.add_comm _ _)
  have HXM : Hid ([Value.int .i64 18] ++ F.map (Value.int .i64) = (18 :: F).map (Value.int .i64)) := Lib.hid rfl
  have HXI : Hid (∀ v ∈ F.map (Value.int .i64), v.oneCell' = true) := Lib.hid fun v hv => by obtain ⟨x, _, rfl⟩ := List.mem_map.1 hv; rfl
  have HLM : Hid ((F.map (Value.int .i64)).length = F.length * 1) := Lib.hid (by rw [List.length_map, Nat.mul_one])
  obtain ⟨X, hX⟩ : ∃ X, (18 :: F : List Int) = X := ⟨_, rfl⟩
  rw [hX] at HXL HXM ⊢
  obtain ⟨ms, hms⟩ : ∃ ms, F.map (Value.int .i64) = ms := ⟨_, rfl⟩
  rw [hms] at HXM HXI HLM HCI
  have HLI := Lib.hid hlF
  clear hX hms hi1 hy0 hy1 hy2 hi0 hz0 hz1 hz2 h hA hP hf hF hbi hci hlF
  rcases hd with ⟨rfl, rfl, rfl⟩ | ⟨ad, vs, rfl, hv, hc⟩
  · have HV : Hid (RdV u ([] : List Value) ([] : List (List Int))) := Lib.hid (RdV.nil u)
    have e0 := cell_of_row _ _ 0 _ _ (0, 0) HP0.out
    clear hu0 hb p0
    go_enter Tryz.func55, Tryz.ntmps55
    go_upto_region 1 with (fail)
    rw [← HU0.out]
    go_upto_region 25 with (fail)
    clear e0
    have FB_0 := Lib.hid (Below.refl u.heap.size u)
    refine wp_region_held_drew (S := fun wx => wx.cell? ⟨w.heap.size, 5, none⟩ = some (.slice (some ⟨bi, oi, none⟩) F.length d)) (by kernel_rfl) K0.out (fun hHeld => ?_)
    obtain ⟨wqa1, hwqa1⟩ : ∃ w', w' = u.drew := ⟨_, rfl⟩
    rw [← hwqa1] at hHeld ⊢
    have bqa1 : Below u.heap.size u wqa1 := by rw [hwqa1]; exact (Below.refl _ _).drew
    clear hwqa1
    have FB_qa2 := Lib.hid ((FB_0.out).trans ((bqa1).mono (FB_0.out).size))
    clear FB_0
    refine tk (i := 1) (h := ?_)
    (try simp only [Act.put, setIfInBounds_toArray, set_cons_zero, set_cons_succ, getElem_toArray, getElem_cons_succ, getElem_cons_zero])
    refine tk (i := 4) (h := ?_)
    (try simp only [Act.put, setIfInBounds_toArray, set_cons_zero, set_cons_succ, getElem_toArray, getElem_cons_succ, getElem_cons_zero])
    refine tk (i := 5) (h := ?_)
    (try simp only [Act.put, setIfInBounds_toArray, set_cons_zero, set_cons_succ, getElem_toArray, getElem_cons_succ, getElem_cons_zero])
    refine wpAnyH_ready (rs := [0, 3]) (by kernel_rfl) (by simp) ?_
    refine AllReadyH.cons rfl (fun K hK => ?_) ?_
    · go_simp
      obtain ⟨wqa6, hwqa6⟩ : ∃ w', w' = wqa1.alloc (.cells #[] 36) := ⟨_, rfl⟩
      rw [← hwqa6]
      have bqa6 := al hwqa6
      have oqa6 : wqa6.ownsRow u.heap.size 36 1 (.slice (some ⟨wqa1.heap.size, 0, none⟩) 0 0) 0 [] := by rw [hwqa6]; exact made_q FB_qa2.out.size
      clear hwqa6
      have FB_qa7 := Lib.hid ((FB_qa2.out).trans ((bqa6).mono (FB_qa2.out).size))
      clear FB_qa2
      obtain ⟨geqa8, hgqa8⟩ : ∃ b, wqa1.heap.size = b := ⟨_, rfl⟩
      have FE_qa8 := Lib.hid oqa6
      rw [hgqa8] at FE_qa8 ⊢
      clear hgqa8 oqa6 bqa6
      refine hK.out _ _ (HSX.out _ FB_qa7.out) (fun hHeld => ?_)
      clear hK K
      (try simp only [Act.put, setIfInBounds_toArray, set_cons_zero, set_cons_succ, getElem_toArray, getElem_cons_succ, getElem_cons_zero])
      refine wpAnyH_ready (rs := [2, 3]) (by kernel_rfl) (by simp) ?_
      refine AllReadyH.cons rfl (fun K hK => ?_) ?_
      · refine step_append_none rfl _ _ 23 rfl u.heap.size 36 i0 1 Tryz.underlying23 HI.out _ _ _ rfl FE_qa8.out rfl ?_
        have FO_qa8 := FE_qa8
        refine hK.out _ _ (HSX.out _ FB_qa7.out) (fun hHeld => ?_)
        clear hK K
        (try simp only [Act.put, setIfInBounds_toArray, set_cons_zero, set_cons_succ, getElem_toArray, getElem_cons_succ, getElem_cons_zero])
        refine t1 (i := 3) (h := fun K hK => ?_)
        go_simp
        obtain ⟨wqa9, hwqa9⟩ : ∃ w', w' = wqa6.alloc (.cells #[Value.int .i64 18] 2) := ⟨_, rfl⟩
        rw [← hwqa9]
        have bqa9 := al hwqa9
        have oqa9 : wqa9.ownsRow u.heap.size 2 1 (.slice (some ⟨wqa6.heap.size, 0, none⟩) 1 1) 1 [Value.int .i64 18] := by rw [hwqa9]; exact lit_i FB_qa7.out.size _
        clear hwqa9
        have FB_qa10 := Lib.hid ((FB_qa7.out).trans ((bqa9).mono (FB_qa7.out).size))
        have FO_qa11 := Lib.hid (own_below (FO_qa8.out) (bqa9) (Nat.le_refl _))
        clear FB_qa7 FO_qa8
        obtain ⟨glqa12, hgqa12⟩ : ∃ b, wqa6.heap.size = b := ⟨_, rfl⟩
        have FL_qa12 := Lib.hid oqa9
        rw [hgqa12] at FL_qa12 ⊢
        clear hgqa12 oqa9 bqa9
        refine hK.out _ _ (HSX.out _ FB_qa10.out) (fun hHeld => ?_)
        clear hK K
        (try simp only [Act.put, setIfInBounds_toArray, set_cons_zero, set_cons_succ, getElem_toArray, getElem_cons_succ, getElem_cons_zero])
        refine t1 (i := 6) (h := fun K hK => ?_)
        refine step_append_o rfl _ _ 36 rfl u.heap.size 2 i1 (.int .i64 0) 1 8 Tryz.underlying36 HI1.out HY0.out HY1.out HY2.out rfl (by decide) _ _ _ rfl FL_qa12.out ⟨bi, oi, none⟩ F.length d ms rfl HLM.out (HCI.out _ FB_qa10.out) HXI.out (by have := HLI.out; unfold maxLen; omega) (by have := HLI.out; omega) FB_qa10.out.size ?_
        intro v7 wqa13 hown7 hgrow7 _
        rw [HXL.out, HXM.out] at hown7
        obtain ⟨AX, cX, rfl⟩ := own_shape hown7
        have FB_qa13 := Lib.hid (FB_qa10.out.grown hgrow7 FB_qa10.out.size (fun k hk => (FL_qa12.out.lt k hk).1)); have FO_qa13 := Lib.hid (FO_qa11.out.kept hgrow7 (row_apart FO_qa11.out FL_qa12.out (by decide))); have FX_qa13 := Lib.hid hown7
        clear hown7 hgrow7
        refine hK.out _ _ (HSX.out _ FB_qa13.out) (fun hHeld => ?_)
        clear hK K
        (try simp only [Act.put, setIfInBounds_toArray, set_cons_zero, set_cons_succ, getElem_toArray, getElem_cons_succ, getElem_cons_zero])
        refine t1 (i := 7) (h := fun K hK => ?_)
        go_simp
        obtain ⟨wqa14, hwqa14⟩ : ∃ w', w' = wqa13.alloc (.cells #[Value.slice AX X.length cX] 36) := ⟨_, rfl⟩
        rw [← hwqa14]
        have bqa14 := al hwqa14
        have gqa14 := an hwqa14
        clear hwqa14
        have FB_qa15 := Lib.hid ((FB_qa13.out).trans ((bqa14).mono (FB_qa13.out).size))
        have FO_qa16 := Lib.hid (own_below (FO_qa13.out) (bqa14) (Nat.le_refl _))
        have FX_qa17 := Lib.hid (own_below (FX_qa13.out) (bqa14) (Nat.le_refl _))
        clear FB_qa13 FO_qa13 FX_qa13
        obtain ⟨gnqa18, hgqa18⟩ : ∃ b, wqa13.heap.size = b := ⟨_, rfl⟩
        have FN_qa18 := Lib.hid gqa14
        rw [hgqa18] at FN_qa18 ⊢
        clear hgqa18 gqa14 bqa14
        refine hK.out _ _ (HSX.out _ FB_qa15.out) (fun hHeld => ?_)
        clear hK K
        (try simp only [Act.put, setIfInBounds_toArray, set_cons_zero, set_cons_succ, getElem_toArray, getElem_cons_succ, getElem_cons_zero])
        refine t1 (i := 8) (h := fun K hK => ?_)
        refine step_append_o rfl _ _ 23 rfl u.heap.size 36 i0 (.slice none 0 0) 1 24 Tryz.underlying23 HI.out HZ0.out HZ1.out HZ2.out rfl (by decide) _ _ _ rfl FO_qa16.out ⟨gnqa18, 0, none⟩ 1 1 [.slice AX X.length cX] rfl rfl (World.news_of_block FN_qa18.out) (by simp [Value.oneCell']) (by unfold maxLen; omega) (by omega) FB_qa15.out.size ?_
        intro v7 wqa19 hown7 hgrow7 _
        have FB_qa19 := Lib.hid (FB_qa15.out.grown hgrow7 FB_qa15.out.size (fun k hk => (FO_qa16.out.lt k hk).1))
        obtain ⟨A7, c7, rfl, bqa19, oqa19, rqa19⟩ := rule_out HBU.out FB_qa15.out rfl FO_qa16.out HV.out (RdI.of_own FX_qa17.out) (row_apart FX_qa17.out FO_qa16.out (by decide)) (own_cap1 FX_qa17.out) hown7 hgrow7
        have HB9 := Lib.hid bqa19; have HO9 := Lib.hid oqa19; have HV9 := Lib.hid rqa19
        clear bqa19 oqa19 rqa19 hown7 hgrow7
        refine hK.out _ _ (HSX.out _ FB_qa19.out) (fun hHeld => ?_)
        clear hK K
        (try simp only [Act.put, setIfInBounds_toArray, set_cons_zero, set_cons_succ, getElem_toArray, getElem_cons_succ, getElem_cons_zero])
        refine t1 (i := 9) (h := fun K hK => ?_)
        go_simp
        refine hK.out _ _ hHeld (fun hHeld => ?_)
        clear hK K
        (try simp only [Act.put, setIfInBounds_toArray, set_cons_zero, set_cons_succ, getElem_toArray, getElem_cons_succ, getElem_cons_zero])
        refine wpAnyH_done (by kernel_rfl) ?_ _
        clear HSX
        go_wp2
        go_ret
        exact givesV_app HO9.out HV9.out HB9.out
      refine AllReadyH.cons rfl (fun K hK => ?_) ?_
      · go_simp
        obtain ⟨wqa20, hwqa20⟩ : ∃ w', w' = wqa6.alloc (.cells #[Value.int .i64 18] 2) := ⟨_, rfl⟩
        rw [← hwqa20]
        have bqa20 := al hwqa20
        have oqa20 : wqa20.ownsRow u.heap.size 2 1 (.slice (some ⟨wqa6.heap.size, 0, none⟩) 1 1) 1 [Value.int .i64 18] := by rw [hwqa20]; exact lit_i FB_qa7.out.size _
        clear hwqa20
        have FB_qa21 := Lib.hid ((FB_qa7.out).trans ((bqa20).mono (FB_qa7.out).size))
        have FE_qa22 := Lib.hid (own_below (FE_qa8.out) (bqa20) (Nat.le_refl _))
        clear FB_qa7 FE_qa8
        obtain ⟨glqa23, hgqa23⟩ : ∃ b, wqa6.heap.size = b := ⟨_, rfl⟩
        have FL_qa23 := Lib.hid oqa20
        rw [hgqa23] at FL_qa23 ⊢
        clear hgqa23 oqa20 bqa20
        refine hK.out _ _ (HSX.out _ FB_qa21.out) (fun hHeld => ?_)
        clear hK K
        (try simp only [Act.put, setIfInBounds_toArray, set_cons_zero, set_cons_succ, getElem_toArray, getElem_cons_succ, getElem_cons_zero])
        refine t1 (i := 2) (h := fun K hK => ?_)
        refine step_append_none rfl _ _ 23 rfl u.heap.size 36 i0 1 Tryz.underlying23 HI.out _ _ _ rfl FE_qa22.out rfl ?_
        have FO_qa22 := FE_qa22
        refine hK.out _ _ (HSX.out _ FB_qa21.out) (fun hHeld => ?_)
        clear hK K
        (try simp only [Act.put, setIfInBounds_toArray, set_cons_zero, set_cons_succ, getElem_toArray, getElem_cons_succ, getElem_cons_zero])
        refine t1 (i := 6) (h := fun K hK => ?_)
        refine step_append_o rfl _ _ 36 rfl u.heap.size 2 i1 (.int .i64 0) 1 8 Tryz.underlying36 HI1.out HY0.out HY1.out HY2.out rfl (by decide) _ _ _ rfl FL_qa23.out ⟨bi, oi, none⟩ F.length d ms rfl HLM.out (HCI.out _ FB_qa21.out) HXI.out (by have := HLI.out; unfold maxLen; omega) (by have := HLI.out; omega) FB_qa21.out.size ?_
        intro v7 wqa24 hown7 hgrow7 _
        rw [HXL.out, HXM.out] at hown7
        obtain ⟨AX, cX, rfl⟩ := own_shape hown7
        have FB_qa24 := Lib.hid (FB_qa21.out.grown hgrow7 FB_qa21.out.size (fun k hk => (FL_qa23.out.lt k hk).1)); have FO_qa24 := Lib.hid (FO_qa22.out.kept hgrow7 (row_apart FO_qa22.out FL_qa23.out (by decide))); have FX_qa24 := Lib.hid hown7
        clear hown7 hgrow7
        refine hK.out _ _ (HSX.out _ FB_qa24.out) (fun hHeld => ?_)
        clear hK K
        (try simp only [Act.put, setIfInBounds_toArray, set_cons_zero, set_cons_succ, getElem_toArray, getElem_cons_succ, getElem_cons_zero])
        refine t1 (i := 7) (h := fun K hK => ?_)
        go_simp
        obtain ⟨wqa25, hwqa25⟩ : ∃ w', w' = wqa24.alloc (.cells #[Value.slice AX X.length cX] 36) := ⟨_, rfl⟩
        rw [← hwqa25]
        have bqa25 := al hwqa25
        have gqa25 := an hwqa25
        clear hwqa25
        have FB_qa26 := Lib.hid ((FB_qa24.out).trans ((bqa25).mono (FB_qa24.out).size))
        have FO_qa27 := Lib.hid (own_below (FO_qa24.out) (bqa25) (Nat.le_refl _))
        have FX_qa28 := Lib.hid (own_below (FX_qa24.out) (bqa25) (Nat.le_refl _))
        clear FB_qa24 FO_qa24 FX_qa24
        obtain ⟨gnqa29, hgqa29⟩ : ∃ b, wqa24.heap.size = b := ⟨_, rfl⟩
        have FN_qa29 := Lib.hid gqa25
        rw [hgqa29] at FN_qa29 ⊢
        clear hgqa29 gqa25 bqa25
        refine hK.out _ _ (HSX.out _ FB_qa26.out) (fun hHeld => ?_)
        clear hK K
        (try simp only [Act.put, setIfInBounds_toArray, set_cons_zero, set_cons_succ, getElem_toArray, getElem_cons_succ, getElem_cons_zero])
        refine t1 (i := 8) (h := fun K hK => ?_)
        refine step_append_o rfl _ _ 23 rfl u.heap.size 36 i0 (.slice none 0 0) 1 24 Tryz.underlying23 HI.out HZ0.out HZ1.out HZ2.out rfl (by decide) _ _ _ rfl FO_qa27.out ⟨gnqa29, 0, none⟩ 1 1 [.slice AX X.length cX] rfl rfl (World.news_of_block FN_qa29.out) (by simp [Value.oneCell']) (by unfold maxLen; omega) (by omega) FB_qa26.out.size ?_
        intro v7 wqa30 hown7 hgrow7 _
        have FB_qa30 := Lib.hid (FB_qa26.out.grown hgrow7 FB_qa26.out.size (fun k hk => (FO_qa27.out.lt k hk).1))
        obtain ⟨A7, c7, rfl, bqa30, oqa30, rqa30⟩ := rule_out HBU.out FB_qa26.out rfl FO_qa27.out HV.out (RdI.of_own FX_qa28.out) (row_apart FX_qa28.out FO_qa27.out (by decide)) (own_cap1 FX_qa28.out) hown7 hgrow7
        have HB9 := Lib.hid bqa30; have HO9 := Lib.hid oqa30; have HV9 := Lib.hid rqa30
        clear bqa30 oqa30 rqa30 hown7 hgrow7
        refine hK.out _ _ (HSX.out _ FB_qa30.out) (fun hHeld => ?_)
        clear hK K
        (try simp only [Act.put, setIfInBounds_toArray, set_cons_zero, set_cons_succ, getElem_toArray, getElem_cons_succ, getElem_cons_zero])
        refine t1 (i := 9) (h := fun K hK => ?_)
        go_simp
        refine hK.out _ _ hHeld (fun hHeld => ?_)
        clear hK K
        (try simp only [Act.put, setIfInBounds_toArray, set_cons_zero, set_cons_succ, getElem_toArray, getElem_cons_succ, getElem_cons_zero])
        refine wpAnyH_done (by kernel_rfl) ?_ _
        clear HSX
        go_wp2
        go_ret
        exact givesV_app HO9.out HV9.out HB9.out
      exact AllReadyH.nil
    refine AllReadyH.cons rfl (fun K hK => ?_) ?_
    · go_simp
      obtain ⟨wqa31, hwqa31⟩ : ∃ w', w' = wqa1.alloc (.cells #[Value.int .i64 18] 2) := ⟨_, rfl⟩
      rw [← hwqa31]
      have bqa31 := al hwqa31
      have oqa31 : wqa31.ownsRow u.heap.size 2 1 (.slice (some ⟨wqa1.heap.size, 0, none⟩) 1 1) 1 [Value.int .i64 18] := by rw [hwqa31]; exact lit_i FB_qa2.out.size _
      clear hwqa31
      have FB_qa32 := Lib.hid ((FB_qa2.out).trans ((bqa31).mono (FB_qa2.out).size))
      clear FB_qa2
      obtain ⟨glqa33, hgqa33⟩ : ∃ b, wqa1.heap.size = b := ⟨_, rfl⟩
      have FL_qa33 := Lib.hid oqa31
      rw [hgqa33] at FL_qa33 ⊢
      clear hgqa33 oqa31 bqa31
      refine hK.out _ _ (HSX.out _ FB_qa32.out) (fun hHeld => ?_)
      clear hK K
      (try simp only [Act.put, setIfInBounds_toArray, set_cons_zero, set_cons_succ, getElem_toArray, getElem_cons_succ, getElem_cons_zero])
      refine t1 (i := 0) (h := fun K hK => ?_)
      go_simp
      obtain ⟨wqa34, hwqa34⟩ : ∃ w', w' = wqa31.alloc (.cells #[] 36) := ⟨_, rfl⟩
      rw [← hwqa34]
      have bqa34 := al hwqa34
      have oqa34 : wqa34.ownsRow u.heap.size 36 1 (.slice (some ⟨wqa31.heap.size, 0, none⟩) 0 0) 0 [] := by rw [hwqa34]; exact made_q FB_qa32.out.size
      clear hwqa34
      have FB_qa35 := Lib.hid ((FB_qa32.out).trans ((bqa34).mono (FB_qa32.out).size))
      have FL_qa36 := Lib.hid (own_below (FL_qa33.out) (bqa34) (Nat.le_refl _))
      clear FB_qa32 FL_qa33
      obtain ⟨geqa37, hgqa37⟩ : ∃ b, wqa31.heap.size = b := ⟨_, rfl⟩
      have FE_qa37 := Lib.hid oqa34
      rw [hgqa37] at FE_qa37 ⊢
      clear hgqa37 oqa34 bqa34
      refine hK.out _ _ (HSX.out _ FB_qa35.out) (fun hHeld => ?_)
      clear hK K
      (try simp only [Act.put, setIfInBounds_toArray, set_cons_zero, set_cons_succ, getElem_toArray, getElem_cons_succ, getElem_cons_zero])
      refine t1 (i := 2) (h := fun K hK => ?_)
      refine step_append_none rfl _ _ 23 rfl u.heap.size 36 i0 1 Tryz.underlying23 HI.out _ _ _ rfl FE_qa37.out rfl ?_
      have FO_qa37 := FE_qa37
      refine hK.out _ _ (HSX.out _ FB_qa35.out) (fun hHeld => ?_)
      clear hK K
      (try simp only [Act.put, setIfInBounds_toArray, set_cons_zero, set_cons_succ, getElem_toArray, getElem_cons_succ, getElem_cons_zero])
      refine t1 (i := 6) (h := fun K hK => ?_)
      refine step_append_o rfl _ _ 36 rfl u.heap.size 2 i1 (.int .i64 0) 1 8 Tryz.underlying36 HI1.out HY0.out HY1.out HY2.out rfl (by decide) _ _ _ rfl FL_qa36.out ⟨bi, oi, none⟩ F.length d ms rfl HLM.out (HCI.out _ FB_qa35.out) HXI.out (by have := HLI.out; unfold maxLen; omega) (by have := HLI.out; omega) FB_qa35.out.size ?_
      intro v7 wqa38 hown7 hgrow7 _
      rw [HXL.out, HXM.out] at hown7
      obtain ⟨AX, cX, rfl⟩ := own_shape hown7
      have FB_qa38 := Lib.hid (FB_qa35.out.grown hgrow7 FB_qa35.out.size (fun k hk => (FL_qa36.out.lt k hk).1)); have FO_qa38 := Lib.hid (FO_qa37.out.kept hgrow7 (row_apart FO_qa37.out FL_qa36.out (by decide))); have FX_qa38 := Lib.hid hown7
      clear hown7 hgrow7
      refine hK.out _ _ (HSX.out _ FB_qa38.out) (fun hHeld => ?_)
      clear hK K
      (try simp only [Act.put, setIfInBounds_toArray, set_cons_zero, set_cons_succ, getElem_toArray, getElem_cons_succ, getElem_cons_zero])
      refine t1 (i := 7) (h := fun K hK => ?_)
      go_simp
      obtain ⟨wqa39, hwqa39⟩ : ∃ w', w' = wqa38.alloc (.cells #[Value.slice AX X.length cX] 36) := ⟨_, rfl⟩
      rw [← hwqa39]
      have bqa39 := al hwqa39
      have gqa39 := an hwqa39
      clear hwqa39
      have FB_qa40 := Lib.hid ((FB_qa38.out).trans ((bqa39).mono (FB_qa38.out).size))
      have FO_qa41 := Lib.hid (own_below (FO_qa38.out) (bqa39) (Nat.le_refl _))
      have FX_qa42 := Lib.hid (own_below (FX_qa38.out) (bqa39) (Nat.le_refl _))
      clear FB_qa38 FO_qa38 FX_qa38
      obtain ⟨gnqa43, hgqa43⟩ : ∃ b, wqa38.heap.size = b := ⟨_, rfl⟩
      have FN_qa43 := Lib.hid gqa39
      rw [hgqa43] at FN_qa43 ⊢
      clear hgqa43 gqa39 bqa39
      refine hK.out _ _ (HSX.out _ FB_qa40.out) (fun hHeld => ?_)
      clear hK K
      (try simp only [Act.put, setIfInBounds_toArray, set_cons_zero, set_cons_succ, getElem_toArray, getElem_cons_succ, getElem_cons_zero])
      refine t1 (i := 8) (h := fun K hK => ?_)
      refine step_append_o rfl _ _ 23 rfl u.heap.size 36 i0 (.slice none 0 0) 1 24 Tryz.underlying23 HI.out HZ0.out HZ1.out HZ2.out rfl (by decide) _ _ _ rfl FO_qa41.out ⟨gnqa43, 0, none⟩ 1 1 [.slice AX X.length cX] rfl rfl (World.news_of_block FN_qa43.out) (by simp [Value.oneCell']) (by unfold maxLen; omega) (by omega) FB_qa40.out.size ?_
      intro v7 wqa44 hown7 hgrow7 _
      have FB_qa44 := Lib.hid (FB_qa40.out.grown hgrow7 FB_qa40.out.size (fun k hk => (FO_qa41.out.lt k hk).1))
      obtain ⟨A7, c7, rfl, bqa44, oqa44, rqa44⟩ := rule_out HBU.out FB_qa40.out rfl FO_qa41.out HV.out (RdI.of_own FX_qa42.out) (row_apart FX_qa42.out FO_qa41.out (by decide)) (own_cap1 FX_qa42.out) hown7 hgrow7
      have HB9 := Lib.hid bqa44; have HO9 := Lib.hid oqa44; have HV9 := Lib.hid rqa44
      clear bqa44 oqa44 rqa44 hown7 hgrow7
      refine hK.out _ _ (HSX.out _ FB_qa44.out) (fun hHeld => ?_)
      clear hK K
      (try simp only [Act.put, setIfInBounds_toArray, set_cons_zero, set_cons_succ, getElem_toArray, getElem_cons_succ, getElem_cons_zero])
      refine t1 (i := 9) (h := fun K hK => ?_)
      go_simp
      refine hK.out _ _ hHeld (fun hHeld => ?_)
      clear hK K
      (try simp only [Act.put, setIfInBounds_toArray, set_cons_zero, set_cons_succ, getElem_toArray, getElem_cons_succ, getElem_cons_zero])
      refine wpAnyH_done (by kernel_rfl) ?_ _
      clear HSX
      go_wp2
      go_ret
      exact givesV_app HO9.out HV9.out HB9.out
    exact AllReadyH.nil
  · have H1 : Hid (∀ v ∈ vs, v.oneCell' = true) := Lib.hid hv.one
    have HLV := Lib.hid hv.len
    have HV := Lib.hid hv; have HC := Lib.hid hc
    clear hv hc
    have e0 := cell_of_row _ _ 0 _ _ (0, 0) HP0.out
    clear hu0 hb p0
    go_enter Tryz.func55, Tryz.ntmps55
    go_upto_region 1 with (fail)
    rw [← HU0.out]
    go_upto_region 25 with (fail)
    clear e0
    have FB_0 := Lib.hid (Below.refl u.heap.size u)
    refine wp_region_held_drew (S := fun wx => wx.cell? ⟨w.heap.size, 5, none⟩ = some (.slice (some ⟨bi, oi, none⟩) F.length d)) (by kernel_rfl) K0.out (fun hHeld => ?_)
    obtain ⟨wqb1, hwqb1⟩ : ∃ w', w' = u.drew := ⟨_, rfl⟩
    rw [← hwqb1] at hHeld ⊢
    have bqb1 : Below u.heap.size u wqb1 := by rw [hwqb1]; exact (Below.refl _ _).drew
    clear hwqb1
    have FB_qb2 := Lib.hid ((FB_0.out).trans ((bqb1).mono (FB_0.out).size))
    clear FB_0
    refine tk (i := 1) (h := ?_)
    (try simp only [Act.put, setIfInBounds_toArray, set_cons_zero, set_cons_succ, getElem_toArray, getElem_cons_succ, getElem_cons_zero])
    refine tk (i := 4) (h := ?_)
    (try simp only [Act.put, setIfInBounds_toArray, set_cons_zero, set_cons_succ, getElem_toArray, getElem_cons_succ, getElem_cons_zero])
    refine tk (i := 5) (h := ?_)
    (try simp only [Act.put, setIfInBounds_toArray, set_cons_zero, set_cons_succ, getElem_toArray, getElem_cons_succ, getElem_cons_zero])
    refine wpAnyH_ready (rs := [0, 3]) (by kernel_rfl) (by simp) ?_
    refine AllReadyH.cons rfl (fun K hK => ?_) ?_
    · go_simp
      obtain ⟨wqb6, hwqb6⟩ : ∃ w', w' = wqb1.alloc (.cells #[] 36) := ⟨_, rfl⟩
      rw [← hwqb6]
      have bqb6 := al hwqb6
      have oqb6 : wqb6.ownsRow u.heap.size 36 1 (.slice (some ⟨wqb1.heap.size, 0, none⟩) 0 0) 0 [] := by rw [hwqb6]; exact made_q FB_qb2.out.size
      clear hwqb6
      have FB_qb7 := Lib.hid ((FB_qb2.out).trans ((bqb6).mono (FB_qb2.out).size))
      clear FB_qb2
      obtain ⟨geqb8, hgqb8⟩ : ∃ b, wqb1.heap.size = b := ⟨_, rfl⟩
      have FE_qb8 := Lib.hid oqb6
      rw [hgqb8] at FE_qb8 ⊢
      clear hgqb8 oqb6 bqb6
      refine hK.out _ _ (HSX.out _ FB_qb7.out) (fun hHeld => ?_)
      clear hK K
      (try simp only [Act.put, setIfInBounds_toArray, set_cons_zero, set_cons_succ, getElem_toArray, getElem_cons_succ, getElem_cons_zero])
      refine wpAnyH_ready (rs := [2, 3]) (by kernel_rfl) (by simp) ?_
      refine AllReadyH.cons rfl (fun K hK => ?_) ?_
      · refine step_append_o rfl _ _ 23 rfl u.heap.size 36 i0 (.slice none 0 0) 1 24 Tryz.underlying23 HI.out HZ0.out HZ1.out HZ2.out rfl (by decide) _ _ _ rfl FE_qb8.out ad P.length c vs rfl (by rw [Nat.mul_one]; exact HLV.out) (HC.out _ FB_qb7.out) H1.out (by unfold maxLen; omega) (by omega) FB_qb7.out.size ?_
        intro v7 wqb9 hown7 hgrow7 hiff7
        rw [Nat.zero_add, List.nil_append] at hown7
        obtain ⟨gR, kR, rfl⟩ := own_some hown7 (fun e => by have := (hiff7.1 e).1; cases this)
        have FB_qb9 := Lib.hid (FB_qb7.out.grown hgrow7 FB_qb7.out.size (fun k hk => (FE_qb8.out.lt k hk).1)); have FO_qb9 := Lib.hid hown7
        clear hown7 hgrow7 hiff7
        refine hK.out _ _ (HSX.out _ FB_qb9.out) (fun hHeld => ?_)
        clear hK K
        (try simp only [Act.put, setIfInBounds_toArray, set_cons_zero, set_cons_succ, getElem_toArray, getElem_cons_succ, getElem_cons_zero])
        refine t1 (i := 3) (h := fun K hK => ?_)
        go_simp
        obtain ⟨wqb10, hwqb10⟩ : ∃ w', w' = wqb9.alloc (.cells #[Value.int .i64 18] 2) := ⟨_, rfl⟩
        rw [← hwqb10]
        have bqb10 := al hwqb10
        have oqb10 : wqb10.ownsRow u.heap.size 2 1 (.slice (some ⟨wqb9.heap.size, 0, none⟩) 1 1) 1 [Value.int .i64 18] := by rw [hwqb10]; exact lit_i FB_qb9.out.size _
        clear hwqb10
        have FB_qb11 := Lib.hid ((FB_qb9.out).trans ((bqb10).mono (FB_qb9.out).size))
        have FO_qb12 := Lib.hid (own_below (FO_qb9.out) (bqb10) (Nat.le_refl _))
        clear FB_qb9 FO_qb9
        obtain ⟨glqb13, hgqb13⟩ : ∃ b, wqb9.heap.size = b := ⟨_, rfl⟩
        have FL_qb13 := Lib.hid oqb10
        rw [hgqb13] at FL_qb13 ⊢
        clear hgqb13 oqb10 bqb10
        refine hK.out _ _ (HSX.out _ FB_qb11.out) (fun hHeld => ?_)
        clear hK K
        (try simp only [Act.put, setIfInBounds_toArray, set_cons_zero, set_cons_succ, getElem_toArray, getElem_cons_succ, getElem_cons_zero])
        refine t1 (i := 6) (h := fun K hK => ?_)
        refine step_append_o rfl _ _ 36 rfl u.heap.size 2 i1 (.int .i64 0) 1 8 Tryz.underlying36 HI1.out HY0.out HY1.out HY2.out rfl (by decide) _ _ _ rfl FL_qb13.out ⟨bi, oi, none⟩ F.length d ms rfl HLM.out (HCI.out _ FB_qb11.out) HXI.out (by have := HLI.out; unfold maxLen; omega) (by have := HLI.out; omega) FB_qb11.out.size ?_
        intro v7 wqb14 hown7 hgrow7 _
        rw [HXL.out, HXM.out] at hown7
        obtain ⟨AX, cX, rfl⟩ := own_shape hown7
        have FB_qb14 := Lib.hid (FB_qb11.out.grown hgrow7 FB_qb11.out.size (fun k hk => (FL_qb13.out.lt k hk).1)); have FO_qb14 := Lib.hid (FO_qb12.out.kept hgrow7 (row_apart FO_qb12.out FL_qb13.out (by decide))); have FX_qb14 := Lib.hid hown7
        clear hown7 hgrow7
        refine hK.out _ _ (HSX.out _ FB_qb14.out) (fun hHeld => ?_)
        clear hK K
        (try simp only [Act.put, setIfInBounds_toArray, set_cons_zero, set_cons_succ, getElem_toArray, getElem_cons_succ, getElem_cons_zero])
        refine t1 (i := 7) (h := fun K hK => ?_)
        go_simp
        obtain ⟨wqb15, hwqb15⟩ : ∃ w', w' = wqb14.alloc (.cells #[Value.slice AX X.length cX] 36) := ⟨_, rfl⟩
        rw [← hwqb15]
        have bqb15 := al hwqb15
        have gqb15 := an hwqb15
        clear hwqb15
        have FB_qb16 := Lib.hid ((FB_qb14.out).trans ((bqb15).mono (FB_qb14.out).size))
        have FO_qb17 := Lib.hid (own_below (FO_qb14.out) (bqb15) (Nat.le_refl _))
        have FX_qb18 := Lib.hid (own_below (FX_qb14.out) (bqb15) (Nat.le_refl _))
        clear FB_qb14 FO_qb14 FX_qb14
        obtain ⟨gnqb19, hgqb19⟩ : ∃ b, wqb14.heap.size = b := ⟨_, rfl⟩
        have FN_qb19 := Lib.hid gqb15
        rw [hgqb19] at FN_qb19 ⊢
        clear hgqb19 gqb15 bqb15
        refine hK.out _ _ (HSX.out _ FB_qb16.out) (fun hHeld => ?_)
        clear hK K
        (try simp only [Act.put, setIfInBounds_toArray, set_cons_zero, set_cons_succ, getElem_toArray, getElem_cons_succ, getElem_cons_zero])
        refine t1 (i := 8) (h := fun K hK => ?_)
        refine step_append_o rfl _ _ 23 rfl u.heap.size 36 i0 (.slice none 0 0) 1 24 Tryz.underlying23 HI.out HZ0.out HZ1.out HZ2.out rfl (by decide) _ _ _ rfl FO_qb17.out ⟨gnqb19, 0, none⟩ 1 1 [.slice AX X.length cX] rfl rfl (World.news_of_block FN_qb19.out) (by simp [Value.oneCell']) (by unfold maxLen; omega) (by omega) FB_qb16.out.size ?_
        intro v7 wqb20 hown7 hgrow7 _
        have FB_qb20 := Lib.hid (FB_qb16.out.grown hgrow7 FB_qb16.out.size (fun k hk => (FO_qb17.out.lt k hk).1))
        obtain ⟨A7, c7, rfl, bqb20, oqb20, rqb20⟩ := rule_out HBU.out FB_qb16.out rfl FO_qb17.out HV.out (RdI.of_own FX_qb18.out) (row_apart FX_qb18.out FO_qb17.out (by decide)) (own_cap1 FX_qb18.out) hown7 hgrow7
        have HB9 := Lib.hid bqb20; have HO9 := Lib.hid oqb20; have HV9 := Lib.hid rqb20
        clear bqb20 oqb20 rqb20 hown7 hgrow7
        refine hK.out _ _ (HSX.out _ FB_qb20.out) (fun hHeld => ?_)
        clear hK K
        (try simp only [Act.put, setIfInBounds_toArray, set_cons_zero, set_cons_succ, getElem_toArray, getElem_cons_succ, getElem_cons_zero])
        refine t1 (i := 9) (h := fun K hK => ?_)
        go_simp
        refine hK.out _ _ hHeld (fun hHeld => ?_)
        clear hK K
        (try simp only [Act.put, setIfInBounds_toArray, set_cons_zero, set_cons_succ, getElem_toArray, getElem_cons_succ, getElem_cons_zero])
        refine wpAnyH_done (by kernel_rfl) ?_ _
        clear HSX
        go_wp2
        go_ret
        exact givesV_app HO9.out HV9.out HB9.out
      refine AllReadyH.cons rfl (fun K hK => ?_) ?_
      · go_simp
        obtain ⟨wqb21, hwqb21⟩ : ∃ w', w' = wqb6.alloc (.cells #[Value.int .i64 18] 2) := ⟨_, rfl⟩
        rw [← hwqb21]
        have bqb21 := al hwqb21
        have oqb21 : wqb21.ownsRow u.heap.size 2 1 (.slice (some ⟨wqb6.heap.size, 0, none⟩) 1 1) 1 [Value.int .i64 18] := by rw [hwqb21]; exact lit_i FB_qb7.out.size _
        clear hwqb21
        have FB_qb22 := Lib.hid ((FB_qb7.out).trans ((bqb21).mono (FB_qb7.out).size))
        have FE_qb23 := Lib.hid (own_below (FE_qb8.out) (bqb21) (Nat.le_refl _))
        clear FB_qb7 FE_qb8
        obtain ⟨glqb24, hgqb24⟩ : ∃ b, wqb6.heap.size = b := ⟨_, rfl⟩
        have FL_qb24 := Lib.hid oqb21
        rw [hgqb24] at FL_qb24 ⊢
        clear hgqb24 oqb21 bqb21
        refine hK.out _ _ (HSX.out _ FB_qb22.out) (fun hHeld => ?_)
        clear hK K
        (try simp only [Act.put, setIfInBounds_toArray, set_cons_zero, set_cons_succ, getElem_toArray, getElem_cons_succ, getElem_cons_zero])
        refine t1 (i := 2) (h := fun K hK => ?_)
        refine step_append_o rfl _ _ 23 rfl u.heap.size 36 i0 (.slice none 0 0) 1 24 Tryz.underlying23 HI.out HZ0.out HZ1.out HZ2.out rfl (by decide) _ _ _ rfl FE_qb23.out ad P.length c vs rfl (by rw [Nat.mul_one]; exact HLV.out) (HC.out _ FB_qb22.out) H1.out (by unfold maxLen; omega) (by omega) FB_qb22.out.size ?_
        intro v7 wqb25 hown7 hgrow7 hiff7
        rw [Nat.zero_add, List.nil_append] at hown7
        obtain ⟨gR, kR, rfl⟩ := own_some hown7 (fun e => by have := (hiff7.1 e).1; cases this)
        have FB_qb25 := Lib.hid (FB_qb22.out.grown hgrow7 FB_qb22.out.size (fun k hk => (FE_qb23.out.lt k hk).1)); have FO_qb25 := Lib.hid hown7
        have FL_qb25 := Lib.hid (FL_qb24.out.kept hgrow7 (row_apart FL_qb24.out FE_qb23.out (by decide)))
        clear hown7 hgrow7 hiff7
        refine hK.out _ _ (HSX.out _ FB_qb25.out) (fun hHeld => ?_)
        clear hK K
        (try simp only [Act.put, setIfInBounds_toArray, set_cons_zero, set_cons_succ, getElem_toArray, getElem_cons_succ, getElem_cons_zero])
        refine t1 (i := 6) (h := fun K hK => ?_)
        refine step_append_o rfl _ _ 36 rfl u.heap.size 2 i1 (.int .i64 0) 1 8 Tryz.underlying36 HI1.out HY0.out HY1.out HY2.out rfl (by decide) _ _ _ rfl FL_qb25.out ⟨bi, oi, none⟩ F.length d ms rfl HLM.out (HCI.out _ FB_qb25.out) HXI.out (by have := HLI.out; unfold maxLen; omega) (by have := HLI.out; omega) FB_qb25.out.size ?_
        intro v7 wqb26 hown7 hgrow7 _
        rw [HXL.out, HXM.out] at hown7
        obtain ⟨AX, cX, rfl⟩ := own_shape hown7
        have FB_qb26 := Lib.hid (FB_qb25.out.grown hgrow7 FB_qb25.out.size (fun k hk => (FL_qb25.out.lt k hk).1)); have FO_qb26 := Lib.hid (FO_qb25.out.kept hgrow7 (row_apart FO_qb25.out FL_qb25.out (by decide))); have FX_qb26 := Lib.hid hown7
        clear hown7 hgrow7
        refine hK.out _ _ (HSX.out _ FB_qb26.out) (fun hHeld => ?_)
        clear hK K
        (try simp only [Act.put, setIfInBounds_toArray, set_cons_zero, set_cons_succ, getElem_toArray, getElem_cons_succ, getElem_cons_zero])
        refine t1 (i := 7) (h := fun K hK => ?_)
        go_simp
        obtain ⟨wqb27, hwqb27⟩ : ∃ w', w' = wqb26.alloc (.cells #[Value.slice AX X.length cX] 36) := ⟨_, rfl⟩
        rw [← hwqb27]
        have bqb27 := al hwqb27
        have gqb27 := an hwqb27
        clear hwqb27
        have FB_qb28 := Lib.hid ((FB_qb26.out).trans ((bqb27).mono (FB_qb26.out).size))
        have FO_qb29 := Lib.hid (own_below (FO_qb26.out) (bqb27) (Nat.le_refl _))
        have FX_qb30 := Lib.hid (own_below (FX_qb26.out) (bqb27) (Nat.le_refl _))
        clear FB_qb26 FO_qb26 FX_qb26
        obtain ⟨gnqb31, hgqb31⟩ : ∃ b, wqb26.heap.size = b := ⟨_, rfl⟩
        have FN_qb31 := Lib.hid gqb27
        rw [hgqb31] at FN_qb31 ⊢
        clear hgqb31 gqb27 bqb27
        refine hK.out _ _ (HSX.out _ FB_qb28.out) (fun hHeld => ?_)
        clear hK K
        (try simp only [Act.put, setIfInBounds_toArray, set_cons_zero, set_cons_succ, getElem_toArray, getElem_cons_succ, getElem_cons_zero])
        refine t1 (i := 8) (h := fun K hK => ?_)
        refine step_append_o rfl _ _ 23 rfl u.heap.size 36 i0 (.slice none 0 0) 1 24 Tryz.underlying23 HI.out HZ0.out HZ1.out HZ2.out rfl (by decide) _ _ _ rfl FO_qb29.out ⟨gnqb31, 0, none⟩ 1 1 [.slice AX X.length cX] rfl rfl (World.news_of_block FN_qb31.out) (by simp [Value.oneCell']) (by unfold maxLen; omega) (by omega) FB_qb28.out.size ?_
        intro v7 wqb32 hown7 hgrow7 _
        have FB_qb32 := Lib.hid (FB_qb28.out.grown hgrow7 FB_qb28.out.size (fun k hk => (FO_qb29.out.lt k hk).1))
        obtain ⟨A7, c7, rfl, bqb32, oqb32, rqb32⟩ := rule_out HBU.out FB_qb28.out rfl FO_qb29.out HV.out (RdI.of_own FX_qb30.out) (row_apart FX_qb30.out FO_qb29.out (by decide)) (own_cap1 FX_qb30.out) hown7 hgrow7
        have HB9 := Lib.hid bqb32; have HO9 := Lib.hid oqb32; have HV9 := Lib.hid rqb32
        clear bqb32 oqb32 rqb32 hown7 hgrow7
        refine hK.out _ _ (HSX.out _ FB_qb32.out) (fun hHeld => ?_)
        clear hK K
        (try simp only [Act.put, setIfInBounds_toArray, set_cons_zero, set_cons_succ, getElem_toArray, getElem_cons_succ, getElem_cons_zero])
        refine t1 (i := 9) (h := fun K hK => ?_)
        go_simp
        refine hK.out _ _ hHeld (fun hHeld => ?_)
        clear hK K
        (try simp only [Act.put, setIfInBounds_toArray, set_cons_zero, set_cons_succ, getElem_toArray, getElem_cons_succ, getElem_cons_zero])
        refine wpAnyH_done (by kernel_rfl) ?_ _
        clear HSX
        go_wp2
        go_ret
        exact givesV_app HO9.out HV9.out HB9.out
      exact AllReadyH.nil
    refine AllReadyH.cons rfl (fun K hK => ?_) ?_
    · go_simp
      obtain ⟨wqb33, hwqb33⟩ : ∃ w', w' = wqb1.alloc (.cells #[Value.int .i64 18] 2) := ⟨_, rfl⟩
      rw [← hwqb33]
      have bqb33 := al hwqb33
      have oqb33 : wqb33.ownsRow u.heap.size 2 1 (.slice (some ⟨wqb1.heap.size, 0, none⟩) 1 1) 1 [Value.int .i64 18] := by rw [hwqb33]; exact lit_i FB_qb2.out.size _
      clear hwqb33
      have FB_qb34 := Lib.hid ((FB_qb2.out).trans ((bqb33).mono (FB_qb2.out).size))
      clear FB_qb2
      obtain ⟨glqb35, hgqb35⟩ : ∃ b, wqb1.heap.size = b := ⟨_, rfl⟩
      have FL_qb35 := Lib.hid oqb33
      rw [hgqb35] at FL_qb35 ⊢
      clear hgqb35 oqb33 bqb33
      refine hK.out _ _ (HSX.out _ FB_qb34.out) (fun hHeld => ?_)
      clear hK K
      (try simp only [Act.put, setIfInBounds_toArray, set_cons_zero, set_cons_succ, getElem_toArray, getElem_cons_succ, getElem_cons_zero])
      refine t1 (i := 0) (h := fun K hK => ?_)
      go_simp
      obtain ⟨wqb36, hwqb36⟩ : ∃ w', w' = wqb33.alloc (.cells #[] 36) := ⟨_, rfl⟩
      rw [← hwqb36]
      have bqb36 := al hwqb36
      have oqb36 : wqb36.ownsRow u.heap.size 36 1 (.slice (some ⟨wqb33.heap.size, 0, none⟩) 0 0) 0 [] := by rw [hwqb36]; exact made_q FB_qb34.out.size
      clear hwqb36
      have FB_qb37 := Lib.hid ((FB_qb34.out).trans ((bqb36).mono (FB_qb34.out).size))
      have FL_qb38 := Lib.hid (own_below (FL_qb35.out) (bqb36) (Nat.le_refl _))
      clear FB_qb34 FL_qb35
      obtain ⟨geqb39, hgqb39⟩ : ∃ b, wqb33.heap.size = b := ⟨_, rfl⟩
      have FE_qb39 := Lib.hid oqb36
      rw [hgqb39] at FE_qb39 ⊢
      clear hgqb39 oqb36 bqb36
      refine hK.out _ _ (HSX.out _ FB_qb37.out) (fun hHeld => ?_)
      clear hK K
      (try simp only [Act.put, setIfInBounds_toArray, set_cons_zero, set_cons_succ, getElem_toArray, getElem_cons_succ, getElem_cons_zero])
      refine t1 (i := 2) (h := fun K hK => ?_)
      refine step_append_o rfl _ _ 23 rfl u.heap.size 36 i0 (.slice none 0 0) 1 24 Tryz.underlying23 HI.out HZ0.out HZ1.out HZ2.out rfl (by decide) _ _ _ rfl FE_qb39.out ad P.length c vs rfl (by rw [Nat.mul_one]; exact HLV.out) (HC.out _ FB_qb37.out) H1.out (by unfold maxLen; omega) (by omega) FB_qb37.out.size ?_
      intro v7 wqb40 hown7 hgrow7 hiff7
      rw [Nat.zero_add, List.nil_append] at hown7
      obtain ⟨gR, kR, rfl⟩ := own_some hown7 (fun e => by have := (hiff7.1 e).1; cases this)
      have FB_qb40 := Lib.hid (FB_qb37.out.grown hgrow7 FB_qb37.out.size (fun k hk => (FE_qb39.out.lt k hk).1)); have FO_qb40 := Lib.hid hown7
      have FL_qb40 := Lib.hid (FL_qb38.out.kept hgrow7 (row_apart FL_qb38.out FE_qb39.out (by decide)))
      clear hown7 hgrow7 hiff7
      refine hK.out _ _ (HSX.out _ FB_qb40.out) (fun hHeld => ?_)
      clear hK K
      (try simp only [Act.put, setIfInBounds_toArray, set_cons_zero, set_cons_succ, getElem_toArray, getElem_cons_succ, getElem_cons_zero])
      refine t1 (i := 6) (h := fun K hK => ?_)
      refine step_append_o rfl _ _ 36 rfl u.heap.size 2 i1 (.int .i64 0) 1 8 Tryz.underlying36 HI1.out HY0.out HY1.out HY2.out rfl (by decide) _ _ _ rfl FL_qb40.out ⟨bi, oi, none⟩ F.length d ms rfl HLM.out (HCI.out _ FB_qb40.out) HXI.out (by have := HLI.out; unfold maxLen; omega) (by have := HLI.out; omega) FB_qb40.out.size ?_
      intro v7 wqb41 hown7 hgrow7 _
      rw [HXL.out, HXM.out] at hown7
      obtain ⟨AX, cX, rfl⟩ := own_shape hown7
      have FB_qb41 := Lib.hid (FB_qb40.out.grown hgrow7 FB_qb40.out.size (fun k hk => (FL_qb40.out.lt k hk).1)); have FO_qb41 := Lib.hid (FO_qb40.out.kept hgrow7 (row_apart FO_qb40.out FL_qb40.out (by decide))); have FX_qb41 := Lib.hid hown7
      clear hown7 hgrow7
      refine hK.out _ _ (HSX.out _ FB_qb41.out) (fun hHeld => ?_)
      clear hK K
      (try simp only [Act.put, setIfInBounds_toArray, set_cons_zero, set_cons_succ, getElem_toArray, getElem_cons_succ, getElem_cons_zero])
      refine t1 (i := 7) (h := fun K hK => ?_)
      go_simp
      obtain ⟨wqb42, hwqb42⟩ : ∃ w', w' = wqb41.alloc (.cells #[Value.slice AX X.length cX] 36) := ⟨_, rfl⟩
      rw [← hwqb42]
      have bqb42 := al hwqb42
      have gqb42 := an hwqb42
      clear hwqb42
      have FB_qb43 := Lib.hid ((FB_qb41.out).trans ((bqb42).mono (FB_qb41.out).size))
      have FO_qb44 := Lib.hid (own_below (FO_qb41.out) (bqb42) (Nat.le_refl _))
      have FX_qb45 := Lib.hid (own_below (FX_qb41.out) (bqb42) (Nat.le_refl _))
      clear FB_qb41 FO_qb41 FX_qb41
      obtain ⟨gnqb46, hgqb46⟩ : ∃ b, wqb41.heap.size = b := ⟨_, rfl⟩
      have FN_qb46 := Lib.hid gqb42
      rw [hgqb46] at FN_qb46 ⊢
      clear hgqb46 gqb42 bqb42
      refine hK.out _ _ (HSX.out _ FB_qb43.out) (fun hHeld => ?_)
      clear hK K
      (try simp only [Act.put, setIfInBounds_toArray, set_cons_zero, set_cons_succ, getElem_toArray, getElem_cons_succ, getElem_cons_zero])
      refine t1 (i := 8) (h := fun K hK => ?_)
      refine step_append_o rfl _ _ 23 rfl u.heap.size 36 i0 (.slice none 0 0) 1 24 Tryz.underlying23 HI.out HZ0.out HZ1.out HZ2.out rfl (by decide) _ _ _ rfl FO_qb44.out ⟨gnqb46, 0, none⟩ 1 1 [.slice AX X.length cX] rfl rfl (World.news_of_block FN_qb46.out) (by simp [Value.oneCell']) (by unfold maxLen; omega) (by omega) FB_qb43.out.size ?_
      intro v7 wqb47 hown7 hgrow7 _
      have FB_qb47 := Lib.hid (FB_qb43.out.grown hgrow7 FB_qb43.out.size (fun k hk => (FO_qb44.out.lt k hk).1))
      obtain ⟨A7, c7, rfl, bqb47, oqb47, rqb47⟩ := rule_out HBU.out FB_qb43.out rfl FO_qb44.out HV.out (RdI.of_own FX_qb45.out) (row_apart FX_qb45.out FO_qb44.out (by decide)) (own_cap1 FX_qb45.out) hown7 hgrow7
      have HB9 := Lib.hid bqb47; have HO9 := Lib.hid oqb47; have HV9 := Lib.hid rqb47
      clear bqb47 oqb47 rqb47 hown7 hgrow7
      refine hK.out _ _ (HSX.out _ FB_qb47.out) (fun hHeld => ?_)
      clear hK K
      (try simp only [Act.put, setIfInBounds_toArray, set_cons_zero, set_cons_succ, getElem_toArray, getElem_cons_succ, getElem_cons_zero])
      refine t1 (i := 9) (h := fun K hK => ?_)
      go_simp
      refine hK.out _ _ hHeld (fun hHeld => ?_)
      clear hK K
      (try simp only [Act.put, setIfInBounds_toArray, set_cons_zero, set_cons_succ, getElem_toArray, getElem_cons_succ, getElem_cons_zero])
      refine wpAnyH_done (by kernel_rfl) ?_ _
      clear HSX
      go_wp2
      go_ret
      exact givesV_app HO9.out HV9.out HB9.out
    exact AllReadyH.nil
end Go.Proofs.YthbkcpacgnmcfaaGreatDoor
