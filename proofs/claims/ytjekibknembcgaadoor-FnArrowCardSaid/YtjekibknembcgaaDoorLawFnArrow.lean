/- Proved: for all arguments the law that the implication of two drawn lists parses from an arrow and that its dual begins with the first one answers true and leaves its argument as it was (FnArrow). Conditions: the row's own: the listed tables read as the program's text lays them, which the card ties to that text. -/
import Derived.Test.YtjekibknembcgaaDoorFrame
import Derived.Test.YtjekibknembcgaaDoorArrowM
import Derived.Test.YtjekibknembcgaaDoorWhole
import Derived.Test.YtjekibknembcgaaDoorOpndR
namespace Go.Proofs.YtjekibknembcgaaDoor.fnArrow
open Go.ChangeShapes Go.WideShapes Go.ChangeAt Go.RowKit

theorem walk_big (A : Option Addr) (n c : Nat) (w : World) (hn : ¬ n ≤ 4096) :
    Calls Tryd.prog 5 #[.slice A n c] w fun e w' => e = .returned (.bool true) ∧ Below w.heap.size w w' := by
  have hd : decide (4096 < (n : Int)) = true := decide_eq_true (by omega)
  go_enter Tryd.func5, Tryd.ntmps5
  go_wp2_with (go_at_call 16; refine (big_any _ _ _ _).mono ?_; rintro e w' ⟨rfl, rfl⟩)
  go_ret
  exact ⟨rfl, Below.refl _ _⟩

set_option maxRecDepth 100000 in
set_option maxHeartbeats 8000000 in
theorem walk (A : Option Addr) (n c : Nat) (code : List Int) (w : World) (h : RdB w w.heap.size A n code) (_hnc : n ≤ c) (_hf : ∀ z ∈ code, (Lit.int .u8 z).wf = true) (ht : Arit w) (hu : Dual w) :
    Calls Tryd.prog 5 #[.slice A n c] w fun e w' => e = .returned (.bool true) ∧ Below w.heap.size w w' := by
  by_cases hn : n ≤ 4096
  · have hd : decide (4096 < (n : Int)) = false := decide_eq_false (by omega)
    go_enter Tryd.func5, Tryd.ntmps5
    go_wp2_with (fail)
    refine (big_any _ _ _ _).mono ?_
    rintro e w' ⟨rfl, rfl⟩
    go_wp2_with (fail)
    refine (drawArrow_any A n c code w h hn).mono ?_
    rintro e w1 ⟨a, b, A1, A2, c1, c2, rfl, l1, l2, o1, o2, B1⟩
    have k1 := (own_cap o1).1
    have k2 := (own_cap o2).1
    have t1 := ht.below B1 ht.lt
    have u1 := hu.below B1 hu.lt
    have hQ := arrowOf_impl A1 a.length c1 a A2 b.length c2 b w1 (RdI.of_own o1) (RdI.of_own o2) t1 u1 k1 k2
    cases har : arrowB a b with
    | false =>
      obtain ⟨hL, hno⟩ := arrow_no har
      rw [hL, har] at hQ
      go_wp2_with (fail)
      refine hQ.mono ?_
      rintro e w2 ⟨A3, c3, rfl, o3, bel2⟩
      have o1' := own_below o1 bel2 (Nat.le_refl _)
      have o2' := own_below o2 bel2 (Nat.le_refl _)
      have HB := Lib.hid (B1.trans (bel2.mono B1.size))
      have HVA := Lib.hid (fun w hw => sValidForm_any A1 a.length c1 a w hw)
      have HVB := Lib.hid (fun w hw => sValidForm_any A2 b.length c2 b w hw)
      have R1 := Lib.hid (RdI.of_own o1'); have R2 := Lib.hid (RdI.of_own o2')
      clear hQ o1 o2 o3 bel2 B1 o1' o2' t1 u1 hL
      cases hva : validB a with
      | false =>
        rw [hva] at HVA
        clear hno
        go_wp2_with (fail)
        refine (HVA.out _ R1.out).mono ?_
        rintro e w' ⟨rfl, rfl⟩
        go_wp2
        go_ret
        exact ⟨rfl, HB.out⟩
      | true =>
        rw [hva] at HVA
        cases hvb : validB b with
        | false =>
          rw [hvb] at HVB
          clear hno
          go_wp2_with (fail)
          refine (HVA.out _ R1.out).mono ?_
          rintro e w' ⟨rfl, rfl⟩
          go_wp2_with (fail)
          refine (HVB.out _ R2.out).mono ?_
          rintro e w' ⟨rfl, rfl⟩
          go_wp2
          go_ret
          exact ⟨rfl, HB.out⟩
        | true =>
          rw [hvb] at HVB
          have hge := hno hva hvb
          have hd24 : decide ((24 : Int) ≤ (a.length : Int) + (b.length : Int)) = true := decide_eq_true (by omega)
          clear hno
          go_wp2_with (fail)
          refine (HVA.out _ R1.out).mono ?_
          rintro e w' ⟨rfl, rfl⟩
          go_wp2_with (fail)
          refine (HVB.out _ R2.out).mono ?_
          rintro e w' ⟨rfl, rfl⟩
          go_wp2
          go_ret
          exact ⟨rfl, HB.out⟩
    | true =>
      obtain ⟨hva, hvb, hll, hL, hD, hoB, hoL, hDl⟩ := arrow_yes har
      obtain ⟨hp1, hp2⟩ := pf_arrow hva hvb hll
      have hFl := arrowL_len a b
      rw [har] at hQ
      have hta := textL_len a
      have htb := textL_len b
      have hbyte : ∀ c ∈ 40 :: (textL a ++ 45 :: 62 :: (textL b ++ [41])), 0 ≤ c ∧ c ≤ 255 := by
        intro c hc
        simp only [List.mem_cons, List.mem_append, List.not_mem_nil, or_false] at hc
        rcases hc with rfl | hc | rfl | rfl | hc | rfl
        · omega
        · have := textL_byte a c hc; omega
        · omega
        · omega
        · have := textL_byte b c hc; omega
        · omega
      have hfin : [40] ++ textL a ++ [45, 62] ++ textL b ++ [41] = 40 :: (textL a ++ 45 :: 62 :: (textL b ++ [41])) := by simp
      have hsl : (40 :: (textL a ++ 45 :: 62 :: (textL b ++ [41]))).length ≤ 200 := by simp only [List.length_cons, List.length_append, List.length_nil]; omega
      have HPF := Lib.hid (fun w ht hu => parseForm_impl (mkB (40 :: (textL a ++ 45 :: 62 :: (textL b ++ [41])))) w (by rw [mkB_size]; omega) ht hu)
      rw [bl_mkB hbyte, hp1, hp2, ← hL] at HPF
      have hadd1 := add_run [40] (textL a) ⟨#[40]⟩ _ _ rfl rfl rfl (by simp; omega)
      have hadd2 := add_run ([40] ++ textL a) [45, 62] _ ⟨#[45, 62]⟩ _ rfl rfl rfl (by simp; omega)
      have hadd3 := add_run ([40] ++ textL a ++ [45, 62]) (textL b) _ _ _ rfl rfl rfl (by simp; omega)
      have hadd4 := add_run ([40] ++ textL a ++ [45, 62] ++ textL b) [41] _ ⟨#[41]⟩ _ rfl rfl rfl (by simp; omega)
      rw [hfin] at hadd4
      have HTA := Lib.hid (fun w hw ht => formText_impl A1 a.length c1 a w hw ht k1)
      have HTB := Lib.hid (fun w hw ht => formText_impl A2 b.length c2 b w hw ht k2)
      generalize mkB (40 :: (textL a ++ 45 :: 62 :: (textL b ++ [41]))) = S5 at *
      generalize mkB ([40] ++ textL a ++ [45, 62] ++ textL b) = S4 at *
      generalize mkB ([40] ++ textL a ++ [45, 62]) = S3 at *
      generalize mkB ([40] ++ textL a) = S2 at *
      generalize mkB (textL a) = TA at *
      generalize mkB (textL b) = TB at *
      have HD := Lib.hid hD; have HOB := Lib.hid hoB; have HOL := Lib.hid hoL; have HDL := Lib.hid hDl
      generalize arrowL a b = F at *
      generalize 11 :: (a ++ b.map duZ) = G at *
      clear hp1 hp2 hva hvb hL hD hoB hoL hDl hbyte hfin hsl hta htb
      go_wp2_with (fail)
      refine hQ.mono ?_
      rintro e w2 ⟨A3, c3, rfl, o3, bel2⟩
      have o1_2 := own_below o1 bel2 (Nat.le_refl _)
      have o2_2 := own_below o2 bel2 (Nat.le_refl _)
      have B2 := B1.trans (bel2.mono B1.size)
      have k3 := (own_cap o3).1
      have R1 := Lib.hid (RdI.of_own o1_2); have R2 := Lib.hid (RdI.of_own o2_2)
      have t2 := ht.below B2 ht.lt
      have u2 := hu.below B2 hu.lt
      have T2 := Lib.hid t2
      have HPF2 := Lib.hid (HPF.out w2 t2 u2)
      have HB2 := Lib.hid B2; have HO1 := Lib.hid o1_2; have HO3 := Lib.hid o3
      clear hQ o1 o2 bel2 B1 o1_2 o2_2 B2 t1 u1 t2 u2 o3
      go_wp2_with (fail)
      refine (HTA.out _ R1.out T2.out).mono ?_
      rintro e w' ⟨rfl, rfl⟩
      go_wp2_with (fail)
      refine (HTB.out _ R2.out T2.out).mono ?_
      rintro e w' ⟨rfl, rfl⟩
      go_wp2_with (fail)
      refine HPF2.out.mono ?_
      rintro e w3 ⟨A4, c4, rfl, o4, bel3⟩
      have o1_3 := own_below HO1.out bel3 (Nat.le_refl _)
      have o3_3 := own_below HO3.out bel3 (Nat.le_refl _)
      have B3 := HB2.out.trans (bel3.mono HB2.out.size)
      have hDU := dualOf_impl A3 F.length c3 F w3 (RdI.of_own o3_3) (ht.below B3 ht.lt) (hu.below B3 hu.lt) k3
      rw [HD.out] at hDU
      have HDU := Lib.hid hDU
      have HO4 := Lib.hid o4
      have HO1_3 := Lib.hid o1_3; have HO3_3 := Lib.hid o3_3; have HB3 := Lib.hid B3
      clear o4 bel3 o1_3 o3_3 B3 hDU R1 R2
      go_wp2_with (fail)
      refine HDU.out.mono ?_
      rintro e w4 ⟨A5, c5, rfl, o5, bel4⟩
      have o1_4 := own_below HO1_3.out bel4 (Nat.le_refl _)
      have o3_4 := own_below HO3_3.out bel4 (Nat.le_refl _)
      have o4_4 := own_below HO4.out bel4 (Nat.le_refl _)
      have B4 := HB3.out.trans (bel4.mono HB3.out.size)
      have hOP := operandOf_impl A5 G.length c5 G 0 w4 (RdI.of_own o5) (ht.below B4 ht.lt) (own_cap o5).1
      rw [HOB.out, HOL.out] at hOP
      have HOP := Lib.hid hOP
      have HO1_4 := Lib.hid o1_4; have HO3_4 := Lib.hid o3_4; have HO4_4 := Lib.hid o4_4; have HB4 := Lib.hid B4
      clear o5 bel4 o1_4 o3_4 o4_4 B4 hOP
      go_wp2_with (fail)
      refine HOP.out.mono ?_
      rintro e w5 ⟨A6, c6, rfl, o6, bel5⟩
      have o1_5 := own_below HO1_4.out bel5 (Nat.le_refl _)
      have o3_5 := own_below HO3_4.out bel5 (Nat.le_refl _)
      have o4_5 := own_below HO4_4.out bel5 (Nat.le_refl _)
      have B5 := HB4.out.trans (bel5.mono HB4.out.size)
      have HL1 := Lib.hid (likeInts_any A3 A4 F.length F.length c3 c4 F F w5 (RdI.of_own o3_5) (RdI.of_own o4_5) (by omega) (by omega))
      have HO1_5 := Lib.hid o1_5; have HO6 := Lib.hid o6; have HB5 := Lib.hid B5
      clear o6 bel5 o1_5 o3_5 o4_5 B5
      go_wp2_with (fail)
      refine HL1.out.mono ?_
      rintro e w6 ⟨rfl, bel6⟩
      have o1_6 := own_below HO1_5.out bel6 (Nat.le_refl _)
      have o6_6 := own_below HO6.out bel6 (Nat.le_refl _)
      have B6 := HB5.out.trans (bel6.mono HB5.out.size)
      have HL2 := Lib.hid (likeInts_any A6 A1 a.length a.length c6 c1 a a w6 (RdI.of_own o6_6) (RdI.of_own o1_6) (by omega) (by omega))
      have HB6 := Lib.hid B6
      clear bel6 o1_6 o6_6 B6
      go_wp2_with (fail)
      refine HL2.out.mono ?_
      rintro e w7 ⟨rfl, bel7⟩
      have HB7 := Lib.hid (HB6.out.trans (bel7.mono HB6.out.size))
      clear bel7
      go_wp2
      go_ret
      exact ⟨rfl, HB7.out⟩
  · exact walk_big A n c w hn

set_option maxRecDepth 100000 in
/-- What the walk gives, for all arguments and every world that holds the tables. -/
theorem contract (H : Type) (enc : TypeId × Value → H) (W : World) (base : Nat) (args : Array Value) (ds gs : List (DataW H)) (before : List MemPlace)
    (hval : ∀ (j : Nat) t v, Tryd.f5.params[j]? = some t → args[j]? = some v → Value.okWide Tryd.prog W .any base t v)
    (hW : DataW.Whole enc Tryd.prog Tryd.f5.params.toList Rows.fnArrowSpec.vars false W args.toList ds gs before) (hL : laidMetH Tryd.prog Rows.fnArrowRow.laid W) :
    Calls Tryd.prog 5 args W fun e W' => ∃ v, e = .returned v ∧ Rows.fnArrowSpec.post enc Tryd.prog Tryd.f5 false true false false W args v W' := by
  have hW' := hW
  obtain ⟨p, q, hA0, hV, rfl, hfz, hnd⟩ := hW
  have hA : DataW.TrodAll enc Tryd.prog W 0 (fun _ => true) true Tryd.f5.params.toList args.toList ds p := hA0
  rw [Tryd.params5] at hA hval
  obtain ⟨v0, vs0, d0, ds0, p0, q0, hargs, rfl, rfl, h0, r0⟩ := trodAll_cons hA
  obtain ⟨rfl, rfl, rfl⟩ := trodAll_nil r0
  obtain rfl : args = #[v0] := by cases args; simp_all
  obtain ⟨a0, len0, cap0, rfl⟩ := okWide_slice Tryd.underlying22 (hval 0 22 v0 rfl rfl)
  have k0 := h0
  have lt0 : ∀ x ∈ p0, x.block < W.heap.size := by obtain ⟨m, hm⟩ := k0; exact DataW.trod_lt m _ _ _ hm
  obtain ⟨z0, w0, c0, b0⟩ := open_u8s h0
  have ht : Arit W := arit_of hL
  have hu : Dual W := dual_of hL
  have hv1 := hV
  obtain ⟨g0, t0, cs0, f0, e0, p0', g1, t1, cs1, f1, e1, p1', rfl, _, _, _, _, _, _, _, _, rfl⟩ := trodVars_two hV
  clear hA0
  refine (walk a0 len0 cap0 z0 W w0 c0 b0 ht hu).mono fun e W' ⟨he, bel⟩ => ?_
  subst he
  exact ⟨_, rfl, _, _, _, [], _, _, hW', trodAll_mk1 (shut_bool Tryd.underlying4 _),
    (trodAll_cons_mk (Below.trod laidOut (by kernel_rfl) (of_decide_eq_true (by kernel_rfl)) k0 bel lt0) trodAll_mk0),
    vars_below bel (readable_all _ (by kernel_rfl)) hv1, bel.frame _, fun h => by cases h⟩

theorem laid_met (os : Os) : laidMet Tryd.prog Rows.fnArrowRow.laid ((laidWorld os).forCall (fun _ _ => 0) ⟨#[], #[.slice none 0 0], []⟩).memory :=
  laidMet_of_run' 8 (by kernel_rfl) (by kernel_rfl)
theorem reads (os : Os) {H : Type} (enc : TypeId × Value → H) : ∃ x, DataW.whole enc Tryd.prog ((laidWorld os).forCall (fun _ _ => 0) ⟨#[], #[.slice none 0 0], []⟩).memory Tryd.f5.params.toList Rows.fnArrowSpec.vars false (#[.slice none 0 0] : Array Value).toList 8 = some x :=
  Option.isSome_iff_exists.1 (by kernel_rfl)

set_option maxRecDepth 100000 in
theorem lifted (os : Os) (started : os.Started) (H : Type) (enc : TypeId × Value → H) (F : Stop.Interp) :
    ReturnsInHanded {} Tryd.checked os 5 .any ((OpenSpec.ofChange Rows.fnArrowSpec).preRow enc Tryd.prog Tryd.f5 Rows.fnArrowRow.domain false Rows.fnArrowRow.laid) (((OpenSpec.ofChange Rows.fnArrowSpec).at F).post enc Tryd.prog Tryd.f5 false true false false) := by
  obtain ⟨places, hx⟩ := reads os enc
  refine returnsInHanded_of_row (C := Tryd.checked) (s := OpenSpec.ofChange Rows.fnArrowSpec) own started (by kernel_rfl) Tryd.func5
    (witness_row_at (enc := enc) (C := Tryd.checked) false (laidWorld os) #[.slice none 0 0] rfl (by kernel_rfl) (by kernel_rfl) (by kernel_rfl)
      (OpenSpec.preRow_of_cond 8 hx rfl (fun k hk => by cases hk) (by kernel_rfl) (laid_met os))) ?_
  intro W base args ds gs before hval hW _ _ _ hL _ _
  exact contract H enc W base args ds gs before hval hW hL

theorem said : Rows.FnArrowSaid :=
  OpenClaim.holds_of_cond 5 Tryd.f5 rfl rfl rfl rfl rfl rfl rfl ⟨rfl, rfl, rfl, rfl, rfl⟩ rfl rfl rfl rfl rfl (by kernel_rfl) Tryd.func5 (by kernel_rfl)
    (of_decide_eq_true (by kernel_rfl)) (by unfold Func.isWrapper; first | (rw [if_pos (by decide +kernel)]; kernel_rfl) | (rw [if_neg (by decide +kernel)]; exact ⟨rfl, rfl⟩))
    (fun os started H enc _ F => by rw [OpenClaim.pre_eq_preRow]; exact lifted os started H enc F)

theorem plain (f : FuncId) (fn : Func) (hf : Tryd.pinned.checked.prog.funcNamed "loop.example/g00872/laws.FnArrow" = some f) (hfn : Tryd.pinned.checked.prog.funcs[f]? = some fn) :
    Rows.fnArrowCard.stood.looks = Tryd.pinned.checked.prog.looks [] ∧ ∀ (j : Nat) t, fn.params[j]? = some t → Tryd.pinned.checked.prog.wantsStandIn t = false := by
  obtain rfl : f = 5 := Option.some.inj ((show Tryd.prog.funcNamed "loop.example/g00872/laws.FnArrow" = some 5 by kernel_rfl).symm.trans hf) |>.symm
  obtain rfl : fn = Tryd.f5 := (Option.some.inj (Tryd.func5.symm.trans hfn)).symm
  refine ⟨by kernel_rfl, fun j t ht => ?_⟩
  rw [Tryd.params5] at ht
  have hm : t ∈ [22] := by simpa using Array.mem_of_getElem? ht
  have hall : ([22].all fun u => !Tryd.prog.wantsStandIn u) = true := by kernel_rfl
  exact (show Tryd.prog.wantsStandIn t = false by simpa using List.all_eq_true.1 hall t hm)

/-- The statement. -/
theorem card : Rows.FnArrowCardSaid :=
  Claim7.holds_tied_plain_at .later [] _ _ _ _ said (fun _ h => by cases h) (by kernel_rfl) (fun _ h => by cases h) fnArrow_row_tie rfl ⟨rfl, rfl⟩ (by kernel_rfl) rfl plain (by kernel_rfl)
end Go.Proofs.YtjekibknembcgaaDoor.fnArrow
