/- Proved: for all arguments the law that the liberal notation accepts the text of a drawn formula with more spaces, and a negation of it as its dual, answers true and leaves its argument as it was (FnLiberal). Conditions: the row's own: the listed tables read as the program's text lays them, which the card ties to that text. -/
import Derived.Test.YtjekibknembcgaaDoorFrame
import Derived.Test.YtjekibknembcgaaDoorLiberal
import Derived.Test.YtjekibknembcgaaDoorWhole
namespace Go.Proofs.YtjekibknembcgaaDoor.fnLiberal
open Go.ChangeShapes Go.WideShapes Go.ChangeAt Go.RowKit

theorem walk_big (A : Option Addr) (n c : Nat) (w : World) (hn : ¬ n ≤ 4096) :
    Calls Tryd.prog 4 #[.slice A n c] w fun e w' => e = .returned (.bool true) ∧ Below w.heap.size w w' := by
  have hd : decide (4096 < (n : Int)) = true := decide_eq_true (by omega)
  go_enter Tryd.func4, Tryd.ntmps4
  go_wp2_with (go_at_call 16; refine (big_any _ _ _ _).mono ?_; rintro e w' ⟨rfl, rfl⟩)
  go_ret
  exact ⟨rfl, Below.refl _ _⟩


set_option maxRecDepth 100000 in
set_option maxHeartbeats 8000000 in
theorem walk (A : Option Addr) (n c : Nat) (code : List Int) (w : World) (h : RdB w w.heap.size A n code) (_hnc : n ≤ c) (_hf : ∀ z ∈ code, (Lit.int .u8 z).wf = true) (ht : Arit w) (hu : Dual w) :
    Calls Tryd.prog 4 #[.slice A n c] w fun e w' => e = .returned (.bool true) ∧ Below w.heap.size w w' := by
  by_cases hn : n ≤ 4096
  · have hd : decide (4096 < (n : Int)) = false := decide_eq_false (by omega)
    go_enter Tryd.func4, Tryd.ntmps4
    go_wp2_with (fail)
    refine (big_any _ _ _ _).mono ?_
    rintro e w' ⟨rfl, rfl⟩
    go_wp2_with (fail)
    refine (drawText_any A n c code w h hn).mono ?_
    rintro e w1 ⟨L, A1, c1, rfl, l1, l2, o1, B1⟩
    have k1 := (own_cap o1).1
    have HFS := Lib.hid (sFormText_any A1 L.length c1 L w1 (RdI.of_own o1))
    have HFI := Lib.hid (fun w' hw ht => formText_impl A1 L.length c1 L w' hw ht k1)
    have HO1 := Lib.hid o1; have HB1 := Lib.hid B1
    clear o1 B1 l2
    cases hv : validB L with
    | false =>
      rw [textL_no hv] at HFS HFI
      have HPS := Lib.hid (fun w ht hu => parseForm_impl ⟨#[40, 65]⟩ w (by decide) ht hu)
      rw [parse_short] at HPS
      generalize pfL (bl ⟨#[40, 65]⟩) = V at HPS
      have hmt : mkB [] = (⟨#[]⟩ : ByteArray) := rfl
      rw [hmt] at HFS HFI
      clear hmt hv
      go_wp2_with (fail)
      refine HFS.out.mono ?_
      rintro e w2 ⟨rfl, bel2⟩
      have o1_2 := own_below HO1.out bel2 (Nat.le_refl _)
      have B2 := HB1.out.trans (bel2.mono HB1.out.size)
      have HP2 := Lib.hid (HPS.out w2 (ht.below B2 ht.lt) (hu.below B2 hu.lt))
      have HO2 := Lib.hid o1_2; have HB2 := Lib.hid B2
      clear bel2 o1_2 B2
      go_wp2_with (fail)
      refine HP2.out.mono ?_
      rintro e w3 ⟨A3, c3, rfl, o3, bel3⟩
      have o1_3 := own_below HO2.out bel3 (Nat.le_refl _)
      have B3 := HB2.out.trans (bel3.mono HB2.out.size)
      have HT3 := Lib.hid (HFI.out w3 (RdI.of_own o1_3) (ht.below B3 ht.lt))
      have HB3 := Lib.hid B3
      clear o3 bel3 o1_3 B3
      go_wp2_with (fail)
      refine HT3.out.mono ?_
      rintro e w' ⟨rfl, rfl⟩
      go_wp2
      go_ret
      exact ⟨rfl, HB3.out⟩
    | true =>
      have hpos := textL_pos hv
      have hta := textL_len L
      have hne := mkB_ne hpos
      have hss : (mkB (textL L)).size = (textL L).length := mkB_size _
      have HSL := Lib.hid (fun k hk w => slice_one (textL L) k hk w)
      have HV := Lib.hid hv
      obtain ⟨S, hS⟩ : ∃ S, mkB (textL L) = S := ⟨_, rfl⟩
      rw [hS] at HFS HFI HSL hne hss
      obtain ⟨N, hN⟩ : ∃ N, (textL L).length = N := ⟨_, rfl⟩
      rw [hN] at hss hpos hta
      have HN := Lib.hid hN
      clear hS hN hv HFI
      go_wp2_with (fail)
      refine HFS.out.mono ?_
      rintro e w2 ⟨rfl, bel2⟩
      have o1_2 := own_below HO1.out bel2 (Nat.le_refl _)
      have B2 := HB1.out.trans (bel2.mono HB1.out.size)
      have HR2 := Lib.hid (roll_any A n c code 602 w2 (RdB.more (RdB.keep h (fun p hp => B2.cell hp)) B2.size) hn)
      have HO2 := Lib.hid o1_2; have HB2 := Lib.hid B2
      clear bel2 o1_2 B2
      go_wp2_with (fail)
      refine HR2.out.mono ?_
      rintro e w3 ⟨rfl, D3, bel3⟩
      have HD3 := Lib.hid D3; have HL3 := Lib.hid bel3
      clear bel3 D3
      go_wp2_with (fail)
      go_loopw [8, 9] (fun t i wr => ∃ (k : Nat) (T : List Int), k ≤ N ∧ i = .int .i64 k ∧ t = .string (mkB T) ∧ Spaced L T k ∧ DiceS wr w2.heap.size A n c code ∧ Below w2.heap.size w2 wr)
        (fun _ i _ => N - (intOf i).toNat)
      case atStart => exact ⟨0, [], Nat.zero_le _, rfl, rfl, ⟨by simp [nsp], by simp, by simp⟩, HD3.out, HL3.out⟩
      case round =>
        obtain ⟨k, T, hk, rfl, rfl, hsp, hD, hb⟩ := hrel
        have htl := hsp.2.2
        by_cases hlt : k < N
        · have hsl := HSL.out k (by rw [HN.out]; exact hlt)
          obtain ⟨hn1, hn2⟩ := hsp.next (by rw [HN.out]; exact hlt)
          have hd1 : decide (k < N) = true := decide_eq_true hlt
          have hadd1 := add_run T [(textL L).getD k 0] _ _ _ rfl rfl rfl (by simp; omega)
          have hadd2 := add_run (T ++ [(textL L).getD k 0]) [32] _ ⟨#[32]⟩ _ rfl rfl rfl (by simp; omega)
          have hsz : (mkB (T ++ [(textL L).getD k 0])).size = T.length + 1 := by rw [mkB_size]; simp
          have HBL := Lib.hid (below3_any w2.heap.size n c A code wr hD)
          have HN1 := Lib.hid hn1; have HN2 := Lib.hid hn2; have HB := Lib.hid hb
          generalize (textL L).getD k 0 = z at *
          obtain ⟨C1, hC1⟩ : ∃ C, mkB (T ++ [z]) = C := ⟨_, rfl⟩
          obtain ⟨C2, hC2⟩ : ∃ C, mkB (T ++ [z] ++ [32]) = C := ⟨_, rfl⟩
          rw [hC1] at hadd1 hadd2 hsz
          rw [hC2] at hadd2
          have HC1 := Lib.hid hC1; have HC2 := Lib.hid hC2
          have hlen : decide (C1.size < 150) = true := decide_eq_true (by omega)
          have hlen' : decide ((C1.size : Int) < 150) = true := decide_eq_true (by omega)
          generalize mkB T = C0 at *
          generalize mkB [z] = Cz at *
          clear hsp hD hb hn1 hn2 hC1 hC2 hsz
          go_wp2_with (fail)
          refine HBL.out.mono ?_
          rintro e w4 ⟨r, rfl, D4, gr4⟩
          have HD4 := Lib.hid D4
          have HB4 := Lib.hid (HB.out.grown gr4 HB.out.size (fun q hq => by injection hq with hq; omega))
          clear D4 gr4
          by_cases h0 : r = 0
          · subst h0
            go_wp2
            go_roundw
            case rel => exact ⟨k + 1, T ++ [z] ++ [32], by omega, by go_num, by rw [HC2.out], HN2.out, HD4.out, HB4.out⟩
            case measure => simp [intOf]; omega
          · have hr0 : (r == 0) = false := by simpa using h0
            clear h0
            go_wp2
            go_roundw
            case rel => exact ⟨k + 1, T ++ [z], by omega, by go_num, by rw [HC1.out], HN1.out, HD4.out, HB4.out⟩
            case measure => simp [intOf]; omega
        · have hkN : k = N := by omega
          subst hkN
          have hd1 : decide (k < k) = false := decide_eq_false (by omega)
          have hsp' : Spaced L T (textL L).length := by rw [HN.out]; exact hsp
          obtain ⟨p1, p2, q1, q2, htb⟩ := hsp'.done HV.out
          have hB := HB2.out.trans (hb.mono HB2.out.size)
          have hr1 := parseForm_impl (mkB T) wr (by rw [mkB_size]; omega) (ht.below hB ht.lt) (hu.below hB hu.lt)
          rw [p1, p2] at hr1
          have HR1 := Lib.hid hr1
          have HR2 := Lib.hid (fun w ht hu => parseForm_impl (mkB ([32, 126] ++ T)) w (by rw [mkB_size]; simp; omega) ht hu)
          rw [q1, q2] at HR2
          have hadd := add_run [32, 126] T ⟨#[32, 126]⟩ _ _ rfl rfl rfl (by simp; omega)
          have HO := Lib.hid (own_below HO2.out hb (Nat.le_refl _))
          have HB := Lib.hid hB
          have HDY := Lib.hid (dualL_yes HV.out)
          have hml : (L.map duZ).length = L.length := by simp
          generalize mkB ([32, 126] ++ T) = C1 at *
          generalize mkB T = C0 at *
          generalize L.map duZ = M at *
          have HML := Lib.hid hml
          clear hml
          clear hsp hsp' hD hb p1 p2 q1 q2 hB hr1
          go_wp2_with (fail)
          refine HR1.out.mono ?_
          rintro e w4 ⟨A4, c4, rfl, o4, bel4⟩
          have oL4 := own_below HO.out bel4 (Nat.le_refl _)
          have B4 := HB.out.trans (bel4.mono HB.out.size)
          have HR4 := Lib.hid (HR2.out w4 (ht.below B4 ht.lt) (hu.below B4 hu.lt))
          have HO4 := Lib.hid o4; have HOL4 := Lib.hid oL4; have HB4 := Lib.hid B4
          clear o4 bel4 oL4 B4
          go_wp2_with (fail)
          refine HR4.out.mono ?_
          rintro e w5 ⟨A5, c5, rfl, o5, bel5⟩
          have o4_5 := own_below HO4.out bel5 (Nat.le_refl _)
          have oL5 := own_below HOL4.out bel5 (Nat.le_refl _)
          have B5 := HB4.out.trans (bel5.mono HB4.out.size)
          have HK1 := Lib.hid (likeInts_any A4 A1 L.length L.length c4 c1 L L w5 (RdI.of_own o4_5) (RdI.of_own oL5) (by omega) (by omega))
          have HO5 := Lib.hid o5; have HOL5 := Lib.hid oL5; have HB5 := Lib.hid B5
          clear o5 bel5 o4_5 oL5 B5
          go_wp2_with (fail)
          refine HK1.out.mono ?_
          rintro e w6 ⟨rfl, bel6⟩
          have o5_6 := own_below HO5.out bel6 (Nat.le_refl _)
          have oL6 := own_below HOL5.out bel6 (Nat.le_refl _)
          have B6 := HB5.out.trans (bel6.mono HB5.out.size)
          have hDU := dualOf_impl A1 L.length c1 L w6 (RdI.of_own oL6) (ht.below B6 ht.lt) (hu.below B6 hu.lt) k1
          rw [HDY.out] at hDU
          have HDU := Lib.hid hDU
          have HO6 := Lib.hid o5_6; have HB6 := Lib.hid B6
          clear bel6 o5_6 oL6 B6 hDU
          go_wp2_with (fail)
          refine HDU.out.mono ?_
          rintro e w7 ⟨A7, c7, rfl, o7, bel7⟩
          have o5_7 := own_below HO6.out bel7 (Nat.le_refl _)
          have B7 := HB6.out.trans (bel7.mono HB6.out.size)
          have HK2 := Lib.hid (likeInts_any A5 A7 M.length M.length c5 c7 M M w7 (RdI.of_own o5_7) (RdI.of_own o7) (by have := HML.out; omega) (by have := HML.out; omega))
          have HB7 := Lib.hid B7
          clear bel7 o5_7 o7 B7
          go_wp2_with (fail)
          refine HK2.out.mono ?_
          rintro e w8 ⟨rfl, bel8⟩
          have HB8 := Lib.hid (HB7.out.trans (bel8.mono HB7.out.size))
          clear bel8
          go_wp2
          go_ret
          exact ⟨rfl, HB8.out⟩
  · exact walk_big A n c w hn

set_option maxRecDepth 100000 in
/-- What the walk gives, for all arguments and every world that holds the tables. -/
theorem contract (H : Type) (enc : TypeId × Value → H) (W : World) (base : Nat) (args : Array Value) (ds gs : List (DataW H)) (before : List MemPlace)
    (hval : ∀ (j : Nat) t v, Tryd.f4.params[j]? = some t → args[j]? = some v → Value.okWide Tryd.prog W .any base t v)
    (hW : DataW.Whole enc Tryd.prog Tryd.f4.params.toList Rows.fnLiberalSpec.vars false W args.toList ds gs before) (hL : laidMetH Tryd.prog Rows.fnLiberalRow.laid W) :
    Calls Tryd.prog 4 args W fun e W' => ∃ v, e = .returned v ∧ Rows.fnLiberalSpec.post enc Tryd.prog Tryd.f4 false true false false W args v W' := by
  have hW' := hW
  obtain ⟨p, q, hA0, hV, rfl, hfz, hnd⟩ := hW
  have hA : DataW.TrodAll enc Tryd.prog W 0 (fun _ => true) true Tryd.f4.params.toList args.toList ds p := hA0
  rw [Tryd.params4] at hA hval
  obtain ⟨v0, vs0, d0, ds0, p0, q0, hargs, rfl, rfl, h0, r0⟩ := trodAll_cons hA
  obtain ⟨rfl, rfl, rfl⟩ := trodAll_nil r0
  obtain rfl : args = #[v0] := by cases args; simp_all
  obtain ⟨a0, len0, cap0, rfl⟩ := okWide_slice Tryd.underlying22 (hval 0 22 v0 rfl rfl)
  have k0 := h0
  have lt0 : ∀ x ∈ p0, x.block < W.heap.size := by obtain ⟨m, hm⟩ := k0; exact DataW.trod_lt m _ _ _ hm
  obtain ⟨z0, w0, c0, b0⟩ := open_u8s h0
  have ht : Arit W := arit_of hL
  have hu : Dual W := dual_of hL
  have hv1 := hV
  obtain ⟨g0, t0, cs0, f0, e0, p0', g1, t1, cs1, f1, e1, p1', rfl, _, _, _, _, _, _, _, _, rfl⟩ := trodVars_two hV
  clear hA0
  refine (walk a0 len0 cap0 z0 W w0 c0 b0 ht hu).mono fun e W' ⟨he, bel⟩ => ?_
  subst he
  exact ⟨_, rfl, _, _, _, [], _, _, hW', trodAll_mk1 (shut_bool Tryd.underlying4 _),
    (trodAll_cons_mk (Below.trod laidOut (by kernel_rfl) (of_decide_eq_true (by kernel_rfl)) k0 bel lt0) trodAll_mk0),
    vars_below bel (readable_all _ (by kernel_rfl)) hv1, bel.frame _, fun h => by cases h⟩

theorem laid_met (os : Os) : laidMet Tryd.prog Rows.fnLiberalRow.laid ((laidWorld os).forCall (fun _ _ => 0) ⟨#[], #[.slice none 0 0], []⟩).memory :=
  laidMet_of_run' 8 (by kernel_rfl) (by kernel_rfl)
theorem reads (os : Os) {H : Type} (enc : TypeId × Value → H) : ∃ x, DataW.whole enc Tryd.prog ((laidWorld os).forCall (fun _ _ => 0) ⟨#[], #[.slice none 0 0], []⟩).memory Tryd.f4.params.toList Rows.fnLiberalSpec.vars false (#[.slice none 0 0] : Array Value).toList 8 = some x :=
  Option.isSome_iff_exists.1 (by kernel_rfl)

set_option maxRecDepth 100000 in
theorem lifted (os : Os) (started : os.Started) (H : Type) (enc : TypeId × Value → H) (F : Stop.Interp) :
    ReturnsInHanded {} Tryd.checked os 4 .any ((OpenSpec.ofChange Rows.fnLiberalSpec).preRow enc Tryd.prog Tryd.f4 Rows.fnLiberalRow.domain false Rows.fnLiberalRow.laid) (((OpenSpec.ofChange Rows.fnLiberalSpec).at F).post enc Tryd.prog Tryd.f4 false true false false) := by
  obtain ⟨places, hx⟩ := reads os enc
  refine returnsInHanded_of_row (C := Tryd.checked) (s := OpenSpec.ofChange Rows.fnLiberalSpec) own started (by kernel_rfl) Tryd.func4
    (witness_row_at (enc := enc) (C := Tryd.checked) false (laidWorld os) #[.slice none 0 0] rfl (by kernel_rfl) (by kernel_rfl) (by kernel_rfl)
      (OpenSpec.preRow_of_cond 8 hx rfl (fun k hk => by cases hk) (by kernel_rfl) (laid_met os))) ?_
  intro W base args ds gs before hval hW _ _ _ hL _ _
  exact contract H enc W base args ds gs before hval hW hL

theorem said : Rows.FnLiberalSaid :=
  OpenClaim.holds_of_cond 4 Tryd.f4 rfl rfl rfl rfl rfl rfl rfl ⟨rfl, rfl, rfl, rfl, rfl⟩ rfl rfl rfl rfl rfl (by kernel_rfl) Tryd.func4 (by kernel_rfl)
    (of_decide_eq_true (by kernel_rfl)) (by unfold Func.isWrapper; first | (rw [if_pos (by decide +kernel)]; kernel_rfl) | (rw [if_neg (by decide +kernel)]; exact ⟨rfl, rfl⟩))
    (fun os started H enc _ F => by rw [OpenClaim.pre_eq_preRow]; exact lifted os started H enc F)

theorem plain (f : FuncId) (fn : Func) (hf : Tryd.pinned.checked.prog.funcNamed "loop.example/g00872/laws.FnLiberal" = some f) (hfn : Tryd.pinned.checked.prog.funcs[f]? = some fn) :
    Rows.fnLiberalCard.stood.looks = Tryd.pinned.checked.prog.looks [] ∧ ∀ (j : Nat) t, fn.params[j]? = some t → Tryd.pinned.checked.prog.wantsStandIn t = false := by
  obtain rfl : f = 4 := Option.some.inj ((show Tryd.prog.funcNamed "loop.example/g00872/laws.FnLiberal" = some 4 by kernel_rfl).symm.trans hf) |>.symm
  obtain rfl : fn = Tryd.f4 := (Option.some.inj (Tryd.func4.symm.trans hfn)).symm
  refine ⟨by kernel_rfl, fun j t ht => ?_⟩
  rw [Tryd.params4] at ht
  have hm : t ∈ [22] := by simpa using Array.mem_of_getElem? ht
  have hall : ([22].all fun u => !Tryd.prog.wantsStandIn u) = true := by kernel_rfl
  exact (show Tryd.prog.wantsStandIn t = false by simpa using List.all_eq_true.1 hall t hm)

/-- The statement. -/
theorem card : Rows.FnLiberalCardSaid :=
  Claim7.holds_tied_plain_at .later [] _ _ _ _ said (fun _ h => by cases h) (by kernel_rfl) (fun _ h => by cases h) fnLiberal_row_tie rfl ⟨rfl, rfl⟩ (by kernel_rfl) rfl plain (by kernel_rfl)
end Go.Proofs.YtjekibknembcgaaDoor.fnLiberal
