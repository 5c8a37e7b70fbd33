/- Proved: for all arguments the law that the subformulas of a drawn formula are strictly ordered and contain its first operand and itself answers true and leaves its argument as it was (FnSubforms). Conditions: the row's own: the listed tables read as the program's text lays them, which the card ties to that text. -/
import Derived.Test.YtjdmcpaolhnejaaDoorQMath
import Derived.Test.YtjdmcpaolhnejaaDoorQCompX
import Derived.Test.YtjdmcpaolhnejaaDoorQBytes
import Derived.Test.YtjdmcpaolhnejaaDoorQCmp
namespace Go.Proofs.YtjdmcpaolhnejaaDoor.fnSubforms
set_option linter.unusedSimpArgs false
set_option linter.unusedVariables false
open Go.ChangeShapes Go.WideShapes Go.ChangeAt Go.RowKit

theorem walk_big (A : Option Addr) (n c : Nat) (w : World) (hn : ¬ n ≤ 4096) :
    Calls Tryd.prog 4 #[.slice A n c] w fun e w' => e = .returned (.bool true) ∧ Below w.heap.size w w' := by
  have hd : decide (4096 < (n : Int)) = true := decide_eq_true (by omega)
  go_enter Tryd.func4, Tryd.ntmps4
  go_wp2_with (go_at_call 14; refine (big_any _ _ _ _).mono ?_; rintro e w' ⟨rfl, rfl⟩)
  go_ret
  exact ⟨rfl, Below.refl _ _⟩

theorem subL_short {f : List Int} (hv : validB f = true) : (subL f).length ≤ 24 ∧ ∀ q ∈ subL f, q.length ≤ 24 := by
  have h := valid_len hv
  have h2 := insK_len f f.length
  rw [subL_yes hv]
  exact ⟨by omega, fun q hq => (insK_mem hv _ (Nat.le_refl _) q hq).2⟩

set_option maxRecDepth 100000 in
set_option maxHeartbeats 8000000 in
theorem walk (A : Option Addr) (n c : Nat) (code : List Int) (w : World) (h : RdB w w.heap.size A n code) (_hnc : n ≤ c) (_hf : ∀ z ∈ code, (Lit.int .u8 z).wf = true) (ht : Arit w) :
    Calls Tryd.prog 4 #[.slice A n c] w fun e w' => e = .returned (.bool true) ∧ Below w.heap.size w w' := by
  by_cases hn : n ≤ 4096
  · have hd : decide (4096 < (n : Int)) = false := decide_eq_false (by omega)
    go_enter Tryd.func4, Tryd.ntmps4
    go_wp2_with (fail)
    refine (big_any _ _ _ _).mono ?_
    rintro e w' ⟨rfl, rfl⟩
    go_wp2_with (fail)
    refine (drawSub_any A n c code w h hn).mono ?_
    rintro e w1 ⟨L, A1, c1, rfl, l1, l2, o1, B1⟩
    have kc1 := (own_cap o1).1
    have t1 := ht.below B1 ht.lt
    cases hv : validB L with
    | false =>
      have hG := subforms_no A1 c1 L w1 (RdI.of_own o1) t1 kc1 hv
      rw [subL_no hv] at hG
      have HG := Lib.hid hG
      clear hG l2
      go_wp2_with (fail)
      refine HG.out.mono ?_
      rintro e w2 ⟨hs, A2, c2, rfl, own2, bel2⟩
      have o1_2 := own_below o1 bel2 (Nat.le_refl _)
      have B2 := B1.trans (bel2.mono B1.size)
      have HVS := Lib.hid (sValidForm_any A1 L.length c1 L w2 (RdI.of_own o1_2))
      have HSC := Lib.hid (symbolCount_impl A1 L.length c1 L 1 w2 (RdI.of_own o1_2) (ht.below B2 ht.lt) kc1)
      rw [hv] at HVS
      rw [cntZ_no 1 hv] at HSC
      have HB := Lib.hid B2
      clear o1 o1_2 own2 bel2 B1 B2 t1 h ht HG
      go_wp2_with (first | (go_at_call 16; refine HVS.out.mono ?_; rintro e w' ⟨rfl, rfl⟩) | (go_at_call 17; refine HSC.out.mono ?_; rintro e w' ⟨rfl, rfl⟩))
      go_ret
      exact ⟨rfl, HB.out⟩
    | true =>
      have hG := subforms_yes compact_any A1 c1 L w1 (RdI.of_own o1) t1 kc1 hv
      have hV0 := sub_in hv
      obtain ⟨hVs, hVq⟩ := subL_short hv
      have HVL := Lib.hid (sub_last hv)
      have HVB := Lib.hid (fun (i : Nat) (h0 : 1 ≤ i) (hi : i < (subL L).length) => sub_before hv h0 hi)
      have HOP := Lib.hid (fun h => opnd_at hv h)
      have HG := Lib.hid hG
      have HVQ := Lib.hid hVq
      have HT := Lib.hid ht
      clear hG hVq h ht t1 l2
      generalize subL L = V at *
      go_wp2_with (fail)
      refine HG.out.mono ?_
      rintro e w2 ⟨hs, A2, c2, rfl, own2, bel2⟩
      obtain ⟨g, cap, hg2, hlo, hgl⟩ := own2.outer.form hV0
      have hA2 : A2 = some ⟨g, 0, none⟩ ∧ c2 = cap := by injection hg2 with x y z; exact ⟨x, z⟩
      obtain ⟨rfl, rfl⟩ := hA2
      have o1_2 := own_below o1 bel2 (Nat.le_refl _)
      have B2 := B1.trans (bel2.mono B1.size)
      have HVS := Lib.hid (sValidForm_any A1 L.length c1 L w2 (RdI.of_own o1_2))
      rw [hv] at HVS
      have HO := Lib.hid own2; have HL := Lib.hid o1_2; have HB2 := Lib.hid B2
      clear own2 bel2 o1 o1_2 B1 B2 hg2 HG
      go_wp2_with (fail)
      refine HVS.out.mono ?_
      rintro e w' ⟨rfl, rfl⟩
      clear HVS
      go_wp2_with (fail)
      go_loopw [5] (fun i wr => ∃ k : Nat, 1 ≤ k ∧ k ≤ V.length ∧ i = .int .i64 k ∧ Below w2.heap.size w2 wr) (fun i _ => V.length - (intOf i).toNat)
      case atStart => exact ⟨1, Nat.le_refl _, hV0, rfl, Below.refl _ _⟩
      case round =>
        obtain ⟨k, hk1, hk2, rfl, hb⟩ := hrel
        obtain ⟨k1, rfl⟩ : ∃ k1, k = k1 + 1 := ⟨k - 1, by omega⟩
        have HB := Lib.hid hb
        by_cases hlt : k1 + 1 < V.length
        · have ci := (hb.cell (p := ⟨g, k1 + 1, none⟩) hgl).trans (HO.out.at rfl hlt).2
          have cj := (hb.cell (p := ⟨g, k1, none⟩) hgl).trans (HO.out.at rfl (k := k1) (by omega)).2
          have hbf := HVB.out (k1 + 1) hk1 hlt
          rw [Nat.add_sub_cancel] at hbf
          have ri := ((RdI.of_own (HO.out.inner (k1 + 1) hlt)).below hb).more hb.size
          have rj := ((RdI.of_own (HO.out.inner k1 (by omega))).below hb).more hb.size
          have hF := formBefore_impl (hs k1).1 (hs (k1 + 1)).1 _ _ (hs k1).2 (hs (k1 + 1)).2 _ _ wr.drew rj ri (HT.out.below (HB2.out.trans (hb.mono HB2.out.size)).drew HT.out.lt) (own_cap (HO.out.inner k1 (by omega))).1 (own_cap (HO.out.inner (k1 + 1) hlt)).1
          rw [hbf] at hF
          have HF := Lib.hid hF
          rw [hv_eq] at ci cj
          have hwr : IntKind.i64.wrap (k1 : Int) = k1 := IntWalk.i64_in _ (by omega)
          have hi1 : (k1 : Int) < (V.length : Int) := by omega
          have hi2 : (k1 : Int) + 1 < (V.length : Int) := by omega
          clear hF hbf ri rj hb
          generalize (V.getD (k1 + 1) []).length = li at *
          generalize (V.getD k1 []).length = lj at *
          generalize (hs k1).1 = Aj at *; generalize (hs k1).2 = cj' at *; generalize (hs (k1 + 1)).1 = Ai at *; generalize (hs (k1 + 1)).2 = ci' at *
          go_wp2_with (fail)
          go_region_with (go_at_call 18; refine HF.out.mono ?_; rintro e wf ⟨rfl, bf'⟩; have bf := undrew bf'; clear bf')
          all_goals go_wp2
          all_goals
            go_roundw
            case rel => exact ⟨k1 + 1 + 1, by omega, by omega, by go_num, HB.out.trans (bf.mono HB.out.size)⟩
            case measure => simp [intOf]; omega
        · have hd1 : decide ((k1 : Int) + 1 < (V.length : Int)) = false := decide_eq_false (by omega)
          have L3 := own_below HL.out hb (Nat.le_refl _)
          have HOPR := Lib.hid (sOperandOf_any A1 L.length c1 L 0 wr (RdI.of_own L3) kc1)
          have hx24 := opndL_len L 0
          clear L3 hb
          generalize hxL : opndL L 0 = X at *
          generalize hxB : opndB L 0 = Y at *
          have HXB := Lib.hid hxB
          clear hxL hxB
          go_wp2_with (fail)
          refine HOPR.out.mono ?_
          rintro e w4 ⟨A4, c4, rfl, o4, bel4⟩
          have B24 := HB.out.trans (bel4.mono HB.out.size)
          have x4 := RdI.of_own o4
          have HX := Lib.hid x4; have HB24 := Lib.hid B24
          clear o4 bel4 x4 B24 HOPR HB
          have s24 := HB24.out.size
          go_wp2_with (fail)
          go_loopw [8, 9] (fun f i wr => ∃ (k : Nat) (F : Bool), k ≤ V.length ∧ f = .bool F ∧ i = .int .i64 k ∧ (F = true ∨ (Y = true ∧ ∃ j, k ≤ j ∧ j < V.length ∧ V.getD j [] = X)) ∧ Below w4.heap.size w4 wr) (fun _ i _ => V.length - (intOf i).toNat)
          case atStart =>
            refine ⟨0, !Y, Nat.zero_le _, rfl, rfl, ?_, Below.refl _ _⟩
            cases hY : Y with
            | false => exact .inl rfl
            | true =>
              obtain ⟨i, h1, h2⟩ := HOP.out hY
              exact .inr ⟨rfl, i, Nat.zero_le _, h1, h2⟩
          case round =>
            obtain ⟨k, F, hk, rfl, rfl, hF, hb5⟩ := hrel
            have HB5 := Lib.hid hb5; have HFF := Lib.hid hF
            clear hF
            have b25 := HB24.out.trans (hb5.mono s24)
            by_cases hlt2 : k < V.length
            · cases F with
              | true =>
                clear hb5 b25
                go_wp2
                go_roundw
                case rel => exact ⟨k + 1, true, by omega, rfl, by go_num, .inl rfl, HB5.out⟩
                case measure => simp [intOf]; omega
              | false =>
                have ck := (b25.cell (p := ⟨g, k, none⟩) hgl).trans (HO.out.at rfl hlt2).2
                rw [hv_eq] at ck
                have rk := ((RdI.of_own (HO.out.inner k hlt2)).below b25).more b25.size
                have rx := (HX.out.below hb5).more hb5.size
                have l24 := HVQ.out _ (getD_mem hlt2)
                have HLK := Lib.hid (likeInts_any (hs k).1 A4 _ X.length (hs k).2 c4 (V.getD k []) X wr rk rx (by omega) (by omega))
                have HFF' : Hid (Y = true ∧ ∃ j, k ≤ j ∧ j < V.length ∧ V.getD j [] = X) := Lib.hid (HFF.out.resolve_left (by decide))
                clear hb5 b25 rk rx HFF
                obtain ⟨D, hD⟩ : ∃ D, D = decide (V.getD k [] = X) := ⟨_, rfl⟩
                have HD := Lib.hid hD
                have HLK' : Hid (Calls Tryd.prog 20 #[.slice (hs k).1 (V.getD k []).length (hs k).2, .slice A4 X.length c4] wr fun e w' => e = .returned (.bool D) ∧ Below wr.heap.size wr w') := Lib.hid (by rw [HD.out]; exact HLK.out)
                clear hD HLK
                generalize (V.getD k []).length = lk at *
                go_wp2_with (fail)
                refine HLK'.out.mono ?_
                rintro e w6 ⟨rfl, bel6⟩
                have HB6 := Lib.hid (HB5.out.trans (bel6.mono HB5.out.size))
                have HN : Hid (D = true ∨ (Y = true ∧ ∃ j, k + 1 ≤ j ∧ j < V.length ∧ V.getD j [] = X)) := Lib.hid (by
                  obtain ⟨hy, j, h1, h2, h3⟩ := HFF'.out
                  by_cases e : j = k
                  · subst e; left; rw [HD.out]; exact decide_eq_true h3
                  · exact .inr ⟨hy, j, by omega, h2, h3⟩)
                clear bel6 HLK' HFF'
                go_wp2
                go_roundw
                case rel => exact ⟨k + 1, D, by omega, rfl, by go_num, HN.out, HB6.out⟩
                case measure => simp [intOf]; omega
            · obtain rfl : k = V.length := by omega
              have hFt : F = true := by
                rcases HFF.out with h | ⟨_, j, h1, h2, _⟩
                · exact h
                · omega
              subst hFt
              obtain ⟨m, hm⟩ : ∃ m, V.length = m + 1 := ⟨V.length - 1, by omega⟩
              have hlast := HVL.out
              rw [hm, Nat.add_sub_cancel] at hlast
              have ck := (b25.cell (p := ⟨g, m, none⟩) hgl).trans (HO.out.at rfl (k := m) (by omega)).2
              rw [hv_eq, hlast] at ck
              have rk := ((RdI.of_own (HO.out.inner m (by omega))).below b25).more b25.size
              rw [hlast] at rk
              have rx := (RdI.of_own HL.out |>.below b25).more b25.size
              have HLK := Lib.hid (likeInts_any (hs m).1 A1 L.length L.length (hs m).2 c1 L L wr rk rx (by omega) (by omega))
              have HBE := Lib.hid (HB2.out.trans (b25.mono HB2.out.size))
              have hgt : decide ((0 : Int) < (V.length : Int)) = true := decide_eq_true (by omega)
              have hmm : (V.length : Int) = (m : Int) + 1 := by omega
              clear hb5 b25 rk rx hlast
              go_wp2_with (fail)
              refine HLK.out.mono ?_
              rintro e w6 ⟨he, bel6⟩
              rw [decide_eq_true (rfl : L = L)] at he
              subst he
              go_wp2
              go_ret
              exact ⟨rfl, HBE.out.trans (bel6.mono HBE.out.size)⟩
  · exact walk_big A n c w hn

set_option maxRecDepth 100000 in
/-- What the walk gives, for all arguments and every world that holds the tables. -/
theorem contract (H : Type) (enc : TypeId × Value → H) (W : World) (base : Nat) (args : Array Value) (ds gs : List (DataW H)) (before : List MemPlace)
    (hval : ∀ (j : Nat) t v, Tryd.f4.params[j]? = some t → args[j]? = some v → Value.okWide Tryd.prog W .any base t v)
    (hW : DataW.Whole enc Tryd.prog Tryd.f4.params.toList Rows.fnSubformsSpec.vars false W args.toList ds gs before) (hL : laidMetH Tryd.prog Rows.fnSubformsRow.laid W) :
    Calls Tryd.prog 4 args W fun e W' => ∃ v, e = .returned v ∧ Rows.fnSubformsSpec.post enc Tryd.prog Tryd.f4 false true false false W args v W' := by
  have hW' := hW
  obtain ⟨p, q, hA0, hV, rfl, hfz, hnd⟩ := hW
  have hA : DataW.TrodAll enc Tryd.prog W 0 (fun _ => true) true Tryd.f4.params.toList args.toList ds p := hA0
  rw [Tryd.params4] at hA hval
  obtain ⟨v0, vs0, d0, ds0, p0, q0, hargs, rfl, rfl, h0, r0⟩ := trodAll_cons hA
  obtain ⟨rfl, rfl, rfl⟩ := trodAll_nil r0
  obtain rfl : args = #[v0] := by cases args; simp_all
  obtain ⟨a0, len0, cap0, rfl⟩ := okWide_slice Tryd.underlying31 (hval 0 31 v0 rfl rfl)
  have k0 := h0
  have lt0 : ∀ x ∈ p0, x.block < W.heap.size := by obtain ⟨m, hm⟩ := k0; exact DataW.trod_lt m _ _ _ hm
  obtain ⟨z0, w0, c0, b0⟩ := open_u8s h0
  have ht : Arit W := arit_of hL
  have hv1 := hV
  obtain ⟨g, t, cs, fuel, d, p', rfl, hg, hty, hvar, hd, rfl⟩ := trodVars_one hV
  clear hA0
  refine (walk a0 len0 cap0 z0 W w0 c0 b0 ht).mono fun e W' ⟨he, bel⟩ => ?_
  subst he
  exact ⟨_, rfl, _, _, _, [], _, _, hW', trodAll_mk1 (shut_bool Tryd.underlying4 _),
    (trodAll_cons_mk (Below.trod laidOut (by kernel_rfl) (of_decide_eq_true (by kernel_rfl)) k0 bel lt0) trodAll_mk0),
    vars_below bel (readable_all _ (by kernel_rfl)) hv1, bel.frame _, fun h => by cases h⟩

theorem laid_met (os : Os) : laidMet Tryd.prog Rows.fnSubformsRow.laid ((laidWorld os).forCall (fun _ _ => 0) ⟨#[], #[.slice none 0 0], []⟩).memory :=
  laidMet_of_run' 8 (by kernel_rfl) (by kernel_rfl)
theorem reads (os : Os) {H : Type} (enc : TypeId × Value → H) : ∃ x, DataW.whole enc Tryd.prog ((laidWorld os).forCall (fun _ _ => 0) ⟨#[], #[.slice none 0 0], []⟩).memory Tryd.f4.params.toList Rows.fnSubformsSpec.vars false (#[.slice none 0 0] : Array Value).toList 8 = some x :=
  Option.isSome_iff_exists.1 (by kernel_rfl)

set_option maxRecDepth 100000 in
theorem lifted (os : Os) (started : os.Started) (H : Type) (enc : TypeId × Value → H) (F : Stop.Interp) :
    ReturnsInHanded {} Tryd.checked os 4 .any ((OpenSpec.ofChange Rows.fnSubformsSpec).preRow enc Tryd.prog Tryd.f4 Rows.fnSubformsRow.domain false Rows.fnSubformsRow.laid) (((OpenSpec.ofChange Rows.fnSubformsSpec).at F).post enc Tryd.prog Tryd.f4 false true false false) := by
  obtain ⟨places, hx⟩ := reads os enc
  refine returnsInHanded_of_row (C := Tryd.checked) (s := OpenSpec.ofChange Rows.fnSubformsSpec) own started (by kernel_rfl) Tryd.func4
    (witness_row_at (enc := enc) (C := Tryd.checked) false (laidWorld os) #[.slice none 0 0] rfl (by kernel_rfl) (by kernel_rfl) (by kernel_rfl)
      (OpenSpec.preRow_of_cond 8 hx rfl (fun k hk => by cases hk) (by kernel_rfl) (laid_met os))) ?_
  intro W base args ds gs before hval hW _ _ _ hL _ _
  exact contract H enc W base args ds gs before hval hW hL

theorem said : Rows.FnSubformsSaid :=
  OpenClaim.holds_of_cond 4 Tryd.f4 rfl rfl rfl rfl rfl rfl rfl ⟨rfl, rfl, rfl, rfl, rfl⟩ rfl rfl rfl rfl rfl (by kernel_rfl) Tryd.func4 (by kernel_rfl)
    (of_decide_eq_true (by kernel_rfl)) (by unfold Func.isWrapper; first | (rw [if_pos (by decide +kernel)]; kernel_rfl) | (rw [if_neg (by decide +kernel)]; exact ⟨rfl, rfl⟩))
    (fun os started H enc _ F => by rw [OpenClaim.pre_eq_preRow]; exact lifted os started H enc F)

theorem plain (f : FuncId) (fn : Func) (hf : Tryd.pinned.checked.prog.funcNamed "loop.example/g00872/laws.FnSubforms" = some f) (hfn : Tryd.pinned.checked.prog.funcs[f]? = some fn) :
    Rows.fnSubformsCard.stood.looks = Tryd.pinned.checked.prog.looks [] ∧ ∀ (j : Nat) t, fn.params[j]? = some t → Tryd.pinned.checked.prog.wantsStandIn t = false := by
  obtain rfl : f = 4 := Option.some.inj ((show Tryd.prog.funcNamed "loop.example/g00872/laws.FnSubforms" = some 4 by kernel_rfl).symm.trans hf) |>.symm
  obtain rfl : fn = Tryd.f4 := (Option.some.inj (Tryd.func4.symm.trans hfn)).symm
  refine ⟨by kernel_rfl, fun j t ht => ?_⟩
  rw [Tryd.params4] at ht
  have hm : t ∈ [31] := by simpa using Array.mem_of_getElem? ht
  have hall : ([31].all fun u => !Tryd.prog.wantsStandIn u) = true := by kernel_rfl
  exact (show Tryd.prog.wantsStandIn t = false by simpa using List.all_eq_true.1 hall t hm)

/-- The statement. -/
theorem card : Rows.FnSubformsCardSaid :=
  Claim7.holds_tied_plain_at .later [] _ _ _ _ said (fun _ h => by cases h) (by kernel_rfl) (fun _ h => by cases h) fnSubforms_row_tie rfl ⟨rfl, rfl⟩ (by kernel_rfl) rfl plain (by kernel_rfl)
end Go.Proofs.YtjdmcpaolhnejaaDoor.fnSubforms
