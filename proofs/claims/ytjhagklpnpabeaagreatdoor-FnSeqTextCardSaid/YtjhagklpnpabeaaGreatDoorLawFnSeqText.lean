/- Proved: for all arguments the law that a drawn sequent is recovered from its text and that sorting it changes nothing but the order answers true and leaves its argument as it was (FnSeqText). Conditions: the row's own: the listed tables read as the program's text lays them, which the card ties to that text. -/
import Derived.Test.YtjhagklpnpabeaaGreatDoorFrame
import Derived.Test.YtjhagklpnpabeaaGreatDoorFrameZ
import Derived.Test.YtjhagklpnpabeaaGreatDoorFnSeq
import Derived.Test.YtjhagklpnpabeaaGreatDoorBytes
import Derived.Test.YtjhagklpnpabeaaGreatDoorSeqV
import Derived.Test.YtjhagklpnpabeaaGreatDoorSwap
import Derived.Test.YtjhagklpnpabeaaGreatDoorMsetI
import Derived.Test.YtjhagklpnpabeaaGreatDoorSeqI
namespace Go.Proofs.YtjhagklpnpabeaaGreatDoor.fnSeqText
open Go.ChangeShapes Go.WideShapes Go.ChangeAt Go.RowKit

theorem walk_big (A : Option Addr) (n c : Nat) (w : World) (hn : ¬ n ≤ 4096) :
    Calls Tryz.prog 3 #[.slice A n c] w fun e w' => e = .returned (.bool true) ∧ Below w.heap.size w w' := by
  have hd : decide (4096 < (n : Int)) = true := decide_eq_true (by omega)
  go_enter Tryz.func3, Tryz.ntmps3
  go_wp2_with (go_at_call 9; refine (big_any _ _ _ _).mono ?_; rintro e w' ⟨rfl, rfl⟩)
  go_ret
  exact ⟨rfl, Below.refl _ _⟩

theorem boxed {w wx : World} {B : Nat} (hb : Below B w wx) (hB : B ≤ wx.heap.size) (v : Value) (t : TypeId) : Below B w (wx.alloc (.cells #[v] t)) ∧ (wx.alloc (.cells #[v] t)).cell? ⟨wx.heap.size, 0, none⟩ = some v ∧ wx.heap.size < (wx.alloc (.cells #[v] t)).heap.size ∧ Below wx.heap.size wx (wx.alloc (.cells #[v] t)) :=
  ⟨hb.trans ((box_below wx v t).mono hB), by simp, by simp, box_below wx v t⟩

set_option maxRecDepth 100000 in
set_option maxHeartbeats 2000000 in
theorem walk (A : Option Addr) (n c : Nat) (code : List Int) (w : World) (h : RdB w w.heap.size A n code) (_hnc : n ≤ c) (_hf : ∀ z ∈ code, (Lit.int .u8 z).wf = true) (ht : Arit w) (hu : Dual w) (hx : MaxL w) :
    Calls Tryz.prog 3 #[.slice A n c] w fun e w' => e = .returned (.bool true) ∧ Below w.heap.size w w' := by
  by_cases hn : n ≤ 4096
  · have hd : decide (4096 < (n : Int)) = false := decide_eq_false (by omega)
    have HT := Lib.hid ht; have HU := Lib.hid hu; have HX := Lib.hid hx
    clear hx
    go_enter Tryz.func3, Tryz.ntmps3
    go_wp2_with (fail)
    refine (big_any _ _ _ _).mono ?_
    rintro e w' ⟨rfl, rfl⟩
    go_wp2_with (fail)
    refine (drawSeqText_any A n c code w h hn).mono ?_
    rintro e w1 ⟨V, hs, A2, c2, rfl, o1, hV, hq, B1⟩
    have hc2 := own_cap1 o1.outer
    have HQ := Lib.hid hq
    obtain ⟨B1b, q1, z1, bx1⟩ := boxed B1 B1.size (.slice A2 V.length c2) 26
    have O1 := Lib.hid ((o1.below bx1).more (Nat.le_refl _) bx1.size)
    have HB1 := Lib.hid B1b
    clear h ht hu o1 hq B1 B1b bx1
    go_wp2_with (fail)
    generalize w1.heap.size = b3 at *
    generalize (w1.alloc (.cells #[.slice A2 V.length c2] 26)) = w2 at *
    have hST := seqText_impl A2 V.length c2 V w2 (O1.out.rd rfl) (by unfold maxLen; omega) (HT.out.below HB1.out HT.out.lt)
    have hVS := fun (wx : World) (hr : RdQ wx wx.heap.size A2 V.length V) => sValidSeq_any A2 V.length c2 V wx hr (by omega) hc2
    have hqq : ∀ q ∈ V, q.length ≤ 1048576 := fun q hq' => Nat.le_trans (HQ.out q hq') (by decide)
    cases hvq : validQ V with
    | false =>
      have hSS := fun (wx : World) (hr : RdQ wx wx.heap.size A2 V.length V) (htx : Arit wx) => sameSeq_impl A2 A2 V.length V.length c2 c2 V V wx hr hr (by omega) (by omega) hc2 hc2 hqq hqq htx
      rw [seqT_no hvq] at hST
      rw [hvq] at hVS
      rw [sameQ_no hvq] at hSS
      have HST := Lib.hid hST; have HVS := Lib.hid hVS; have HSS := Lib.hid hSS
      clear hST hVS hSS hvq hqq
      refine HST.out.mono ?_
      rintro e w3 ⟨rfl, bel3⟩
      have q3 := (bel3.cell (p := ⟨b3, 0, none⟩) z1).trans q1
      have z3 : b3 < w3.heap.size := by have := bel3.size; omega
      have O3 := Lib.hid (O1.out.below bel3)
      have HB3 := Lib.hid (HB1.out.trans (bel3.mono HB1.out.size))
      clear bel3 q1 z1 O1 HST
      go_wp2_with (fail)
      refine (HVS.out w3 (O3.out.rd rfl)).mono ?_
      rintro e w4 ⟨rfl, bel4⟩
      have q4 := (bel4.cell (p := ⟨b3, 0, none⟩) z3).trans q3
      have O4 := Lib.hid (O3.out.below bel4)
      have HB4 := Lib.hid (HB3.out.trans (bel4.mono HB3.out.size))
      clear bel4 q3 z3 O3 HVS
      go_wp2_with (fail)
      refine (HSS.out w4 (O4.out.rd rfl) (HT.out.below HB4.out HT.out.lt)).mono ?_
      rintro e w5 ⟨rfl, bel5⟩
      have HB5 := Lib.hid (HB4.out.trans (bel5.mono HB4.out.size))
      clear bel5 q4 O4 HSS
      go_wp2
      go_ret
      exact ⟨rfl, HB5.out⟩
    | true =>
      obtain ⟨T, f1, f2, f3, f4, f5, f6, f7, f8, f9, f10, f11, f12⟩ := seq_facts hvq
      have hsz := seqT_size V
      rw [hvq] at hVS
      generalize seqT V = S at *
      have hRS := fun (wx : World) (h1 : Arit wx) (h2 : Dual wx) (h3 : MaxL wx) => readSeq_impl S wx hsz h1 h2 h3
      rw [f2, f3] at hRS
      have hSO := fun (wx : World) (hr : RdQ wx wx.heap.size A2 V.length V) (h1 : Arit wx) => sortedSeq_impl A2 V.length c2 V wx hr (by omega) h1
      rw [f1] at hSO
      have HST := Lib.hid hST; have HVS := Lib.hid hVS; have HRS := Lib.hid hRS; have HSO := Lib.hid hSO
      have HF4 := Lib.hid f4; have HF5 := Lib.hid f5; have HF6 := Lib.hid f6; have HF7 := Lib.hid f7; have HF10 := Lib.hid f10; have HF11 := Lib.hid f11; have HF12 := Lib.hid f12
      have hTl : T.length ≤ 10 := by omega
      clear hST hVS hRS hSO hvq hqq f1 f2 f3 f4 f5 f6 f7 f8 f10 f11 f12
      refine HST.out.mono ?_
      rintro e w3 ⟨rfl, bel3⟩
      have q3 := (bel3.cell (p := ⟨b3, 0, none⟩) z1).trans q1
      have z3 : b3 < w3.heap.size := by have := bel3.size; omega
      have O3 := Lib.hid (O1.out.below bel3)
      have HB3 := Lib.hid (HB1.out.trans (bel3.mono HB1.out.size))
      clear bel3 q1 z1 O1 HST
      go_wp2_with (fail)
      refine (HVS.out w3 (O3.out.rd rfl)).mono ?_
      rintro e w4 ⟨rfl, bel4⟩
      have q4 := (bel4.cell (p := ⟨b3, 0, none⟩) z3).trans q3
      have z4 : b3 < w4.heap.size := by have := bel4.size; omega
      have O4 := Lib.hid (O3.out.below bel4)
      have HB4 := Lib.hid (HB3.out.trans (bel4.mono HB3.out.size))
      clear bel4 q3 z3 O3 HVS
      go_wp2_with (fail)
      refine (HRS.out w4 (HT.out.below HB4.out HT.out.lt) (HU.out.below HB4.out HU.out.lt) (HX.out.below HB4.out)).mono ?_
      rintro e w5 ⟨hs5, A5, c5, rfl, o5, bel5⟩
      have hc5 := own_cap1 o5.outer
      obtain ⟨B5b, q5, z5, bx5⟩ := boxed (HB4.out.trans (bel5.mono HB4.out.size)) (HB4.out.trans (bel5.mono HB4.out.size)).size (.slice A5 V.length c5) 26
      have q35 := (bx5.cell (p := ⟨b3, 0, none⟩) (by show b3 < _; have := bel5.size; omega)).trans ((bel5.cell (p := ⟨b3, 0, none⟩) z4).trans q4)
      have z35 : b3 < (w5.alloc (.cells #[.slice A5 V.length c5] 26)).heap.size := by have := bel5.size; have := bx5.size; omega
      have O5 := Lib.hid ((O4.out.below bel5).below bx5)
      have P5 := Lib.hid (o5.below bx5)
      have HB5 := Lib.hid B5b
      clear o5 bel5 B5b bx5 q4 z4 O4 HRS
      go_wp2_with (fail)
      generalize w5.heap.size = b5 at *
      generalize (w5.alloc (.cells #[.slice A5 V.length c5] 26)) = w6 at *
      refine (HSO.out w6 (O5.out.rd rfl) (HT.out.below HB5.out HT.out.lt)).mono ?_
      rintro e w7 ⟨hs7, A7, c7, rfl, o7, bel7⟩
      have hc7 := own_cap1 o7.outer
      obtain ⟨B7b, q7, z7, bx7⟩ := boxed (HB5.out.trans (bel7.mono HB5.out.size)) (HB5.out.trans (bel7.mono HB5.out.size)).size (.slice A7 T.length c7) 26
      have q37 := (bx7.cell (p := ⟨b3, 0, none⟩) (by show b3 < _; have := bel7.size; omega)).trans ((bel7.cell (p := ⟨b3, 0, none⟩) z35).trans q35)
      have q57 := (bx7.cell (p := ⟨b5, 0, none⟩) (by show b5 < _; have := bel7.size; omega)).trans ((bel7.cell (p := ⟨b5, 0, none⟩) z5).trans q5)
      have z37 : b3 < (w7.alloc (.cells #[.slice A7 T.length c7] 26)).heap.size := by have := bel7.size; have := bx7.size; omega
      have z57 : b5 < (w7.alloc (.cells #[.slice A7 T.length c7] 26)).heap.size := by have := bel7.size; have := bx7.size; omega
      have O7 := Lib.hid ((O5.out.below bel7).below bx7)
      have P7 := Lib.hid ((P5.out.below bel7).below bx7)
      have R7 := Lib.hid ((o7.below bx7).more (Nat.le_refl _) bx7.size)
      have HB7 := Lib.hid B7b
      clear o7 bel7 B7b bx7 q35 q5 z35 z5 O5 P5 HSO
      go_wp2_with (fail)
      generalize w7.heap.size = b7 at *
      generalize (w7.alloc (.cells #[.slice A7 T.length c7] 26)) = w8 at *
      have hb8 := HB7.out.size
      have HCL := Lib.hid (fun (wx : World) (hb : Below w8.heap.size w8 wx) => (⟨(hb.cell (p := ⟨b3, 0, none⟩) z37).trans q37, (hb.cell (p := ⟨b5, 0, none⟩) z57).trans q57, (hb.cell (p := ⟨b7, 0, none⟩) z7).trans q7⟩ : wx.cell? ⟨b3, 0, none⟩ = some (.slice A2 V.length c2) ∧ wx.cell? ⟨b5, 0, none⟩ = some (.slice A5 V.length c5) ∧ wx.cell? ⟨b7, 0, none⟩ = some (.slice A7 T.length c7)))
      clear q37 q57 q7 z37 z57 z7
      go_loopw [8] (fun i wr => ∃ k : Nat, 1 ≤ k ∧ k ≤ T.length + 1 ∧ i = .int .i64 k ∧ Below w8.heap.size w8 wr) (fun i _ => T.length + 1 - (intOf i).toNat)
      case atStart => exact ⟨1, Nat.le_refl _, by omega, rfl, Below.refl _ _⟩
      case round =>
        obtain ⟨k, hk1, hk2, rfl, hb⟩ := hrel
        obtain ⟨k1, rfl⟩ : ∃ k1, k = k1 + 1 := ⟨k - 1, by omega⟩
        have HB := Lib.hid hb
        by_cases hlt : k1 + 1 < T.length
        · obtain ⟨g, cap, hg2, hlo, hgl⟩ := R7.out.outer.form (show 0 < T.length by omega)
          have hA7 : A7 = some ⟨g, 0, none⟩ ∧ c7 = cap := by injection hg2 with x y z; exact ⟨x, z⟩
          obtain ⟨rfl, rfl⟩ := hA7
          have ct := (HCL.out wr hb).2.2
          have ci := (hb.cell (p := ⟨g, k1 + 1, none⟩) hgl).trans (R7.out.at rfl hlt).2
          have cj := (hb.cell (p := ⟨g, k1, none⟩) hgl).trans (R7.out.at rfl (k := k1) (by omega)).2
          have hbf := HF12.out (k1 + 1) hk1 hlt
          rw [Nat.add_sub_cancel] at hbf
          have ri := ((RdI.of_own (R7.out.inner (k1 + 1) hlt)).below hb).more hb.size
          have rj := ((RdI.of_own (R7.out.inner k1 (by omega))).below hb).more hb.size
          have hF := sFormBefore_any (hs7 (k1 + 1)).1 (hs7 k1).1 _ _ (hs7 (k1 + 1)).2 (hs7 k1).2 _ _ wr.drew ri rj
          rw [hbf] at hF
          have HF := Lib.hid hF
          rw [hv_cell] at ci cj
          have hwr : IntKind.i64.wrap (k1 : Int) = k1 := IntWalk.i64_in _ (by omega)
          have hi1 : (k1 : Int) < (T.length : Int) := by omega
          have hi2 : (k1 : Int) + 1 < (T.length : Int) := by omega
          clear hF hbf ri rj hb hg2 hlo hgl
          generalize (T.getD (k1 + 1) []).length = li at *
          generalize (T.getD k1 []).length = lj at *
          generalize (hs7 k1).1 = Aj at *; generalize (hs7 k1).2 = cj' at *; generalize (hs7 (k1 + 1)).1 = Ai at *; generalize (hs7 (k1 + 1)).2 = ci' at *
          go_wp2_with (fail)
          go_region_with (go_at_call 16; refine HF.out.mono ?_; rintro e wf ⟨rfl, bf'⟩; have bf := undrew bf'; clear bf')
          all_goals go_wp2
          all_goals
            go_roundw
            case rel => exact ⟨k1 + 1 + 1, by omega, by omega, by go_num, HB.out.trans (bf.mono HB.out.size)⟩
            case measure => simp [intOf]; omega
        · have hd1 : decide ((k1 : Int) + 1 < (T.length : Int)) = false := decide_eq_false (by omega)
          have K0 := Lib.hid (HCL.out wr hb)
          have ct := K0.out.2.2
          have HKF : Hid (∀ wx, Below wr.heap.size wr wx → (wx.cell? ⟨b3, 0, none⟩ = some (.slice A2 V.length c2) ∧ wx.cell? ⟨b5, 0, none⟩ = some (.slice A5 V.length c5) ∧ wx.cell? ⟨b7, 0, none⟩ = some (.slice A7 T.length c7))) := Lib.hid (fun wx hb' => HCL.out wx (HB.out.trans (hb'.mono HB.out.size)))
          have RV := Lib.hid (fun (wx : World) (hb' : Below wr.heap.size wr wx) => ((O7.out.below (HB.out.trans (hb'.mono HB.out.size))).rd rfl : RdQ wx wx.heap.size A2 V.length V))
          have RR := Lib.hid (fun (wx : World) (hb' : Below wr.heap.size wr wx) => ((P7.out.below (HB.out.trans (hb'.mono HB.out.size))).rd rfl : RdQ wx wx.heap.size A5 V.length V))
          have RT := Lib.hid (fun (wx : World) (hb' : Below wr.heap.size wr wx) => ((R7.out.below (HB.out.trans (hb'.mono HB.out.size))).rd rfl : RdQ wx wx.heap.size A7 T.length T))
          have TT := Lib.hid (fun (wx : World) (hb' : Below wr.heap.size wr wx) => HT.out.below (HB7.out.trans ((HB.out.trans (hb'.mono HB.out.size)).mono HB7.out.size)) HT.out.lt)
          have HBW := Lib.hid (HB7.out.trans (HB.out.mono HB7.out.size))
          have hnV : V.length ≤ 1048576 := by omega
          have hnT : T.length ≤ 1048576 := by omega
          have hqV : Hid (∀ q ∈ V, q.length ≤ 1048576) := Lib.hid (fun q hq' => Nat.le_trans (HF10.out q hq') (by decide))
          have hqT : Hid (∀ q ∈ T, q.length ≤ 1048576) := Lib.hid (fun q hq' => Nat.le_trans (HF11.out q hq') (by decide))
          have hbd : Below wr.heap.size wr wr.drew := (Below.refl _ _).drew
          have hsw := HBW.out.size
          have tok1 : True := trivial
          clear hb HCL HF12 O7 P7 R7
          go_wp2_with (fail)
          go_region_held3 (fun wx => wx.cell? ⟨b3, 0, none⟩ = some (.slice A2 V.length c2) ∧ wx.cell? ⟨b5, 0, none⟩ = some (.slice A5 V.length c5) ∧ wx.cell? ⟨b7, 0, none⟩ = some (.slice A7 T.length c7))
            (first | exact K0.out | exact K1.out | exact K2.out | exact K3.out | exact K4.out)
            (first
              | (have _t := tok1; go_at_call 13; refine (sameSeq_impl A2 A5 V.length V.length c2 c5 V V wr.drew (RV.out _ hbd) (RR.out _ hbd) hnV hnV hc2 hc5 hqV.out hqV.out (TT.out _ hbd)).mono ?_; rintro e x1 ⟨he, bel1'⟩; rw [HF5.out] at he; subst he; have bel1 := undrew bel1'; have H1 := Lib.hid bel1; have K1 := Lib.hid (HKF.out _ H1.out); have tok2 : True := trivial; clear bel1 bel1' tok1)
              | (have _t := tok2; go_at_call 17; refine (sameMset_impl A2 A7 V.length T.length c2 c7 V T x1 (RV.out _ H1.out) (RT.out _ H1.out) hnV hnT (TT.out _ H1.out)).mono ?_; rintro e x2 ⟨he, bel2'⟩; rw [HF6.out] at he; subst he; have bel2 := bel2'; have H2 := Lib.hid (H1.out.trans (bel2.mono H1.out.size)); have K2 := Lib.hid (HKF.out _ H2.out); have tok3 : True := trivial; clear bel2 bel2' tok2)
              | (have _t := tok3; go_at_call 15; refine (sortedSeq_impl A7 T.length c7 T x2 (RT.out _ H2.out) hnT (TT.out _ H2.out)).mono ?_; rw [HF4.out]; rintro e x3 ⟨hsd, Ad, cd, rfl, od, bel3'⟩; have bel3 := bel3'; have hcd := own_cap1 od.outer; have OD := Lib.hid od; clear od; have H3 := Lib.hid (H2.out.trans (bel3.mono H2.out.size)); have K3 := Lib.hid (HKF.out _ H3.out); have tok4 : True := trivial; clear bel3 bel3' tok3)
              | (have _t := tok4; go_at_call 13; refine (sameSeq_impl Ad A7 T.length T.length cd c7 T T x3 (OD.out.rd rfl) (RT.out _ H3.out) hnT hnT hcd hc7 hqT.out hqT.out (TT.out _ H3.out)).mono ?_; rintro e x4 ⟨he, bel4'⟩; rw [HF7.out] at he; subst he; have bel4 := bel4'; have H4 := Lib.hid (H3.out.trans (bel4.mono H3.out.size)); have K4 := Lib.hid (HKF.out _ H4.out); have tok5 : True := trivial; clear bel4 bel4' tok4))
          all_goals go_wp2
          all_goals go_ret
          all_goals exact ⟨rfl, HBW.out.trans (H4.out.mono HBW.out.size)⟩
  · exact walk_big A n c w hn

set_option maxRecDepth 100000 in
/-- What the walk gives, for all arguments and every world that holds the tables. -/
theorem contract (H : Type) (enc : TypeId × Value → H) (W : World) (base : Nat) (args : Array Value) (ds gs : List (DataW H)) (before : List MemPlace)
    (hval : ∀ (j : Nat) t v, Tryz.f3.params[j]? = some t → args[j]? = some v → Value.okWide Tryz.prog W .any base t v)
    (hW : DataW.Whole enc Tryz.prog Tryz.f3.params.toList Rows.fnSeqTextSpec.vars false W args.toList ds gs before) (hL : laidMetH Tryz.prog Rows.fnSeqTextRow.laid W) (hS : W.ShapedOpen Tryz.prog) :
    Calls Tryz.prog 3 args W fun e W' => ∃ v, e = .returned v ∧ Rows.fnSeqTextSpec.post enc Tryz.prog Tryz.f3 false true false false W args v W' := by
  have hW' := hW
  obtain ⟨p, q, hA0, hV, rfl, hfz, hnd⟩ := hW
  have hA : DataW.TrodAll enc Tryz.prog W 0 (fun _ => true) true Tryz.f3.params.toList args.toList ds p := hA0
  rw [Tryz.params3] at hA hval
  obtain ⟨v0, vs0, d0, ds0, p0, q0, hargs, rfl, rfl, h0, r0⟩ := trodAll_cons hA
  obtain ⟨rfl, rfl, rfl⟩ := trodAll_nil r0
  obtain rfl : args = #[v0] := by cases args; simp_all
  obtain ⟨a0, len0, cap0, rfl⟩ := okWide_slice Tryz.underlying22 (hval 0 22 v0 rfl rfl)
  have k0 := h0
  have lt0 : ∀ x ∈ p0, x.block < W.heap.size := by obtain ⟨m, hm⟩ := k0; exact DataW.trod_lt m _ _ _ hm
  obtain ⟨z0, w0, c0, b0⟩ := open_u8s h0
  replace hL : laidMet Tryz.prog Rows.fnSeqTextRow.laid W := by rw [MakeChecks.laidMetH_plain _ _ _ (by kernel_rfl)] at hL; exact hL
  have ht : Arit W := arit_of (laidMet.tail hL)
  have hu : Dual W := dual_of (laidMet.tail hL)
  have hx : MaxL W := maxl_of hS
  have hv1 := hV
  obtain ⟨g0, t0, cs0, f0, e0, p0', g1, t1, cs1, f1, e1, p1', rfl, _, _, _, _, _, _, _, _, rfl⟩ := trodVars_two hV
  clear hA0
  refine (walk a0 len0 cap0 z0 W w0 c0 b0 ht hu hx).mono fun e W' ⟨he, bel⟩ => ?_
  subst he
  exact ⟨_, rfl, _, _, _, [], _, _, hW', trodAll_mk1 (shut_bool Tryz.underlying4 _),
    (trodAll_cons_mk (Below.trod laidOut (by kernel_rfl) (of_decide_eq_true (by kernel_rfl)) k0 bel lt0) trodAll_mk0),
    vars_below bel (readable_all _ (by kernel_rfl)) hv1, bel.frame _, fun h => by cases h⟩

theorem laid_met (os : Os) : laidMet Tryz.prog Rows.fnSeqTextRow.laid ((World.laidAll Tryz.prog os Rows.fnSeqTextRow.laid).forCall (fun _ _ => 0) ⟨#[], #[.slice none 0 0], []⟩).memory :=
  laidMet_laidAll _ (by kernel_rfl) (by kernel_rfl)
theorem reads (os : Os) {H : Type} (enc : TypeId × Value → H) : ∃ x, DataW.whole enc Tryz.prog ((World.laidAll Tryz.prog os Rows.fnSeqTextRow.laid).forCall (fun _ _ => 0) ⟨#[], #[.slice none 0 0], []⟩).memory Tryz.f3.params.toList Rows.fnSeqTextSpec.vars false (#[.slice none 0 0] : Array Value).toList 8 = some x :=
  Option.isSome_iff_exists.1 (by kernel_rfl)

set_option maxRecDepth 100000 in
theorem lifted (os : Os) (started : os.Started) (H : Type) (enc : TypeId × Value → H) (F : Stop.Interp) :
    ReturnsInHanded {} Tryz.checked os 3 .any ((OpenSpec.ofChange Rows.fnSeqTextSpec).preRow enc Tryz.prog Tryz.f3 Rows.fnSeqTextRow.domain false Rows.fnSeqTextRow.laid) (((OpenSpec.ofChange Rows.fnSeqTextSpec).at F).post enc Tryz.prog Tryz.f3 false true false false) := by
  obtain ⟨places, hx⟩ := reads os enc
  refine returnsInHanded_of_row (C := Tryz.checked) (s := OpenSpec.ofChange Rows.fnSeqTextSpec) own started (by kernel_rfl) Tryz.func3
    (witness_row_sh (enc := enc) (C := Tryz.checked) false (World.laidAll Tryz.prog os Rows.fnSeqTextRow.laid) #[.slice none 0 0] (World.laidAll_os _ _ _) (World.shaped_of_ZipB (by kernel_rfl) (by kernel_rfl)) (by kernel_rfl)
      (OpenSpec.preRow_of_cond 8 hx rfl (fun k hk => by cases hk) (by kernel_rfl) (laid_met os))) ?_
  intro W base args ds gs before hval hW _ _ _ hL hS _
  exact contract H enc W base args ds gs before hval hW hL hS

theorem said : Rows.FnSeqTextSaid :=
  OpenClaim.holds_of_cond 3 Tryz.f3 rfl rfl rfl rfl rfl rfl rfl ⟨rfl, rfl, rfl, rfl, rfl⟩ rfl rfl rfl rfl rfl (by kernel_rfl) Tryz.func3 (by kernel_rfl)
    (of_decide_eq_true (by kernel_rfl)) (by unfold Func.isWrapper; first | (rw [if_pos (by decide +kernel)]; kernel_rfl) | (rw [if_neg (by decide +kernel)]; exact ⟨rfl, rfl⟩))
    (fun os started H enc _ F => by rw [OpenClaim.pre_eq_preRow]; exact lifted os started H enc F)

theorem plain (f : FuncId) (fn : Func) (hf : Tryz.pinned.checked.prog.funcNamed "loop.example/g00872/laws.FnSeqText" = some f) (hfn : Tryz.pinned.checked.prog.funcs[f]? = some fn) :
    Rows.fnSeqTextCard.stood.looks = Tryz.pinned.checked.prog.looks [] ∧ ∀ (j : Nat) t, fn.params[j]? = some t → Tryz.pinned.checked.prog.wantsStandIn t = false := by
  obtain rfl : f = 3 := Option.some.inj ((show Tryz.prog.funcNamed "loop.example/g00872/laws.FnSeqText" = some 3 by kernel_rfl).symm.trans hf) |>.symm
  obtain rfl : fn = Tryz.f3 := (Option.some.inj (Tryz.func3.symm.trans hfn)).symm
  refine ⟨by kernel_rfl, fun j t ht => ?_⟩
  rw [Tryz.params3] at ht
  have hm : t ∈ [22] := by simpa using Array.mem_of_getElem? ht
  have hall : ([22].all fun u => !Tryz.prog.wantsStandIn u) = true := by kernel_rfl
  exact (show Tryz.prog.wantsStandIn t = false by simpa using List.all_eq_true.1 hall t hm)

/-- The statement. -/
theorem card : Rows.FnSeqTextCardSaid :=
  Claim7.holds_tied_plain_at .later [] _ _ _ _ said (fun _ h => by cases h) (by kernel_rfl) (fun _ h => by cases h) fnSeqText_row_tie rfl ⟨rfl, rfl⟩ (by kernel_rfl) rfl plain (by kernel_rfl)
end Go.Proofs.YtjhagklpnpabeaaGreatDoor.fnSeqText
