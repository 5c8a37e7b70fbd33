/- Proved: for all arguments the law that SeqText answers as its model, leaves its argument and shares no memory answers true and leaves its arguments as they were (FnExactSeqText). Conditions: the row's own: the listed tables read as the program's text lays them, which the card ties to that text. -/
import Derived.Test.YtjmalgadpodmbaaDoorFrame
import Derived.Test.YtjmalgadpodmbaaDoorFrameQ
import Derived.Test.YtjmalgadpodmbaaDoorSeqI
namespace Go.Proofs.YtjmalgadpodmbaaDoor.fnExactSeqText
open Go.ChangeShapes Go.WideShapes Go.ChangeAt Go.RowKit

theorem walk_big0 (A0 : Option Addr) (n0 c0 : Nat) (q0 : List (List Int)) (w : World) (h0 : RdQ w w.heap.size A0 n0 q0) (hm0 : n0 ≤ maxLen) (hq0 : ∀ q ∈ q0, q.length ≤ maxLen)  (hb : szR 1048576 (n0 + total q0) = -1) :
    Calls Tryd.prog 11 #[.agg #[.slice A0 n0 c0]] w fun e w' => e = .returned (.bool true) ∧ Below w.heap.size w w' := by
  obtain ⟨w0, hw0⟩ : ∃ w0, w0 = w.alloc (.cells #[Value.slice A0 n0 c0] 34) := ⟨_, rfl⟩
  have B0 : Below w.heap.size w w0 := by rw [hw0]; exact box_below _ _ _
  have ca0_0 : w0.cell? ⟨w.heap.size, 0, none⟩ = some (.slice A0 n0 c0) := by rw [hw0]; simp
  have s0 : w.heap.size + 1 ≤ w0.heap.size := by rw [hw0]; simp
  have HS0 := Lib.hid (fun w0 B => szSeq_any A0 n0 c0 q0 (1048576) w0 ((h0.below B).more (Below.size B)) hq0 hm0 (by decide) (by decide))
  rw [hb] at HS0
  clear hb h0
  go_enter Tryd.func11, Tryd.ntmps11
  go_wp2_with (fail)
  rw [← hw0]
  clear hw0
  refine (HS0.out w0 B0).mono ?_
  rintro e w1 ⟨rfl, bel1⟩
  have B1 := B0.trans (bel1.mono B0.size)
  have s1 := bel1.size
  have ca0_1 := (bel1.cell (p := ⟨w.heap.size, 0, none⟩) (by show w.heap.size < _; omega)).trans ca0_0
  clear bel1 ca0_0
  have HB := Lib.hid B1
  clear B0 B1
  go_wp2
  go_ret
  exact ⟨rfl, HB.out⟩

set_option maxRecDepth 100000 in
set_option maxHeartbeats 8000000 in
theorem walk_mid (A0 : Option Addr) (n0 c0 : Nat) (q0 : List (List Int)) (L0 : Int) (w : World) (h0 : RdQ w w.heap.size A0 n0 q0) (hs0 : szR 1048576 (n0 + total q0) = L0) (hL0 : 0 ≤ L0) (hL'0 : L0 ≤ 1048576) (hn0 : n0 ≤ 1048576) (hT0 : total q0 ≤ 1048576) (ht : Arit w) :
    Calls Tryd.prog 11 #[.agg #[.slice A0 n0 c0]] w fun e w' => e = .returned (.bool true) ∧ Below w.heap.size w w' := by
  have hq0 : ∀ q ∈ q0, q.length ≤ 1048576 := fun q hq' => Nat.le_trans (mem_total hq') hT0
  have hqm0 : ∀ q ∈ q0, q.length ≤ maxLen := fun q hq' => Nat.le_trans (hq0 q hq') (by decide)
  have hm0 : n0 ≤ maxLen := Nat.le_trans hn0 (by decide)
  have hl0 := h0.len
  generalize hV : seqT q0 = V
  have HV := Lib.hid hV; clear hV
  have hvv : (V.toList == V.toList) = true := by simp
  obtain ⟨w0, hw0⟩ : ∃ w0, w0 = w.alloc (.cells #[Value.slice A0 n0 c0] 34) := ⟨_, rfl⟩
  have B0 : Below w.heap.size w w0 := by rw [hw0]; exact box_below _ _ _
  have ca0_0 : w0.cell? ⟨w.heap.size, 0, none⟩ = some (.slice A0 n0 c0) := by rw [hw0]; simp
  have s0 : w.heap.size + 1 ≤ w0.heap.size := by rw [hw0]; simp
  have HS0 := Lib.hid (fun w0 B => szSeq_any A0 n0 c0 q0 (1048576) w0 ((h0.below B).more (Below.size B)) hqm0 hm0 (by decide) (by decide))
  rw [hs0] at HS0
  have hd0 : decide (L0 < 0) = false := decide_eq_false (by omega)
  have HQ0 := Lib.hid hq0; have H0 := Lib.hid h0
  have HT := Lib.hid ht
  clear hs0 hq0 hqm0 h0 ht
  go_enter Tryd.func11, Tryd.ntmps11
  go_wp2_with (fail)
  rw [← hw0]
  clear hw0
  refine (HS0.out w0 B0).mono ?_
  rintro e w1 ⟨rfl, bel1⟩
  have s1 := bel1.size
  have B1 := B0.trans (bel1.mono B0.size)
  have ca0_1 := (bel1.cell (p := ⟨w.heap.size, 0, none⟩) (by show w.heap.size < _; omega)).trans ca0_0
  clear bel1
  clear ca0_0 B0
  generalize w0.heap.size = m0 at *
  go_wp2_with (fail)
  refine (toSeq_any A0 n0 c0 q0 w1 ((H0.out.below B1).more B1.size) HQ0.out hn0).mono ?_
  rintro e w2 ⟨hs_p0, A_p0, rfl, own2, bel2⟩
  have o_p0_2 := Lib.hid own2
  clear own2
  have s2 := bel2.size
  have B2 := B1.trans (bel2.mono B1.size)
  have ca0_2 := (bel2.cell (p := ⟨w.heap.size, 0, none⟩) (by show w.heap.size < _; omega)).trans ca0_1
  clear bel2
  clear ca0_1 B1
  generalize w1.heap.size = m1 at *
  go_wp2_with (fail)
  refine (sSeqText_any A_p0 n0 n0 q0 w2 (o_p0_2.out.rd hl0) hn0 (Nat.le_refl _)).mono ?_
  rw [HV.out]
  rintro e w3 ⟨rfl, bel3⟩
  have s3 := bel3.size
  have B3 := B2.trans (bel3.mono B2.size)
  have ca0_3 := (bel3.cell (p := ⟨w.heap.size, 0, none⟩) (by show w.heap.size < _; omega)).trans ca0_2
  have o_p0_3 := Lib.hid (o_p0_2.out.below bel3)
  clear bel3
  clear ca0_2 o_p0_2 B2
  generalize w2.heap.size = m2 at *
  clear o_p0_3
  go_wp2_with (fail)
  refine (toSeq_any A0 n0 c0 q0 w3 ((H0.out.below B3).more B3.size) HQ0.out hn0).mono ?_
  rintro e w4 ⟨hs_x0, A_x0, rfl, own4, bel4⟩
  have o_x0_4 := Lib.hid own4
  clear own4
  have s4 := bel4.size
  have B4 := B3.trans (bel4.mono B3.size)
  have ca0_4 := (bel4.cell (p := ⟨w.heap.size, 0, none⟩) (by show w.heap.size < _; omega)).trans ca0_3
  clear bel4
  clear ca0_3 B3
  generalize w3.heap.size = m3 at *
  have bel5 : Below w4.heap.size w4 (w4.alloc (.cells #[Value.slice A_x0 n0 n0] 26)) := box_below _ _ _
  have cx0_5 : (w4.alloc (.cells #[Value.slice A_x0 n0 n0] 26)).cell? ⟨w4.heap.size, 0, none⟩ = some (Value.slice A_x0 n0 n0) := by simp
  have t5 : w4.heap.size + 1 ≤ (w4.alloc (.cells #[Value.slice A_x0 n0 n0] 26)).heap.size := by simp
  have ca0_5 := (bel5.cell (p := ⟨w.heap.size, 0, none⟩) (by show w.heap.size < _; omega)).trans ca0_4
  clear ca0_4
  go_wp2_with (fail)
  generalize w4.alloc (.cells #[Value.slice A_x0 n0 n0] 26) = w5 at *
  have s5 := bel5.size
  have B5 := B4.trans (bel5.mono B4.size)
  have o_x0_5 := Lib.hid (o_x0_4.out.below bel5)
  clear bel5
  clear o_x0_4 B4
  generalize w4.heap.size = m4 at *
  refine (seqText_impl A_x0 n0 n0 q0 w5 (o_x0_5.out.rd hl0) hm0 (HT.out.below B5 HT.out.lt)).mono ?_
  rw [HV.out]
  rintro e w6 ⟨rfl, bel6⟩
  have s6 := bel6.size
  have B6 := B5.trans (bel6.mono B5.size)
  have ca0_6 := (bel6.cell (p := ⟨w.heap.size, 0, none⟩) (by show w.heap.size < _; omega)).trans ca0_5
  have cx0_6 := (bel6.cell (p := ⟨m4, 0, none⟩) (by show m4 < _; omega)).trans cx0_5
  have o_x0_6 := Lib.hid (o_x0_5.out.below bel6)
  clear bel6
  clear ca0_5 cx0_5 o_x0_5 B5
  generalize w5.heap.size = m5 at *
  have R_x := Lib.hid (o_x0_6.out.rd hl0)
  have HBx := Lib.hid B6
  go_wp2
  go_region_with (first
    | (go_at_call 25; refine (toSeq_any A0 n0 c0 q0 w6.drew ((H0.out.below HBx.out).more HBx.out.size) HQ0.out hn0).mono ?_; rintro e wt ⟨hst, At, rfl, ownt, belt'⟩; have belt := undrew belt'; have cxt := (belt.cell (p := ⟨m4, 0, none⟩) (by show m4 < _; omega)).trans cx0_6; have R7 := Lib.hid ((R_x.out.below belt).more belt.size); have S7 := Lib.hid (ownt.rd hl0); have B7 := Lib.hid (Below.trans (Below.refl _ _) (belt)); clear ownt belt belt')
    | (go_at_call 27; refine (eqSeq_any _ _ _ _ _ _ q0 q0 _ R7.out S7.out hn0 hn0 HQ0.out HQ0.out).mono ?_; rw [decide_eq_true (rfl : q0 = q0)]; rintro e wu ⟨rfl, belu⟩; have B8 := Lib.hid (B7.out.trans (belu.mono B7.out.size)); clear belu))
  all_goals have HB := Lib.hid (HBx.out.trans (B8.out.mono HBx.out.size))
  all_goals go_wp2
  all_goals go_ret
  all_goals exact ⟨rfl, HB.out⟩

theorem walk (A0 : Option Addr) (n0 c0 : Nat) (q0 : List (List Int)) (w : World) (h0 : RdQ w w.heap.size A0 n0 q0) (_hc0 : n0 ≤ c0) (hm0 : n0 ≤ maxLen) (hq0 : ∀ q ∈ q0, q.length ≤ maxLen) (_hw0 : ∀ q ∈ q0, ∀ z ∈ q, (Lit.int .i64 z).wf = true) (ht : Arit w) :
    Calls Tryd.prog 11 #[.agg #[.slice A0 n0 c0]] w fun e w' => e = .returned (.bool true) ∧ Below w.heap.size w w' := by
  rcases sz_casesL 1048576 (by decide) n0 q0 with hb | ⟨L0, hs0, hL0, hL'0, hn0, hT0⟩
  · exact walk_big0 A0 n0 c0 q0  w h0 hm0 hq0  hb
  · exact walk_mid A0 n0 c0 q0 L0 w h0 hs0 hL0 hL'0 hn0 hT0 ht

set_option maxRecDepth 100000 in
/-- What the walk gives, for all arguments and every world that holds the tables. -/
theorem contract (H : Type) (enc : TypeId × Value → H) (W : World) (base : Nat) (args : Array Value) (ds gs : List (DataW H)) (before : List MemPlace)
    (hval : ∀ (j : Nat) t v, Tryd.f11.params[j]? = some t → args[j]? = some v → Value.okWide Tryd.prog W .any base t v)
    (hW : DataW.Whole enc Tryd.prog Tryd.f11.params.toList Rows.fnExactSeqTextSpec.vars false W args.toList ds gs before) (hL : laidMetH Tryd.prog Rows.fnExactSeqTextRow.laid W) :
    Calls Tryd.prog 11 args W fun e W' => ∃ v, e = .returned v ∧ Rows.fnExactSeqTextSpec.post enc Tryd.prog Tryd.f11 false true false false W args v W' := by
  have hW' := hW
  obtain ⟨p, q, hA0, hV, rfl, hfz, hnd⟩ := hW
  have hA : DataW.TrodAll enc Tryd.prog W 0 (fun _ => true) true Tryd.f11.params.toList args.toList ds p := hA0
  rw [Tryd.params11] at hA hval
  obtain ⟨v0, vs0, d0, ds0, p0, q0, hargs, rfl, rfl, h0, r0⟩ := trodAll_cons hA
  obtain ⟨rfl, rfl, rfl⟩ := trodAll_nil r0
  obtain rfl : args = #[v0] := by cases args; simp_all
  have k0 := h0
  have lt0 : ∀ x ∈ p0, x.block < W.heap.size := by obtain ⟨m, hm⟩ := k0; exact DataW.trod_lt m _ _ _ hm
  obtain ⟨a0, len0, cap0, z0, rfl, w0, c0, m0, l0, b0⟩ := open_seq (hval 0 34 v0 rfl rfl) h0
  have ht : Arit W := arit_of hL
  have hv1 := hV
  obtain ⟨g, t, cs, fuel, d, p', rfl, hg, hty, hvar, hd, rfl⟩ := trodVars_one hV
  clear hA0
  refine (walk a0 len0 cap0 z0 W w0 c0 m0 l0 b0 ht).mono fun e W' ⟨he, bel⟩ => ?_
  subst he
  exact ⟨_, rfl, _, _, _, [], _, _, hW', trodAll_mk1 (shut_bool Tryd.underlying4 _),
    (trodAll_cons_mk (Below.trod laidOut (by kernel_rfl) (of_decide_eq_true (by kernel_rfl)) k0 bel lt0) trodAll_mk0),
    vars_below bel (readable_all _ (by kernel_rfl)) hv1, bel.frame _, fun h => by cases h⟩

theorem laid_met (os : Os) : laidMet Tryd.prog Rows.fnExactSeqTextRow.laid ((laidWorld os).forCall (fun _ _ => 0) ⟨#[], #[.agg #[.slice none 0 0]], []⟩).memory :=
  laidMet_of_run' 8 (by kernel_rfl) (by kernel_rfl)
theorem reads (os : Os) {H : Type} (enc : TypeId × Value → H) : ∃ x, DataW.whole enc Tryd.prog ((laidWorld os).forCall (fun _ _ => 0) ⟨#[], #[.agg #[.slice none 0 0]], []⟩).memory Tryd.f11.params.toList Rows.fnExactSeqTextSpec.vars false (#[.agg #[.slice none 0 0]] : Array Value).toList 8 = some x :=
  Option.isSome_iff_exists.1 (by kernel_rfl)

set_option maxRecDepth 100000 in
theorem lifted (os : Os) (started : os.Started) (H : Type) (enc : TypeId × Value → H) (F : Stop.Interp) :
    ReturnsInHanded {} Tryd.checked os 11 .any ((OpenSpec.ofChange Rows.fnExactSeqTextSpec).preRow enc Tryd.prog Tryd.f11 Rows.fnExactSeqTextRow.domain false Rows.fnExactSeqTextRow.laid) (((OpenSpec.ofChange Rows.fnExactSeqTextSpec).at F).post enc Tryd.prog Tryd.f11 false true false false) := by
  obtain ⟨places, hx⟩ := reads os enc
  refine returnsInHanded_of_row (C := Tryd.checked) (s := OpenSpec.ofChange Rows.fnExactSeqTextSpec) own started (by kernel_rfl) Tryd.func11
    (witness_row_at (enc := enc) (C := Tryd.checked) false (laidWorld os) #[.agg #[.slice none 0 0]] rfl (by kernel_rfl) (by kernel_rfl) (by kernel_rfl)
      (OpenSpec.preRow_of_cond 8 hx rfl (fun k hk => by cases hk) (by kernel_rfl) (laid_met os))) ?_
  intro W base args ds gs before hval hW _ _ _ hL _ _
  exact contract H enc W base args ds gs before hval hW hL

theorem said : Rows.FnExactSeqTextSaid :=
  OpenClaim.holds_of_cond 11 Tryd.f11 rfl rfl rfl rfl rfl rfl rfl ⟨rfl, rfl, rfl, rfl, rfl⟩ rfl rfl rfl rfl rfl (by kernel_rfl) Tryd.func11 (by kernel_rfl)
    (of_decide_eq_true (by kernel_rfl)) (by unfold Func.isWrapper; first | (rw [if_pos (by decide +kernel)]; kernel_rfl) | (rw [if_neg (by decide +kernel)]; exact ⟨rfl, rfl⟩))
    (fun os started H enc _ F => by rw [OpenClaim.pre_eq_preRow]; exact lifted os started H enc F)

theorem plain (f : FuncId) (fn : Func) (hf : Tryd.pinned.checked.prog.funcNamed "loop.example/g00872/laws.FnExactSeqText" = some f) (hfn : Tryd.pinned.checked.prog.funcs[f]? = some fn) :
    Rows.fnExactSeqTextCard.stood.looks = Tryd.pinned.checked.prog.looks [] ∧ ∀ (j : Nat) t, fn.params[j]? = some t → Tryd.pinned.checked.prog.wantsStandIn t = false := by
  obtain rfl : f = 11 := Option.some.inj ((show Tryd.prog.funcNamed "loop.example/g00872/laws.FnExactSeqText" = some 11 by kernel_rfl).symm.trans hf) |>.symm
  obtain rfl : fn = Tryd.f11 := (Option.some.inj (Tryd.func11.symm.trans hfn)).symm
  refine ⟨by kernel_rfl, fun j t ht => ?_⟩
  rw [Tryd.params11] at ht
  have hm : t ∈ [34] := by simpa using Array.mem_of_getElem? ht
  have hall : ([34].all fun u => !Tryd.prog.wantsStandIn u) = true := by kernel_rfl
  exact (show Tryd.prog.wantsStandIn t = false by simpa using List.all_eq_true.1 hall t hm)

/-- The statement. -/
theorem card : Rows.FnExactSeqTextCardSaid :=
  Claim7.holds_tied_plain_at .later [] _ _ _ _ said (fun _ h => by cases h) (by kernel_rfl) (fun _ h => by cases h) fnExactSeqText_row_tie rfl ⟨rfl, rfl⟩ (by kernel_rfl) rfl plain (by kernel_rfl)
end Go.Proofs.YtjmalgadpodmbaaDoor.fnExactSeqText
