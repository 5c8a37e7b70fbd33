/- Proved: for all arguments the law that ValidPairedGraph answers as its model and leaves its argument as it was answers true and leaves its argument as it was (FnExactValidPairedGraph). Conditions: the row's own: the listed tables read as the program's text lays them, which the card ties to that text. -/
import Derived.Test.YtlcapifgpcimpaaQValid
import Derived.Test.YtlcapifgpcimpaaQCopyS
import Derived.Test.YtlcapifgpcimpaaFrameG
import Derived.Test.YtlcapifgpcimpaaEgH
import Derived.Test.YtlcapifgpcimpaaEgW
namespace Go.Proofs.Ytlcapifgpcimpaa.fnExactValidPairedGraph
set_option linter.unusedSimpArgs false
set_option linter.unusedVariables false
open Go.ChangeShapes Go.WideShapes Go.ChangeAt Go.RowKit

set_option maxRecDepth 100000 in
theorem walk_big0 (h0 : GH) (x0 : Gr) (w : World) (r0 : RdG w w.heap.size h0 x0) (gr0 : GreatG x0)  (hb : szR 1048576 (gsz x0) = -1) :
    Calls Try.prog 3 #[.agg #[Value.int .i64 x0.n, Value.slice h0.A x0.e.length h0.c]] w fun e w' => e = .returned (.bool true) ∧ Below w.heap.size w w' := by
  have HS0 := Lib.hid (fun w0 (B : Below w.heap.size w w0) => szG_any h0 x0 (1048576) w0 ((r0.below B).more B.size) gr0.q gr0.w gr0.l gr0.c (by decide) (by decide))
  rw [hb] at HS0
  clear hb r0 gr0
  obtain ⟨w0, hw0⟩ : ∃ w0, w0 = w.alloc (.cells #[Value.int .i64 x0.n, Value.slice h0.A x0.e.length h0.c] 24) := ⟨_, rfl⟩
  obtain ⟨bb0, hh0, sz0⟩ := box2E w (Value.int .i64 x0.n) (Value.slice h0.A x0.e.length h0.c) 24
  rw [← hw0] at bb0 hh0 sz0
  have B0 : Below w.heap.size w w0 := bb0
  obtain ⟨c_a0_0_0, c_a0_0_1⟩ := twE_cells hh0
  have s0 : w.heap.size + 1 ≤ w0.heap.size := by omega
  clear bb0 hh0
  clear sz0
  go_enter Try.func3, Try.ntmps3
  go_wp2_with (fail)
  rw [← hw0]
  clear hw0
  refine (HS0.out w0 B0).mono ?_
  rintro e w1 ⟨rfl, bel1⟩
  have B1 := B0.trans (bel1.mono B0.size)
  have c_a0_1_0 := (bel1.cell (p := ⟨w.heap.size, 0, none⟩) (by show w.heap.size < _; omega)).trans c_a0_0_0
  have c_a0_1_1 := (bel1.cell (p := ⟨w.heap.size, 1, none⟩) (by show w.heap.size < _; omega)).trans c_a0_0_1
  have s1 := bel1.size
  clear bel1 B0
  have HB := Lib.hid B1
  clear B1
  go_wp2
  go_ret
  exact ⟨rfl, HB.out⟩

set_option maxRecDepth 100000 in
set_option maxHeartbeats 16000000 in
theorem walk_mid (h0 : GH) (x0 : Gr) (L0 : Int) (w : World) (r0 : RdG w w.heap.size h0 x0) (hs0 : szR 1048576 (gsz x0) = L0) (hL0 : 0 ≤ L0) (hL'0 : L0 ≤ 1048576) (sm0 : SmallG x0)  :
    Calls Try.prog 3 #[.agg #[Value.int .i64 x0.n, Value.slice h0.A x0.e.length h0.c]] w fun e w' => e = .returned (.bool true) ∧ Below w.heap.size w w' := by
  have gr0 := sm0.great
  generalize hV : vgB x0 = V
  have HV := Lib.hid hV; clear hV
  have hvv : (V != V) = false := by simp
  have HS0 := Lib.hid (fun w0 (B : Below w.heap.size w w0) => szG_any h0 x0 (1048576) w0 ((r0.below B).more B.size) gr0.q gr0.w gr0.l gr0.c (by decide) (by decide))
  rw [hs0] at HS0
  have hd0 : decide (L0 < 0) = false := decide_eq_false (by omega)
  have H0 := Lib.hid r0
  have nt0 := sm0.tot
  have SM0 := Lib.hid sm0
  clear r0 hs0 gr0 sm0
  obtain ⟨w0, hw0⟩ : ∃ w0, w0 = w.alloc (.cells #[Value.int .i64 x0.n, Value.slice h0.A x0.e.length h0.c] 24) := ⟨_, rfl⟩
  obtain ⟨bb0, hh0, sz0⟩ := box2E w (Value.int .i64 x0.n) (Value.slice h0.A x0.e.length h0.c) 24
  rw [← hw0] at bb0 hh0 sz0
  have B0 : Below w.heap.size w w0 := bb0
  obtain ⟨c_a0_0_0, c_a0_0_1⟩ := twE_cells hh0
  have s0 : w.heap.size + 1 ≤ w0.heap.size := by omega
  clear bb0 hh0
  clear sz0
  go_enter Try.func3, Try.ntmps3
  go_wp2_with (fail)
  rw [← hw0]
  clear hw0
  refine (HS0.out w0 B0).mono ?_
  rintro e w1 ⟨rfl, bel1⟩
  have s1 := bel1.size
  have B1 := B0.trans (bel1.mono B0.size)
  have c_a0_1_0 := (bel1.cell (p := ⟨w.heap.size, 0, none⟩) (by show w.heap.size < _; omega)).trans c_a0_0_0
  have c_a0_1_1 := (bel1.cell (p := ⟨w.heap.size, 1, none⟩) (by show w.heap.size < _; omega)).trans c_a0_0_1
  clear bel1 B0 c_a0_0_0 c_a0_0_1
  generalize w0.heap.size = m0 at *
  go_wp2_with (fail)
  refine (toG_any h0 x0 w1 ((H0.out.below B1).more B1.size) SM0.out.q SM0.out.w SM0.out.l SM0.out.c).mono ?_
  rintro e w2 ⟨h_p0, rfl, own2, bel2⟩
  have o_p0_2 := Lib.hid own2
  clear own2
  have s2 := bel2.size
  have B2 := B1.trans (bel2.mono B1.size)
  have c_a0_2_0 := (bel2.cell (p := ⟨w.heap.size, 0, none⟩) (by show w.heap.size < _; omega)).trans c_a0_1_0
  have c_a0_2_1 := (bel2.cell (p := ⟨w.heap.size, 1, none⟩) (by show w.heap.size < _; omega)).trans c_a0_1_1
  clear bel2 B1 c_a0_1_0 c_a0_1_1
  generalize w1.heap.size = m1 at *
  go_wp2_with (fail)
  refine (sValidG_any h_p0 x0 w2 (o_p0_2.out.rd) SM0.out.w).mono ?_
  rw [HV.out]
  rintro e w3 ⟨rfl, bel3⟩
  have s3 := bel3.size
  have B3 := B2.trans (bel3.mono B2.size)
  have c_a0_3_0 := (bel3.cell (p := ⟨w.heap.size, 0, none⟩) (by show w.heap.size < _; omega)).trans c_a0_2_0
  have c_a0_3_1 := (bel3.cell (p := ⟨w.heap.size, 1, none⟩) (by show w.heap.size < _; omega)).trans c_a0_2_1
  have o_p0_3 := Lib.hid (o_p0_2.out.below bel3)
  clear bel3 B2 o_p0_2 c_a0_2_0 c_a0_2_1
  generalize w2.heap.size = m2 at *
  clear o_p0_3
  go_wp2_with (fail)
  refine (toG_any h0 x0 w3 ((H0.out.below B3).more B3.size) SM0.out.q SM0.out.w SM0.out.l SM0.out.c).mono ?_
  rintro e w4 ⟨h_x0, rfl, own4, bel4⟩
  have o_x0_4 := Lib.hid own4
  clear own4
  have s4 := bel4.size
  have B4 := B3.trans (bel4.mono B3.size)
  have c_a0_4_0 := (bel4.cell (p := ⟨w.heap.size, 0, none⟩) (by show w.heap.size < _; omega)).trans c_a0_3_0
  have c_a0_4_1 := (bel4.cell (p := ⟨w.heap.size, 1, none⟩) (by show w.heap.size < _; omega)).trans c_a0_3_1
  clear bel4 B3 c_a0_3_0 c_a0_3_1
  generalize w3.heap.size = m3 at *
  have bel5 : Below w4.heap.size w4 (w4.alloc (.cells #[Value.int .i64 x0.n, Value.slice h_x0.A x0.e.length h_x0.c] 29)) := (Below.refl _ _).alloc (Nat.le_refl _) _
  obtain ⟨c_x0_5_0, c_x0_5_1⟩ := twE_cells (show (w4.alloc (.cells #[Value.int .i64 x0.n, Value.slice h_x0.A x0.e.length h_x0.c] 29)).heap[w4.heap.size]? = some (.cells #[Value.int .i64 x0.n, Value.slice h_x0.A x0.e.length h_x0.c] 29 (0, 0)) from heap_alloc_new _ _)
  have t5 : w4.heap.size + 1 ≤ (w4.alloc (.cells #[Value.int .i64 x0.n, Value.slice h_x0.A x0.e.length h_x0.c] 29)).heap.size := by simp
  have c_a0_5_0 := (bel5.cell (p := ⟨w.heap.size, 0, none⟩) (by show w.heap.size < _; omega)).trans c_a0_4_0
  have c_a0_5_1 := (bel5.cell (p := ⟨w.heap.size, 1, none⟩) (by show w.heap.size < _; omega)).trans c_a0_4_1
  clear c_a0_4_0 c_a0_4_1
  go_wp2_with (fail)
  generalize w4.alloc (.cells #[Value.int .i64 x0.n, Value.slice h_x0.A x0.e.length h_x0.c] 29) = w5 at *
  have s5 := bel5.size
  have B5 := B4.trans (bel5.mono B4.size)
  have o_x0_5 := Lib.hid (o_x0_4.out.below bel5)
  clear bel5 B4 o_x0_4
  generalize w4.heap.size = m4 at *
  refine (validG_impl h_x0 x0 w5 (o_x0_5.out.rd)).mono ?_
  rw [HV.out]
  rintro e w6 ⟨rfl, bel6⟩
  have s6 := bel6.size
  have B6 := B5.trans (bel6.mono B5.size)
  have c_a0_6_0 := (bel6.cell (p := ⟨w.heap.size, 0, none⟩) (by show w.heap.size < _; omega)).trans c_a0_5_0
  have c_a0_6_1 := (bel6.cell (p := ⟨w.heap.size, 1, none⟩) (by show w.heap.size < _; omega)).trans c_a0_5_1
  have c_x0_6_0 := (bel6.cell (p := ⟨m4, 0, none⟩) (by show m4 < _; omega)).trans c_x0_5_0
  have c_x0_6_1 := (bel6.cell (p := ⟨m4, 1, none⟩) (by show m4 < _; omega)).trans c_x0_5_1
  have o_x0_6 := Lib.hid (o_x0_5.out.below bel6)
  clear bel6 B5 o_x0_5 c_a0_5_0 c_a0_5_1 c_x0_5_0 c_x0_5_1
  generalize w5.heap.size = m5 at *
  have R_x := Lib.hid (o_x0_6.out.rd)
  have HBx := Lib.hid B6
  go_wp2
  go_region_with (first
    | (go_at_call 11; refine (toG_any h0 x0 w6.drew ((H0.out.below HBx.out).more HBx.out.size) SM0.out.q SM0.out.w SM0.out.l SM0.out.c).mono ?_; rintro e wt ⟨ht, rfl, ownt, belt'⟩; have belt := undrew belt'; have cxt0 := (belt.cell (p := ⟨m4, 0, none⟩) (by show m4 < _; omega)).trans c_x0_6_0; have cxt1 := (belt.cell (p := ⟨m4, 1, none⟩) (by show m4 < _; omega)).trans c_x0_6_1; have R7 := Lib.hid ((R_x.out.below belt).more belt.size); have S7 := Lib.hid ownt.rd; have B7 := Lib.hid belt; clear ownt belt belt')
    | (go_at_call 13; refine (eqG_any h_x0 _ x0 _ R7.out S7.out SM0.out.q SM0.out.w SM0.out.l SM0.out.c).mono ?_; rintro e wu ⟨rfl, belu⟩; have B8 := Lib.hid (B7.out.trans (belu.mono B7.out.size)); clear belu))
  all_goals have HB := Lib.hid (HBx.out.trans (B8.out.mono HBx.out.size))
  all_goals go_wp2
  all_goals go_ret
  all_goals exact ⟨rfl, HB.out⟩

theorem walk (h0 : GH) (x0 : Gr) (w : World) (r0 : RdG w w.heap.size h0 x0) (gr0 : GreatG x0)  :
    Calls Try.prog 3 #[.agg #[Value.int .i64 x0.n, Value.slice h0.A x0.e.length h0.c]] w fun e w' => e = .returned (.bool true) ∧ Below w.heap.size w w' := by
  rcases sz_casesG 1048576 (by decide) x0 with hb | ⟨L0, hs0, hL0, hL'0, sw0, st0, sl0, sc0⟩
  · exact walk_big0 h0 x0  w r0 gr0  hb
  ·
    have sm0 : SmallG x0 := ⟨sw0, st0, sl0, sc0⟩
    exact walk_mid h0 x0 L0 w r0 hs0 hL0 hL'0 sm0 


set_option maxRecDepth 100000 in
/-- What the walk gives, for all arguments and every world that holds the tables. -/
theorem contract (H : Type) (enc : TypeId × Value → H) (W : World) (base : Nat) (args : Array Value) (ds gs : List (DataW H)) (before : List MemPlace)
    (hval : ∀ (j : Nat) t v, Try.f3.params[j]? = some t → args[j]? = some v → Value.okWide Try.prog W .any base t v)
    (hW : DataW.Whole enc Try.prog Try.f3.params.toList Rows.fnExactValidPairedGraphSpec.vars false W args.toList ds gs before) (_hL : laidMetH Try.prog Rows.fnExactValidPairedGraphRow.laid W) (_hS : W.ShapedOpen Try.prog) :
    Calls Try.prog 3 args W fun e W' => ∃ v, e = .returned v ∧ Rows.fnExactValidPairedGraphSpec.post enc Try.prog Try.f3 false true false false W args v W' := by
  have hW' := hW
  obtain ⟨p, q, hA0, hV, rfl, hfz, hnd⟩ := hW
  have hA : DataW.TrodAll enc Try.prog W 0 (fun _ => true) true Try.f3.params.toList args.toList ds p := hA0
  rw [Try.params3] at hA hval
  obtain ⟨v0, vs0, d0, ds0, p0, q0, hargs, rfl, rfl, h0, r0⟩ := trodAll_cons hA
  obtain ⟨rfl, rfl, rfl⟩ := trodAll_nil r0
  obtain rfl : args = #[v0] := by cases args; simp_all
  have k0 := h0
  have lt0 : ∀ x ∈ p0, x.block < W.heap.size := by obtain ⟨m, hm⟩ := k0; exact DataW.trod_lt m _ _ _ hm
  obtain ⟨hh0, z0, rfl, w0, m0, l0⟩ := open_graph (hval 0 24 v0 rfl rfl) h0
  have hv1 := hV
  obtain ⟨rfl, rfl⟩ : gs = [] ∧ q = [] := by cases gs with | nil => exact ⟨rfl, hV⟩ | cons => exact hV.elim
  clear hA0
  refine (walk hh0 z0 W w0 ⟨m0.1, m0.2.1, m0.2.2, l0⟩ ).mono fun e W' ⟨he, bel⟩ => ?_
  subst he
  exact ⟨_, rfl, _, _, _, [], _, _, hW', trodAll_mk1 (shut_bool Try.underlying4 _),
    (trodAll_cons_mk (Below.trod laidOut (by kernel_rfl) (of_decide_eq_true (by kernel_rfl)) k0 bel lt0) trodAll_mk0),
    vars_below bel (readable_all _ (by kernel_rfl)) hv1, bel.frame _, fun h => by cases h⟩

theorem laid_met (os : Os) : laidMet Try.prog Rows.fnExactValidPairedGraphRow.laid ((World.laidAll Try.prog os Rows.fnExactValidPairedGraphRow.laid).forCall (fun _ _ => 0) ⟨#[], #[.agg #[.int .i64 0, .slice none 0 0]], []⟩).memory :=
  laidMet_laidAll _ (by kernel_rfl) (by kernel_rfl)
theorem reads (os : Os) {H : Type} (enc : TypeId × Value → H) : ∃ x, DataW.whole enc Try.prog ((World.laidAll Try.prog os Rows.fnExactValidPairedGraphRow.laid).forCall (fun _ _ => 0) ⟨#[], #[.agg #[.int .i64 0, .slice none 0 0]], []⟩).memory Try.f3.params.toList Rows.fnExactValidPairedGraphSpec.vars false (#[.agg #[.int .i64 0, .slice none 0 0]] : Array Value).toList 8 = some x :=
  Option.isSome_iff_exists.1 (by kernel_rfl)

set_option maxRecDepth 100000 in
theorem lifted (os : Os) (started : os.Started) (H : Type) (enc : TypeId × Value → H) (F : Stop.Interp) :
    ReturnsInHanded {} Try.checked os 3 .any ((OpenSpec.ofChange Rows.fnExactValidPairedGraphSpec).preRow enc Try.prog Try.f3 Rows.fnExactValidPairedGraphRow.domain false Rows.fnExactValidPairedGraphRow.laid) (((OpenSpec.ofChange Rows.fnExactValidPairedGraphSpec).at F).post enc Try.prog Try.f3 false true false false) := by
  obtain ⟨places, hx⟩ := reads os enc
  refine returnsInHanded_of_row (C := Try.checked) (s := OpenSpec.ofChange Rows.fnExactValidPairedGraphSpec) own started (by kernel_rfl) Try.func3
    (witness_row_sh (enc := enc) (C := Try.checked) false (World.laidAll Try.prog os Rows.fnExactValidPairedGraphRow.laid) #[.agg #[.int .i64 0, .slice none 0 0]] (World.laidAll_os _ _ _) (World.shaped_of_ZipB (by kernel_rfl) (by kernel_rfl)) (by kernel_rfl)
      (OpenSpec.preRow_of_cond 8 hx rfl (fun k hk => by cases hk) (by kernel_rfl) (laid_met os))) ?_
  intro W base args ds gs before hval hW _ _ _ hL hS _
  exact contract H enc W base args ds gs before hval hW hL hS

theorem said : Rows.FnExactValidPairedGraphSaid :=
  OpenClaim.holds_of_cond 3 Try.f3 rfl rfl rfl rfl rfl rfl rfl ⟨rfl, rfl, rfl, rfl, rfl⟩ rfl rfl rfl rfl rfl (by kernel_rfl) Try.func3 (by kernel_rfl)
    (of_decide_eq_true (by kernel_rfl)) (by unfold Func.isWrapper; first | (rw [if_pos (by decide +kernel)]; kernel_rfl) | (rw [if_neg (by decide +kernel)]; exact ⟨rfl, rfl⟩))
    (fun os started H enc _ F => by rw [OpenClaim.pre_eq_preRow]; exact lifted os started H enc F)

end Go.Proofs.Ytlcapifgpcimpaa.fnExactValidPairedGraph
