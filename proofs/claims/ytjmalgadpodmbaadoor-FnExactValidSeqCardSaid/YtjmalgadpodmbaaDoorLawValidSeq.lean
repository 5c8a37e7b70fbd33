/- Proved: for all arguments the law that ValidSeq answers as its model, leaves its argument and shares no memory answers true and leaves its arguments as they were (FnExactValidSeq). Conditions: the row's own: the listed tables read as the program's text lays them, which the card ties to that text. -/
import Derived.Test.YtjmalgadpodmbaaDoorFrame
import Derived.Test.YtjmalgadpodmbaaDoorFrameQ
namespace Go.Proofs.YtjmalgadpodmbaaDoor.fnExactValidSeq
open Go.ChangeShapes Go.WideShapes Go.ChangeAt Go.RowKit

theorem walk_big (A : Option Addr) (n c : Nat) (qs : List (List Int)) (w : World) (h : RdQ w w.heap.size A n qs) (hm : n ≤ maxLen) (hq : ∀ q ∈ qs, q.length ≤ maxLen) (hb : szR 1048576 (n + total qs) = -1) :
    Calls Tryd.prog 4 #[.agg #[.slice A n c]] w fun e w' => e = .returned (.bool true) ∧ Below w.heap.size w w' := by
  obtain ⟨w0, hw0⟩ : ∃ w0, w0 = w.alloc (.cells #[Value.slice A n c] 34) := ⟨_, rfl⟩
  have B0 : Below w.heap.size w w0 := by rw [hw0]; exact box_below _ _ _
  have HS := Lib.hid (szSeq_any A n c qs 1048576 w0 ((h.below B0).more B0.size) hq hm (by decide) (by decide))
  rw [hb] at HS
  have HB0 := Lib.hid B0
  clear h hq B0
  go_enter Tryd.func4, Tryd.ntmps4
  go_wp2_with (fail)
  rw [← hw0]
  refine HS.out.mono ?_
  rintro e w1 ⟨rfl, bel1⟩
  have HB := Lib.hid (HB0.out.trans (bel1.mono HB0.out.size))
  clear bel1
  go_wp2
  go_ret
  exact ⟨rfl, HB.out⟩

set_option maxHeartbeats 4000000 in
theorem walk_mid (A : Option Addr) (n c : Nat) (qs : List (List Int)) (w : World) (h : RdQ w w.heap.size A n qs) (hq : ∀ q ∈ qs, q.length ≤ 1048576) (hn : n ≤ 1048576) (ht : Arit w) (hs : szR 1048576 (n + total qs) = 1048576 - (n + total qs : Nat)) (hp : (0 : Int) ≤ 1048576 - (n + total qs : Nat)) :
    Calls Tryd.prog 4 #[.agg #[.slice A n c]] w fun e w' => e = .returned (.bool true) ∧ Below w.heap.size w w' := by
  have hqm : ∀ q ∈ qs, q.length ≤ maxLen := fun q hq' => Nat.le_trans (hq q hq') (by decide)
  have hnm : n ≤ maxLen := Nat.le_trans hn (by decide)
  have hl := h.len
  obtain ⟨w0, hw0⟩ : ∃ w0, w0 = w.alloc (.cells #[Value.slice A n c] 34) := ⟨_, rfl⟩
  have B0 : Below w.heap.size w w0 := by rw [hw0]; exact box_below _ _ _
  have ca0 : w0.cell? ⟨w.heap.size, 0, none⟩ = some (.slice A n c) := by rw [hw0]; simp
  have la : w.heap.size < w0.heap.size := by rw [hw0]; simp
  have HS := Lib.hid (szSeq_any A n c qs 1048576 w0 ((h.below B0).more B0.size) hqm hnm (by decide) (by decide))
  rw [hs] at HS
  have hd : decide ((1048576 : Int) - (n + total qs : Nat) < 0) = false := decide_eq_false (by omega)
  generalize ((1048576 : Int) - (n + total qs : Nat)) = L at *
  have HQ := Lib.hid hq; have HQM := Lib.hid hqm
  clear hp hs hq hqm
  go_enter Tryd.func4, Tryd.ntmps4
  go_wp2_with (fail)
  rw [← hw0]
  clear hw0
  refine HS.out.mono ?_
  clear HS
  rintro e w1 ⟨rfl, bel1⟩
  have B1 := B0.trans (bel1.mono B0.size)
  have ca1 := (bel1.cell (p := ⟨w.heap.size, 0, none⟩) la).trans ca0
  have l1 := Nat.lt_of_lt_of_le la bel1.size
  clear ca0 la bel1 B0
  go_wp2_with (fail)
  refine (toSeq_any A n c qs w1 ((h.below B1).more B1.size) HQ.out hn).mono ?_
  rintro e w2 ⟨hs2, A2, rfl, own2, bel2⟩
  have B2 := B1.trans (bel2.mono B1.size)
  have ca2 := (bel2.cell (p := ⟨w.heap.size, 0, none⟩) l1).trans ca1
  have l2 := Nat.lt_of_lt_of_le l1 bel2.size
  have r2 := own2.rd hl
  clear ca1 l1 bel2 B1 own2
  go_wp2_with (fail)
  refine (sValidSeq_any A2 n n qs w2 r2 hn (Nat.le_refl _)).mono ?_
  rintro e w3 ⟨rfl, bel3⟩
  have B3 := B2.trans (bel3.mono B2.size)
  have ca3 := (bel3.cell (p := ⟨w.heap.size, 0, none⟩) l2).trans ca2
  have l3 := Nat.lt_of_lt_of_le l2 bel3.size
  clear ca2 l2 bel3 B2 r2
  go_wp2_with (fail)
  refine (toSeq_any A n c qs w3 ((h.below B3).more B3.size) HQ.out hn).mono ?_
  rintro e w4 ⟨hs4, A4, rfl, own4, bel4⟩
  have B4 := B3.trans (bel4.mono B3.size)
  have ca4 := (bel4.cell (p := ⟨w.heap.size, 0, none⟩) l3).trans ca3
  have l4 := Nat.lt_of_lt_of_le l3 bel4.size
  clear ca3 l3 bel4 B3
  go_wp2_with (fail)
  obtain ⟨w5, hw5⟩ : ∃ w5, w5 = w4.alloc (.cells #[Value.slice A4 n n] 26) := ⟨_, rfl⟩
  have bel5 : Below w4.heap.size w4 w5 := by rw [hw5]; exact box_below _ _ _
  have cx5 : w5.cell? ⟨w4.heap.size, 0, none⟩ = some (.slice A4 n n) := by rw [hw5]; simp
  have lx5 : w4.heap.size < w5.heap.size := by rw [hw5]; simp
  rw [← hw5]
  clear hw5
  have B5 := B4.trans (bel5.mono B4.size)
  have ca5 := (bel5.cell (p := ⟨w.heap.size, 0, none⟩) l4).trans ca4
  have l5 := Nat.lt_of_lt_of_le l4 bel5.size
  have r5 := ((own4.rd hl).below bel5).more bel5.size
  clear ca4 bel5 B4 own4
  generalize w4.heap.size = bx at *
  refine (validSeq_impl A4 n n qs w5 r5 hnm (ht.below B5 ht.lt)).mono ?_
  rintro e w6 ⟨rfl, bel6⟩
  have B6 := B5.trans (bel6.mono B5.size)
  have ca6 := (bel6.cell (p := ⟨w.heap.size, 0, none⟩) l5).trans ca5
  have cx6 := (bel6.cell (p := ⟨bx, 0, none⟩) lx5).trans cx5
  have l6 := Nat.lt_of_lt_of_le l5 bel6.size
  have lx6 := Nat.lt_of_lt_of_le lx5 bel6.size
  have r6 := (r5.below bel6).more bel6.size
  have h6 := Lib.hid ((h.below B6).more B6.size)
  have hvv : (validQ qs != validQ qs) = false := by simp
  generalize validQ qs = V at *
  have R6 := Lib.hid r6
  have HB6 := Lib.hid B6
  clear ca5 l5 bel6 B5 r5 r6 cx5 lx5 hs2 hs4 ht h B6
  go_wp2
  go_region_with (first
    | (go_at_call 25; go_loud (refine (toSeq_any A n c qs w6.drew h6.out HQ.out hn).mono ?_; rintro e w7 ⟨hs7, A7, rfl, own7, bel7'⟩; have bel7 := undrew bel7'; have cx7 := (bel7.cell (p := ⟨bx, 0, none⟩) lx6).trans cx6; have R7 := Lib.hid ((R6.out.below bel7).more bel7.size); have S7 := Lib.hid (own7.rd hl); have B7 := Lib.hid (HB6.out.trans (bel7.mono HB6.out.size)); clear own7 bel7 bel7'))
    | (go_at_call 27; refine (eqSeq_any A4 A7 n n n n qs qs _ R7.out S7.out hn hn HQ.out HQ.out).mono ?_; rw [decide_eq_true (rfl : qs = qs)]; rintro e w8 ⟨rfl, bel8⟩; have HB := Lib.hid (B7.out.trans (bel8.mono B7.out.size)); clear bel8))
  all_goals go_wp2
  all_goals go_ret
  all_goals exact ⟨rfl, HB.out⟩

theorem walk (A : Option Addr) (n c : Nat) (qs : List (List Int)) (w : World) (h : RdQ w w.heap.size A n qs) (_hc : n ≤ c) (hm : n ≤ maxLen) (hq : ∀ q ∈ qs, q.length ≤ maxLen) (_hw : ∀ q ∈ qs, ∀ z ∈ q, (Lit.int .i64 z).wf = true) (ht : Arit w) :
    Calls Tryd.prog 4 #[.agg #[.slice A n c]] w fun e w' => e = .returned (.bool true) ∧ Below w.heap.size w w' := by
  rcases sz_cases n qs with hb | ⟨hs, hp, hn, hq'⟩
  · exact walk_big A n c qs w h hm hq hb
  · exact walk_mid A n c qs w h hq' hn ht hs hp

set_option maxRecDepth 100000 in
/-- What the walk gives, for all arguments and every world that holds the tables. -/
theorem contract (H : Type) (enc : TypeId × Value → H) (W : World) (base : Nat) (args : Array Value) (ds gs : List (DataW H)) (before : List MemPlace)
    (hval : ∀ (j : Nat) t v, Tryd.f4.params[j]? = some t → args[j]? = some v → Value.okWide Tryd.prog W .any base t v)
    (hW : DataW.Whole enc Tryd.prog Tryd.f4.params.toList Rows.fnExactValidSeqSpec.vars false W args.toList ds gs before) (hL : laidMetH Tryd.prog Rows.fnExactValidSeqRow.laid W) :
    Calls Tryd.prog 4 args W fun e W' => ∃ v, e = .returned v ∧ Rows.fnExactValidSeqSpec.post enc Tryd.prog Tryd.f4 false true false false W args v W' := by
  have hW' := hW
  obtain ⟨p, q, hA0, hV, rfl, hfz, hnd⟩ := hW
  have hA : DataW.TrodAll enc Tryd.prog W 0 (fun _ => true) true Tryd.f4.params.toList args.toList ds p := hA0
  rw [Tryd.params4] at hA hval
  obtain ⟨v0, vs0, d0, ds0, p0, q0, hargs, rfl, rfl, h0, r0⟩ := trodAll_cons hA
  obtain ⟨rfl, rfl, rfl⟩ := trodAll_nil r0
  obtain rfl : args = #[v0] := by cases args; simp_all
  have k0 := h0
  have lt0 : ∀ x ∈ p0, x.block < W.heap.size := by obtain ⟨m, hm⟩ := k0; exact DataW.trod_lt m _ _ _ hm
  obtain ⟨a0, len0, cap0, z0, rfl, w0, c0, m0, l0, b0⟩ := open_seq (hval 0 34 v0 rfl rfl) h0
  have ht : Arit W := arit_of hL
  have hv1 := hV
  obtain ⟨g, t, cs, fuel, d, p', rfl, hg, hty, hvar, hd, rfl⟩ := trodVars_one hV
  clear hA0
  refine (walk a0 len0 cap0 z0 W w0 c0 m0 l0 b0 ht).mono fun e W' ⟨he, bel⟩ => ?_
  subst he
  exact ⟨_, rfl, _, _, _, [], _, _, hW', trodAll_mk1 (shut_bool Tryd.underlying4 _),
    (trodAll_cons_mk (Below.trod laidOut (by kernel_rfl) (of_decide_eq_true (by kernel_rfl)) k0 bel lt0) trodAll_mk0),
    vars_below bel (readable_all _ (by kernel_rfl)) hv1, bel.frame _, fun h => by cases h⟩

theorem laid_met (os : Os) : laidMet Tryd.prog Rows.fnExactValidSeqRow.laid ((laidWorld os).forCall (fun _ _ => 0) ⟨#[], #[.agg #[.slice none 0 0]], []⟩).memory :=
  laidMet_of_run' 8 (by kernel_rfl) (by kernel_rfl)
theorem reads (os : Os) {H : Type} (enc : TypeId × Value → H) : ∃ x, DataW.whole enc Tryd.prog ((laidWorld os).forCall (fun _ _ => 0) ⟨#[], #[.agg #[.slice none 0 0]], []⟩).memory Tryd.f4.params.toList Rows.fnExactValidSeqSpec.vars false (#[.agg #[.slice none 0 0]] : Array Value).toList 8 = some x :=
  Option.isSome_iff_exists.1 (by kernel_rfl)

set_option maxRecDepth 100000 in
theorem lifted (os : Os) (started : os.Started) (H : Type) (enc : TypeId × Value → H) (F : Stop.Interp) :
    ReturnsInHanded {} Tryd.checked os 4 .any ((OpenSpec.ofChange Rows.fnExactValidSeqSpec).preRow enc Tryd.prog Tryd.f4 Rows.fnExactValidSeqRow.domain false Rows.fnExactValidSeqRow.laid) (((OpenSpec.ofChange Rows.fnExactValidSeqSpec).at F).post enc Tryd.prog Tryd.f4 false true false false) := by
  obtain ⟨places, hx⟩ := reads os enc
  refine returnsInHanded_of_row (C := Tryd.checked) (s := OpenSpec.ofChange Rows.fnExactValidSeqSpec) own started (by kernel_rfl) Tryd.func4
    (witness_row_at (enc := enc) (C := Tryd.checked) false (laidWorld os) #[.agg #[.slice none 0 0]] rfl (by kernel_rfl) (by kernel_rfl) (by kernel_rfl)
      (OpenSpec.preRow_of_cond 8 hx rfl (fun k hk => by cases hk) (by kernel_rfl) (laid_met os))) ?_
  intro W base args ds gs before hval hW _ _ _ hL _ _
  exact contract H enc W base args ds gs before hval hW hL

theorem said : Rows.FnExactValidSeqSaid :=
  OpenClaim.holds_of_cond 4 Tryd.f4 rfl rfl rfl rfl rfl rfl rfl ⟨rfl, rfl, rfl, rfl, rfl⟩ rfl rfl rfl rfl rfl (by kernel_rfl) Tryd.func4 (by kernel_rfl)
    (of_decide_eq_true (by kernel_rfl)) (by unfold Func.isWrapper; first | (rw [if_pos (by decide +kernel)]; kernel_rfl) | (rw [if_neg (by decide +kernel)]; exact ⟨rfl, rfl⟩))
    (fun os started H enc _ F => by rw [OpenClaim.pre_eq_preRow]; exact lifted os started H enc F)

theorem plain (f : FuncId) (fn : Func) (hf : Tryd.pinned.checked.prog.funcNamed "loop.example/g00872/laws.FnExactValidSeq" = some f) (hfn : Tryd.pinned.checked.prog.funcs[f]? = some fn) :
    Rows.fnExactValidSeqCard.stood.looks = Tryd.pinned.checked.prog.looks [] ∧ ∀ (j : Nat) t, fn.params[j]? = some t → Tryd.pinned.checked.prog.wantsStandIn t = false := by
  obtain rfl : f = 4 := Option.some.inj ((show Tryd.prog.funcNamed "loop.example/g00872/laws.FnExactValidSeq" = some 4 by kernel_rfl).symm.trans hf) |>.symm
  obtain rfl : fn = Tryd.f4 := (Option.some.inj (Tryd.func4.symm.trans hfn)).symm
  refine ⟨by kernel_rfl, fun j t ht => ?_⟩
  rw [Tryd.params4] at ht
  have hm : t ∈ [34] := by simpa using Array.mem_of_getElem? ht
  have hall : ([34].all fun u => !Tryd.prog.wantsStandIn u) = true := by kernel_rfl
  exact (show Tryd.prog.wantsStandIn t = false by simpa using List.all_eq_true.1 hall t hm)

/-- The statement. -/
theorem card : Rows.FnExactValidSeqCardSaid :=
  Claim7.holds_tied_plain_at .later [] _ _ _ _ said (fun _ h => by cases h) (by kernel_rfl) (fun _ h => by cases h) fnExactValidSeq_row_tie rfl ⟨rfl, rfl⟩ (by kernel_rfl) rfl plain (by kernel_rfl)
end Go.Proofs.YtjmalgadpodmbaaDoor.fnExactValidSeq
