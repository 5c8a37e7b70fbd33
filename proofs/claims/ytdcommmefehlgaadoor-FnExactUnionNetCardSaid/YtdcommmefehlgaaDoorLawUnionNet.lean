/- Proved: for all arguments the law that UnionNet answers as its model, leaves its arguments and shares no memory answers true and leaves its arguments as they were (FnExactUnionNet). Conditions: the row's own: the listed tables read as the program's text lays them, which the card ties to that text. -/
import Derived.Test.YtdcommmefehlgaaDoorQDual
import Derived.Test.YtdcommmefehlgaaDoorQNetW
import Derived.Test.YtdcommmefehlgaaDoorUnS
import Derived.Test.YtdcommmefehlgaaDoorUnP
import Derived.Test.YtdcommmefehlgaaDoorBaseB
namespace Go.Proofs.YtdcommmefehlgaaDoor.fnExactUnionNet
set_option linter.unusedSimpArgs false
set_option linter.unusedVariables false
open Go.ChangeShapes Go.WideShapes Go.ChangeAt Go.RowKit

set_option maxRecDepth 100000 in
theorem walk_big0 (h0 : NH) (x0 : Nt) (h1 : NH) (x1 : Nt) (w : World) (r0 : RdN w w.heap.size h0 x0) (gr0 : GreatN x0)  (hb : szR 1048576 (nsz x0) = -1) :
    Calls Tryd.prog 3 #[.agg #[Value.slice h0.A x0.w.length h0.c, Value.slice h0.L x0.l.length h0.d, Value.slice h0.C x0.c.length h0.e], .agg #[Value.slice h1.A x1.w.length h1.c, Value.slice h1.L x1.l.length h1.d, Value.slice h1.C x1.c.length h1.e]] w fun e w' => e = .returned (.bool true) ∧ Below w.heap.size w w' := by
  have HS0 := Lib.hid (fun w0 (B : Below w.heap.size w w0) => szN_any h0 x0 (1048576) w0 ((r0.below B).more B.size) gr0.q gr0.w gr0.l gr0.c (by decide) (by decide))
  rw [hb] at HS0
  clear hb r0 gr0
  obtain ⟨wp0, hw0⟩ : ∃ wp0, wp0 = w.alloc (.cells #[Value.slice h0.A x0.w.length h0.c, Value.slice h0.L x0.l.length h0.d, Value.slice h0.C x0.c.length h0.e] 26) := ⟨_, rfl⟩
  obtain ⟨bb0, hh0, sz0⟩ := box3_any w (Value.slice h0.A x0.w.length h0.c) (Value.slice h0.L x0.l.length h0.d) (Value.slice h0.C x0.c.length h0.e) 26
  rw [← hw0] at bb0 hh0 sz0
  obtain ⟨w0, hw1⟩ : ∃ w0, w0 = wp0.alloc (.cells #[Value.slice h1.A x1.w.length h1.c, Value.slice h1.L x1.l.length h1.d, Value.slice h1.C x1.c.length h1.e] 26) := ⟨_, rfl⟩
  obtain ⟨bb1, hh1, sz1⟩ := box3_any wp0 (Value.slice h1.A x1.w.length h1.c) (Value.slice h1.L x1.l.length h1.d) (Value.slice h1.C x1.c.length h1.e) 26
  rw [← hw1] at bb1 hh1 sz1
  have B0 : Below w.heap.size w w0 := (bb0.trans (bb1.mono bb0.size))
  obtain ⟨c_a0_0_0, c_a0_0_1, c_a0_0_2⟩ := three_cells ((bb1.block _ (by omega)).trans hh0)
  obtain ⟨c_a1_0_0, c_a1_0_1, c_a1_0_2⟩ := three_cells hh1
  have s0 : w.heap.size + 2 ≤ w0.heap.size := by omega
  clear bb0 hh0 bb1 hh1
  have e1 : wp0.heap.size = w.heap.size + 1 := by omega
  rw [e1] at c_a1_0_0 c_a1_0_1 c_a1_0_2
  clear sz0 sz1 e1
  go_enter Tryd.func3, Tryd.ntmps3
  go_wp2_with (fail)
  rw [← hw0, ← hw1]
  clear hw0 hw1
  refine (HS0.out w0 B0).mono ?_
  rintro e w1 ⟨rfl, bel1⟩
  have B1 := B0.trans (bel1.mono B0.size)
  have c_a0_1_0 := (bel1.cell (p := ⟨w.heap.size, 0, none⟩) (by show w.heap.size < _; omega)).trans c_a0_0_0
  have c_a0_1_1 := (bel1.cell (p := ⟨w.heap.size, 1, none⟩) (by show w.heap.size < _; omega)).trans c_a0_0_1
  have c_a0_1_2 := (bel1.cell (p := ⟨w.heap.size, 2, none⟩) (by show w.heap.size < _; omega)).trans c_a0_0_2
  have c_a1_1_0 := (bel1.cell (p := ⟨w.heap.size + 1, 0, none⟩) (by show w.heap.size + 1 < _; omega)).trans c_a1_0_0
  have c_a1_1_1 := (bel1.cell (p := ⟨w.heap.size + 1, 1, none⟩) (by show w.heap.size + 1 < _; omega)).trans c_a1_0_1
  have c_a1_1_2 := (bel1.cell (p := ⟨w.heap.size + 1, 2, none⟩) (by show w.heap.size + 1 < _; omega)).trans c_a1_0_2
  have s1 := bel1.size
  clear bel1 B0
  have HB := Lib.hid B1
  clear B1
  go_wp2
  go_ret
  exact ⟨rfl, HB.out⟩

set_option maxRecDepth 100000 in
theorem walk_big1 (h0 : NH) (x0 : Nt) (h1 : NH) (x1 : Nt) (L0 : Int) (w : World) (r0 : RdN w w.heap.size h0 x0) (r1 : RdN w w.heap.size h1 x1) (gr0 : GreatN x0) (gr1 : GreatN x1) (hs0 : szR 1048576 (nsz x0) = L0) (hL0 : 0 ≤ L0) (hL'0 : L0 ≤ 1048576) (sm0 : SmallN x0) (hb : szR L0 (nsz x1) = -1) :
    Calls Tryd.prog 3 #[.agg #[Value.slice h0.A x0.w.length h0.c, Value.slice h0.L x0.l.length h0.d, Value.slice h0.C x0.c.length h0.e], .agg #[Value.slice h1.A x1.w.length h1.c, Value.slice h1.L x1.l.length h1.d, Value.slice h1.C x1.c.length h1.e]] w fun e w' => e = .returned (.bool true) ∧ Below w.heap.size w w' := by
  have HS0 := Lib.hid (fun w0 (B : Below w.heap.size w w0) => szN_any h0 x0 (1048576) w0 ((r0.below B).more B.size) gr0.q gr0.w gr0.l gr0.c (by decide) (by decide))
  rw [hs0] at HS0
  have hd0 : decide (L0 < 0) = false := decide_eq_false (by omega)
  have HS1 := Lib.hid (fun w0 (B : Below w.heap.size w w0) => szN_any h1 x1 (L0) w0 ((r1.below B).more B.size) gr1.q gr1.w gr1.l gr1.c hL0 (by omega))
  rw [hb] at HS1
  clear hb r0 gr0 r1 gr1 hs0 sm0
  obtain ⟨wp0, hw0⟩ : ∃ wp0, wp0 = w.alloc (.cells #[Value.slice h0.A x0.w.length h0.c, Value.slice h0.L x0.l.length h0.d, Value.slice h0.C x0.c.length h0.e] 26) := ⟨_, rfl⟩
  obtain ⟨bb0, hh0, sz0⟩ := box3_any w (Value.slice h0.A x0.w.length h0.c) (Value.slice h0.L x0.l.length h0.d) (Value.slice h0.C x0.c.length h0.e) 26
  rw [← hw0] at bb0 hh0 sz0
  obtain ⟨w0, hw1⟩ : ∃ w0, w0 = wp0.alloc (.cells #[Value.slice h1.A x1.w.length h1.c, Value.slice h1.L x1.l.length h1.d, Value.slice h1.C x1.c.length h1.e] 26) := ⟨_, rfl⟩
  obtain ⟨bb1, hh1, sz1⟩ := box3_any wp0 (Value.slice h1.A x1.w.length h1.c) (Value.slice h1.L x1.l.length h1.d) (Value.slice h1.C x1.c.length h1.e) 26
  rw [← hw1] at bb1 hh1 sz1
  have B0 : Below w.heap.size w w0 := (bb0.trans (bb1.mono bb0.size))
  obtain ⟨c_a0_0_0, c_a0_0_1, c_a0_0_2⟩ := three_cells ((bb1.block _ (by omega)).trans hh0)
  obtain ⟨c_a1_0_0, c_a1_0_1, c_a1_0_2⟩ := three_cells hh1
  have s0 : w.heap.size + 2 ≤ w0.heap.size := by omega
  clear bb0 hh0 bb1 hh1
  have e1 : wp0.heap.size = w.heap.size + 1 := by omega
  rw [e1] at c_a1_0_0 c_a1_0_1 c_a1_0_2
  clear sz0 sz1 e1
  go_enter Tryd.func3, Tryd.ntmps3
  go_wp2_with (fail)
  rw [← hw0, ← hw1]
  clear hw0 hw1
  refine (HS0.out w0 B0).mono ?_
  rintro e w1 ⟨rfl, bel1⟩
  have B1 := B0.trans (bel1.mono B0.size)
  have c_a0_1_0 := (bel1.cell (p := ⟨w.heap.size, 0, none⟩) (by show w.heap.size < _; omega)).trans c_a0_0_0
  have c_a0_1_1 := (bel1.cell (p := ⟨w.heap.size, 1, none⟩) (by show w.heap.size < _; omega)).trans c_a0_0_1
  have c_a0_1_2 := (bel1.cell (p := ⟨w.heap.size, 2, none⟩) (by show w.heap.size < _; omega)).trans c_a0_0_2
  have c_a1_1_0 := (bel1.cell (p := ⟨w.heap.size + 1, 0, none⟩) (by show w.heap.size + 1 < _; omega)).trans c_a1_0_0
  have c_a1_1_1 := (bel1.cell (p := ⟨w.heap.size + 1, 1, none⟩) (by show w.heap.size + 1 < _; omega)).trans c_a1_0_1
  have c_a1_1_2 := (bel1.cell (p := ⟨w.heap.size + 1, 2, none⟩) (by show w.heap.size + 1 < _; omega)).trans c_a1_0_2
  have s1 := bel1.size
  clear bel1 B0
  go_wp2_with (fail)
  refine (HS1.out w1 B1).mono ?_
  rintro e w2 ⟨rfl, bel2⟩
  have B2 := B1.trans (bel2.mono B1.size)
  have c_a0_2_0 := (bel2.cell (p := ⟨w.heap.size, 0, none⟩) (by show w.heap.size < _; omega)).trans c_a0_1_0
  have c_a0_2_1 := (bel2.cell (p := ⟨w.heap.size, 1, none⟩) (by show w.heap.size < _; omega)).trans c_a0_1_1
  have c_a0_2_2 := (bel2.cell (p := ⟨w.heap.size, 2, none⟩) (by show w.heap.size < _; omega)).trans c_a0_1_2
  have c_a1_2_0 := (bel2.cell (p := ⟨w.heap.size + 1, 0, none⟩) (by show w.heap.size + 1 < _; omega)).trans c_a1_1_0
  have c_a1_2_1 := (bel2.cell (p := ⟨w.heap.size + 1, 1, none⟩) (by show w.heap.size + 1 < _; omega)).trans c_a1_1_1
  have c_a1_2_2 := (bel2.cell (p := ⟨w.heap.size + 1, 2, none⟩) (by show w.heap.size + 1 < _; omega)).trans c_a1_1_2
  have s2 := bel2.size
  clear bel2 B1
  have HB := Lib.hid B2
  clear B2
  go_wp2
  go_ret
  exact ⟨rfl, HB.out⟩

set_option maxRecDepth 100000 in
set_option maxHeartbeats 16000000 in
theorem walk_mid (h0 : NH) (x0 : Nt) (h1 : NH) (x1 : Nt) (L0 : Int) (L1 : Int) (w : World) (r0 : RdN w w.heap.size h0 x0) (r1 : RdN w w.heap.size h1 x1) (hs0 : szR 1048576 (nsz x0) = L0) (hL0 : 0 ≤ L0) (hL'0 : L0 ≤ 1048576) (sm0 : SmallN x0) (hs1 : szR L0 (nsz x1) = L1) (hL1 : 0 ≤ L1) (hL'1 : L1 ≤ 1048576) (sm1 : SmallN x1) (ht : Arit w) (hu : Dual w) :
    Calls Tryd.prog 3 #[.agg #[Value.slice h0.A x0.w.length h0.c, Value.slice h0.L x0.l.length h0.d, Value.slice h0.C x0.c.length h0.e], .agg #[Value.slice h1.A x1.w.length h1.c, Value.slice h1.L x1.l.length h1.d, Value.slice h1.C x1.c.length h1.e]] w fun e w' => e = .returned (.bool true) ∧ Below w.heap.size w w' := by
  have gr0 := sm0.great
  have gr1 := sm1.great
  have smV : SmallN (unV x0 x1) := unV_small x0 x1
  generalize hV : unV x0 x1 = V at smV
  have HV := Lib.hid hV; clear hV
  have ntV := smV.tot
  generalize hVb : unB x0 x1 = Vb
  have HVb := Lib.hid hVb; clear hVb
  have hbb : (Vb != Vb) = false := by simp
  have HS0 := Lib.hid (fun w0 (B : Below w.heap.size w w0) => szN_any h0 x0 (1048576) w0 ((r0.below B).more B.size) gr0.q gr0.w gr0.l gr0.c (by decide) (by decide))
  rw [hs0] at HS0
  have hd0 : decide (L0 < 0) = false := decide_eq_false (by omega)
  have HS1 := Lib.hid (fun w0 (B : Below w.heap.size w w0) => szN_any h1 x1 (L0) w0 ((r1.below B).more B.size) gr1.q gr1.w gr1.l gr1.c hL0 (by omega))
  rw [hs1] at HS1
  have hd1 : decide (L1 < 0) = false := decide_eq_false (by omega)
  have H0 := Lib.hid r0
  have nt0 := sm0.tot
  have SM0 := Lib.hid sm0
  have H1 := Lib.hid r1
  have nt1 := sm1.tot
  have SM1 := Lib.hid sm1
  have SMV := Lib.hid smV
  have HT := Lib.hid ht
  have HU := Lib.hid hu
  clear r0 r1 hs0 gr0 sm0 hs1 gr1 sm1 ht hu smV
  obtain ⟨wp0, hw0⟩ : ∃ wp0, wp0 = w.alloc (.cells #[Value.slice h0.A x0.w.length h0.c, Value.slice h0.L x0.l.length h0.d, Value.slice h0.C x0.c.length h0.e] 26) := ⟨_, rfl⟩
  obtain ⟨bb0, hh0, sz0⟩ := box3_any w (Value.slice h0.A x0.w.length h0.c) (Value.slice h0.L x0.l.length h0.d) (Value.slice h0.C x0.c.length h0.e) 26
  rw [← hw0] at bb0 hh0 sz0
  obtain ⟨w0, hw1⟩ : ∃ w0, w0 = wp0.alloc (.cells #[Value.slice h1.A x1.w.length h1.c, Value.slice h1.L x1.l.length h1.d, Value.slice h1.C x1.c.length h1.e] 26) := ⟨_, rfl⟩
  obtain ⟨bb1, hh1, sz1⟩ := box3_any wp0 (Value.slice h1.A x1.w.length h1.c) (Value.slice h1.L x1.l.length h1.d) (Value.slice h1.C x1.c.length h1.e) 26
  rw [← hw1] at bb1 hh1 sz1
  have B0 : Below w.heap.size w w0 := (bb0.trans (bb1.mono bb0.size))
  obtain ⟨c_a0_0_0, c_a0_0_1, c_a0_0_2⟩ := three_cells ((bb1.block _ (by omega)).trans hh0)
  obtain ⟨c_a1_0_0, c_a1_0_1, c_a1_0_2⟩ := three_cells hh1
  have s0 : w.heap.size + 2 ≤ w0.heap.size := by omega
  clear bb0 hh0 bb1 hh1
  have e1 : wp0.heap.size = w.heap.size + 1 := by omega
  rw [e1] at c_a1_0_0 c_a1_0_1 c_a1_0_2
  clear sz0 sz1 e1
  go_enter Tryd.func3, Tryd.ntmps3
  go_wp2_with (fail)
  rw [← hw0, ← hw1]
  clear hw0 hw1
  refine (HS0.out w0 B0).mono ?_
  rintro e w1 ⟨rfl, bel1⟩
  have s1 := bel1.size
  have B1 := B0.trans (bel1.mono B0.size)
  have c_a0_1_0 := (bel1.cell (p := ⟨w.heap.size, 0, none⟩) (by show w.heap.size < _; omega)).trans c_a0_0_0
  have c_a0_1_1 := (bel1.cell (p := ⟨w.heap.size, 1, none⟩) (by show w.heap.size < _; omega)).trans c_a0_0_1
  have c_a0_1_2 := (bel1.cell (p := ⟨w.heap.size, 2, none⟩) (by show w.heap.size < _; omega)).trans c_a0_0_2
  have c_a1_1_0 := (bel1.cell (p := ⟨w.heap.size + 1, 0, none⟩) (by show w.heap.size + 1 < _; omega)).trans c_a1_0_0
  have c_a1_1_1 := (bel1.cell (p := ⟨w.heap.size + 1, 1, none⟩) (by show w.heap.size + 1 < _; omega)).trans c_a1_0_1
  have c_a1_1_2 := (bel1.cell (p := ⟨w.heap.size + 1, 2, none⟩) (by show w.heap.size + 1 < _; omega)).trans c_a1_0_2
  clear bel1 B0 c_a0_0_0 c_a0_0_1 c_a0_0_2 c_a1_0_0 c_a1_0_1 c_a1_0_2
  generalize w0.heap.size = m0 at *
  go_wp2_with (fail)
  refine (HS1.out w1 B1).mono ?_
  rintro e w2 ⟨rfl, bel2⟩
  have s2 := bel2.size
  have B2 := B1.trans (bel2.mono B1.size)
  have c_a0_2_0 := (bel2.cell (p := ⟨w.heap.size, 0, none⟩) (by show w.heap.size < _; omega)).trans c_a0_1_0
  have c_a0_2_1 := (bel2.cell (p := ⟨w.heap.size, 1, none⟩) (by show w.heap.size < _; omega)).trans c_a0_1_1
  have c_a0_2_2 := (bel2.cell (p := ⟨w.heap.size, 2, none⟩) (by show w.heap.size < _; omega)).trans c_a0_1_2
  have c_a1_2_0 := (bel2.cell (p := ⟨w.heap.size + 1, 0, none⟩) (by show w.heap.size + 1 < _; omega)).trans c_a1_1_0
  have c_a1_2_1 := (bel2.cell (p := ⟨w.heap.size + 1, 1, none⟩) (by show w.heap.size + 1 < _; omega)).trans c_a1_1_1
  have c_a1_2_2 := (bel2.cell (p := ⟨w.heap.size + 1, 2, none⟩) (by show w.heap.size + 1 < _; omega)).trans c_a1_1_2
  clear bel2 B1 c_a0_1_0 c_a0_1_1 c_a0_1_2 c_a1_1_0 c_a1_1_1 c_a1_1_2
  generalize w1.heap.size = m1 at *
  have HBi := Lib.hid B2
  have HSX : Hid (∀ wx : World, Below w2.heap.size w2 wx → wx.cell? ⟨w.heap.size, 0, none⟩ = some (Value.slice h0.A x0.w.length h0.c) ∧ wx.cell? ⟨w.heap.size, 1, none⟩ = some (Value.slice h0.L x0.l.length h0.d) ∧ wx.cell? ⟨w.heap.size, 2, none⟩ = some (Value.slice h0.C x0.c.length h0.e) ∧ wx.cell? ⟨w.heap.size + 1, 0, none⟩ = some (Value.slice h1.A x1.w.length h1.c) ∧ wx.cell? ⟨w.heap.size + 1, 1, none⟩ = some (Value.slice h1.L x1.l.length h1.d) ∧ wx.cell? ⟨w.heap.size + 1, 2, none⟩ = some (Value.slice h1.C x1.c.length h1.e)) := Lib.hid fun wx hx => ⟨(hx.cell (p := ⟨w.heap.size, 0, none⟩) (by show w.heap.size < _; omega)).trans c_a0_2_0, (hx.cell (p := ⟨w.heap.size, 1, none⟩) (by show w.heap.size < _; omega)).trans c_a0_2_1, (hx.cell (p := ⟨w.heap.size, 2, none⟩) (by show w.heap.size < _; omega)).trans c_a0_2_2, (hx.cell (p := ⟨w.heap.size + 1, 0, none⟩) (by show w.heap.size + 1 < _; omega)).trans c_a1_2_0, (hx.cell (p := ⟨w.heap.size + 1, 1, none⟩) (by show w.heap.size + 1 < _; omega)).trans c_a1_2_1, (hx.cell (p := ⟨w.heap.size + 1, 2, none⟩) (by show w.heap.size + 1 < _; omega)).trans c_a1_2_2⟩
  go_upto_region 8 with (fail)
  go_cut [6, 7] (fun p f wx => ∃ (bv : Nat) (hv : NH), p = .pointer (some ⟨bv, 0, none⟩) ∧ f = .bool Vb ∧ wx.heap[bv]? = some (.cells #[Value.slice hv.A V.w.length hv.c, Value.slice hv.L V.l.length hv.d, Value.slice hv.C V.c.length hv.e] 30 (0, 0)) ∧ OwnN wx w2.heap.size wx.heap.size hv V ∧ Below w2.heap.size w2 wx)
  case first =>
    have FB_0 := Lib.hid (Below.refl w2.heap.size w2)
    refine wp_region_held_drew (S := fun wx => wx.cell? ⟨w.heap.size, 0, none⟩ = some (Value.slice h0.A x0.w.length h0.c) ∧ wx.cell? ⟨w.heap.size, 1, none⟩ = some (Value.slice h0.L x0.l.length h0.d) ∧ wx.cell? ⟨w.heap.size, 2, none⟩ = some (Value.slice h0.C x0.c.length h0.e) ∧ wx.cell? ⟨w.heap.size + 1, 0, none⟩ = some (Value.slice h1.A x1.w.length h1.c) ∧ wx.cell? ⟨w.heap.size + 1, 1, none⟩ = some (Value.slice h1.L x1.l.length h1.d) ∧ wx.cell? ⟨w.heap.size + 1, 2, none⟩ = some (Value.slice h1.C x1.c.length h1.e)) (by kernel_rfl) (HSX.out _ (Below.refl _ _).drew) (fun hHeld => ?_)
    obtain ⟨wq1, hwq1⟩ : ∃ w', w' = w2.drew := ⟨_, rfl⟩
    rw [← hwq1] at hHeld ⊢
    have bq1 : Below w2.heap.size w2 wq1 := by rw [hwq1]; exact (Below.refl _ _).drew
    clear hwq1
    have FB_q2 := Lib.hid ((FB_0.out).trans ((bq1).mono (FB_0.out).size))
    clear FB_0
    refine wpAnyH_take (i := 0) (v := ?vq3) rfl (by kernel_rfl) (by kernel_rfl) (by kernel_rfl) (fun _ _ _ h => h) (Or.inl ⟨by rfl, ?yq3⟩) (by assumption) ?_
    case yq3 => (intro w hSw; (try dsimp only at hSw); go_simp; all_goals (with_reducible rfl))
    (try simp only [Act.put, List.setIfInBounds_toArray, List.set_cons_zero, List.set_cons_succ, List.getElem_toArray, List.getElem_cons_succ, List.getElem_cons_zero])
    refine wpAnyH_take (i := 2) (v := ?vq4) rfl (by kernel_rfl) (by kernel_rfl) (by kernel_rfl) (fun _ _ _ h => h) (Or.inl ⟨by rfl, ?yq4⟩) (by assumption) ?_
    case yq4 => (intro w hSw; (try dsimp only at hSw); go_simp; all_goals (with_reducible rfl))
    (try simp only [Act.put, List.setIfInBounds_toArray, List.set_cons_zero, List.set_cons_succ, List.getElem_toArray, List.getElem_cons_succ, List.getElem_cons_zero])
    refine wpAnyH_ready (rs := [1, 8]) (by kernel_rfl) (by simp) ?_
    refine AllReadyH.cons rfl (fun K hK => ?_) ?_
    · go_simp
      refine (toN_any h0 x0 wq1 ((H0.out.below (HBi.out.trans (FB_q2.out.mono HBi.out.size))).more (HBi.out.trans (FB_q2.out.mono HBi.out.size)).size) SM0.out.q SM0.out.w SM0.out.l SM0.out.c).mono ?_
      rintro e wq5 ⟨hpq5, rfl, ownq5, belq5⟩
      dsimp only
      have FB_q6 := Lib.hid ((FB_q2.out).trans ((belq5).mono (FB_q2.out).size))
      clear FB_q2
      have FP0_q7 := Lib.hid ownq5
      clear ownq5 belq5
      refine hK.out _ _ (HSX.out _ FB_q6.out) (fun hHeld => ?_)
      clear hK K
      (try simp only [Act.put, List.setIfInBounds_toArray, List.set_cons_zero, List.set_cons_succ, List.getElem_toArray, List.getElem_cons_succ, List.getElem_cons_zero])
      refine wpAnyH_ready (rs := [3, 8]) (by kernel_rfl) (by simp) ?_
      refine AllReadyH.cons rfl (fun K hK => ?_) ?_
      · go_simp
        refine (toN_any h1 x1 wq5 ((H1.out.below (HBi.out.trans (FB_q6.out.mono HBi.out.size))).more (HBi.out.trans (FB_q6.out.mono HBi.out.size)).size) SM1.out.q SM1.out.w SM1.out.l SM1.out.c).mono ?_
        rintro e wq8 ⟨hpq8, rfl, ownq8, belq8⟩
        dsimp only
        have FB_q9 := Lib.hid ((FB_q6.out).trans ((belq8).mono (FB_q6.out).size))
        have FP0_q10 := Lib.hid ((FP0_q7.out).below (belq8))
        clear FB_q6 FP0_q7
        have FP1_q11 := Lib.hid ownq8
        clear ownq8 belq8
        refine hK.out _ _ (HSX.out _ FB_q9.out) (fun hHeld => ?_)
        clear hK K
        (try simp only [Act.put, List.setIfInBounds_toArray, List.set_cons_zero, List.set_cons_succ, List.getElem_toArray, List.getElem_cons_succ, List.getElem_cons_zero])
        refine wpAnyH_ready (rs := [4, 8]) (by kernel_rfl) (by simp) ?_
        refine AllReadyH.cons rfl (fun K hK => ?_) ?_
        · go_simp
          have hszq12 := FB_q9.out.size
          have hsp := sUnionNet_any hpq5 hpq8 x0 x1 wq8 FP0_q10.out.rd FP1_q11.out.rd SM0.out.w SM0.out.l SM0.out.c SM1.out.w SM1.out.l SM1.out.c
          rw [HV.out, HVb.out] at hsp
          refine (hsp).mono ?_
          rintro e wq12 ⟨hpq12, rfl, ownq12, belq12⟩
          dsimp only
          have FB_q13 := Lib.hid ((FB_q9.out).trans ((belq12).mono (FB_q9.out).size))
          have FP0_q14 := Lib.hid ((FP0_q10.out).below (belq12))
          have FP1_q15 := Lib.hid ((FP1_q11.out).below (belq12))
          clear FB_q9 FP0_q10 FP1_q11
          have FV_q16 := Lib.hid ownq12
          clear hsp ownq12 belq12
          refine hK.out _ _ (HSX.out _ FB_q13.out) (fun hHeld => ?_)
          clear hK K
          (try simp only [Act.put, List.setIfInBounds_toArray, List.set_cons_zero, List.set_cons_succ, List.getElem_toArray, List.getElem_cons_succ, List.getElem_cons_zero])
          refine wpAnyH_take (i := 5) (v := ?vq17) rfl (by kernel_rfl) (by kernel_rfl) (by kernel_rfl) (fun _ _ _ h => h) (Or.inl ⟨by rfl, ?yq17⟩) (by assumption) ?_
          case yq17 => (intro w hSw; (try dsimp only at hSw); go_simp; all_goals (with_reducible rfl))
          (try simp only [Act.put, List.setIfInBounds_toArray, List.set_cons_zero, List.set_cons_succ, List.getElem_toArray, List.getElem_cons_succ, List.getElem_cons_zero])
          refine wpAnyH_take (i := 6) (v := ?vq18) rfl (by kernel_rfl) (by kernel_rfl) (by kernel_rfl) (fun _ _ _ h => h) (Or.inl ⟨by rfl, ?yq18⟩) (by assumption) ?_
          case yq18 => (intro w hSw; (try dsimp only at hSw); go_simp; all_goals (with_reducible rfl))
          (try simp only [Act.put, List.setIfInBounds_toArray, List.set_cons_zero, List.set_cons_succ, List.getElem_toArray, List.getElem_cons_succ, List.getElem_cons_zero])
          refine wpAnyH_take (i := 7) (v := ?vq19) rfl (by kernel_rfl) (by kernel_rfl) (by kernel_rfl) (fun _ _ _ h => h) (Or.inl ⟨by rfl, ?yq19⟩) (by assumption) ?_
          case yq19 => (intro w hSw; (try dsimp only at hSw); go_simp; all_goals (with_reducible rfl))
          (try simp only [Act.put, List.setIfInBounds_toArray, List.set_cons_zero, List.set_cons_succ, List.getElem_toArray, List.getElem_cons_succ, List.getElem_cons_zero])
          refine wpAnyH_ready (rs := [8]) (by kernel_rfl) (by simp) ?_
          refine AllReadyH.cons rfl (fun K hK => ?_) ?_
          · go_simp
            obtain ⟨wq20, hwq20⟩ : ∃ w', w' = wq12.alloc (.cells #[.slice none 0 0, .slice none 0 0, .slice none 0 0] 30) := ⟨_, rfl⟩
            rw [← hwq20]
            have bq20 : Below wq12.heap.size wq12 wq20 := by rw [hwq20]; exact (Below.refl _ _).alloc (Nat.le_refl _) _
            have gq20 : wq20.heap[wq12.heap.size]? = some (.cells #[.slice none 0 0, .slice none 0 0, .slice none 0 0] 30 (0, 0)) := by rw [hwq20]; exact heap_alloc_new _ _
            clear hwq20
            have hgeq20 := FB_q13.out.size
            have FB_q22 := Lib.hid ((FB_q13.out).trans ((bq20).mono (FB_q13.out).size))
            have FP0_q23 := Lib.hid ((FP0_q14.out).below (bq20))
            have FP1_q24 := Lib.hid ((FP1_q15.out).below (bq20))
            have FV_q25 := Lib.hid ((FV_q16.out).below (bq20))
            clear FB_q13 FP0_q14 FP1_q15 FV_q16
            obtain ⟨gnq21, hgq21⟩ : ∃ b, wq12.heap.size = b := ⟨_, rfl⟩
            have FN_q21 := Lib.hid gq20
            have hge : w2.heap.size ≤ gnq21 := by rw [← hgq21]; exact hgeq20
            have hgl : wq12.heap.size ≤ gnq21 := by rw [← hgq21]; exact Nat.le_refl _
            rw [hgq21] at FN_q21 ⊢
            clear hgq21 gq20 bq20 hgeq20
            refine hK.out _ _ (HSX.out _ FB_q22.out) (fun hHeld => ?_)
            clear hK K
            (try simp only [Act.put, List.setIfInBounds_toArray, List.set_cons_zero, List.set_cons_succ, List.getElem_toArray, List.getElem_cons_succ, List.getElem_cons_zero])
            refine wpAnyH_ready (rs := [9]) (by kernel_rfl) (by simp) ?_
            refine AllReadyH.cons rfl (fun K hK => ?_) ?_
            · obtain ⟨a0, a1, a2⟩ := three_cells FN_q21.out
              have f0 := frozen_of_row _ _ 0 _ _ FN_q21.out; have f1 := frozen_of_row _ _ 1 _ _ FN_q21.out; have f2 := frozen_of_row _ _ 2 _ _ FN_q21.out
              go_simp
              clear a0 a1 a2 f0 f1 f2
              have HP9 : Hid ((((wq20.setCell ⟨gnq21, 0, none⟩ (Value.slice hpq12.A V.w.length hpq12.c)).setCell ⟨gnq21, 1, none⟩ (Value.slice hpq12.L V.l.length hpq12.d)).setCell ⟨gnq21, 2, none⟩ (Value.slice hpq12.C V.c.length hpq12.e)).heap[gnq21]? = some (.cells #[Value.slice hpq12.A V.w.length hpq12.c, Value.slice hpq12.L V.l.length hpq12.d, Value.slice hpq12.C V.c.length hpq12.e] 30 (0, 0))) := Lib.hid (set3_at FN_q21.out _ _ _)
              have HO9 : Hid (OwnN (((wq20.setCell ⟨gnq21, 0, none⟩ (Value.slice hpq12.A V.w.length hpq12.c)).setCell ⟨gnq21, 1, none⟩ (Value.slice hpq12.L V.l.length hpq12.d)).setCell ⟨gnq21, 2, none⟩ (Value.slice hpq12.C V.c.length hpq12.e)) wq8.heap.size wq12.heap.size hpq12 V) := Lib.hid (FV_q25.out.same fun k h1 h2 _ => by rw [heap_setCell_other _ _ _ _ (by show k ≠ gnq21; omega), heap_setCell_other _ _ _ _ (by show k ≠ gnq21; omega), heap_setCell_other _ _ _ _ (by show k ≠ gnq21; omega)])
              have HB9 : Hid (Below w2.heap.size w2 (((wq20.setCell ⟨gnq21, 0, none⟩ (Value.slice hpq12.A V.w.length hpq12.c)).setCell ⟨gnq21, 1, none⟩ (Value.slice hpq12.L V.l.length hpq12.d)).setCell ⟨gnq21, 2, none⟩ (Value.slice hpq12.C V.c.length hpq12.e))) := Lib.hid (((FB_q22.out.setCell (p := ⟨gnq21, 0, none⟩) hge _).setCell (p := ⟨gnq21, 1, none⟩) hge _).setCell (p := ⟨gnq21, 2, none⟩) hge _)
              refine hK.out _ _ (HSX.out _ HB9.out) (fun hHeld => ?_)
              clear hK K
              (try simp only [Act.put, List.setIfInBounds_toArray, List.set_cons_zero, List.set_cons_succ, List.getElem_toArray, List.getElem_cons_succ, List.getElem_cons_zero])
              refine wpAnyH_ready (rs := [10]) (by kernel_rfl) (by simp) ?_
              refine AllReadyH.cons rfl (fun K hK => ?_) ?_
              · go_simp
                refine hK.out _ _ hHeld (fun hHeld => ?_)
                clear hK K
                (try simp only [Act.put, List.setIfInBounds_toArray, List.set_cons_zero, List.set_cons_succ, List.getElem_toArray, List.getElem_cons_succ, List.getElem_cons_zero])
                refine wpAnyH_done (by kernel_rfl) ?_ _
                have HO8 := HO9.out.size.more (show w2.heap.size ≤ wq8.heap.size by assumption) (Nat.le_refl _)
                go_wp2_with (fail)
                go_meet
                exact ⟨_, hpq12, rfl, rfl, HP9.out, HO8, HB9.out⟩
              exact AllReadyH.nil
            exact AllReadyH.nil
          exact AllReadyH.nil
        refine AllReadyH.cons rfl (fun K hK => ?_) ?_
        · go_simp
          obtain ⟨wq26, hwq26⟩ : ∃ w', w' = wq8.alloc (.cells #[.slice none 0 0, .slice none 0 0, .slice none 0 0] 30) := ⟨_, rfl⟩
          rw [← hwq26]
          have bq26 : Below wq8.heap.size wq8 wq26 := by rw [hwq26]; exact (Below.refl _ _).alloc (Nat.le_refl _) _
          have gq26 : wq26.heap[wq8.heap.size]? = some (.cells #[.slice none 0 0, .slice none 0 0, .slice none 0 0] 30 (0, 0)) := by rw [hwq26]; exact heap_alloc_new _ _
          clear hwq26
          have hgeq26 := FB_q9.out.size
          have FB_q28 := Lib.hid ((FB_q9.out).trans ((bq26).mono (FB_q9.out).size))
          have FP0_q29 := Lib.hid ((FP0_q10.out).below (bq26))
          have FP1_q30 := Lib.hid ((FP1_q11.out).below (bq26))
          clear FB_q9 FP0_q10 FP1_q11
          obtain ⟨gnq27, hgq27⟩ : ∃ b, wq8.heap.size = b := ⟨_, rfl⟩
          have FN_q27 := Lib.hid gq26
          have hge : w2.heap.size ≤ gnq27 := by rw [← hgq27]; exact hgeq26
          rw [hgq27] at FN_q27 ⊢
          clear hgq27 gq26 bq26 hgeq26
          refine hK.out _ _ (HSX.out _ FB_q28.out) (fun hHeld => ?_)
          clear hK K
          (try simp only [Act.put, List.setIfInBounds_toArray, List.set_cons_zero, List.set_cons_succ, List.getElem_toArray, List.getElem_cons_succ, List.getElem_cons_zero])
          refine wpAnyH_ready (rs := [4]) (by kernel_rfl) (by simp) ?_
          refine AllReadyH.cons rfl (fun K hK => ?_) ?_
          · go_simp
            have hszq31 := FB_q28.out.size
            have hsp := sUnionNet_any hpq5 hpq8 x0 x1 wq26 FP0_q29.out.rd FP1_q30.out.rd SM0.out.w SM0.out.l SM0.out.c SM1.out.w SM1.out.l SM1.out.c
            rw [HV.out, HVb.out] at hsp
            have hgl : gnq27 < wq26.heap.size := (Array.getElem?_eq_some_iff.1 FN_q27.out).1
            refine (hsp).mono ?_
            rintro e wq31 ⟨hpq31, rfl, ownq31, belq31⟩
            dsimp only
            have FB_q32 := Lib.hid ((FB_q28.out).trans ((belq31).mono (FB_q28.out).size))
            have FP0_q33 := Lib.hid ((FP0_q29.out).below (belq31))
            have FP1_q34 := Lib.hid ((FP1_q30.out).below (belq31))
            have FN_q35 := Lib.hid (((belq31).block _ (Array.getElem?_eq_some_iff.1 (FN_q27.out)).1).trans (FN_q27.out))
            clear FB_q28 FP0_q29 FP1_q30 FN_q27
            have FV_q36 := Lib.hid ownq31
            clear hsp ownq31 belq31
            refine hK.out _ _ (HSX.out _ FB_q32.out) (fun hHeld => ?_)
            clear hK K
            (try simp only [Act.put, List.setIfInBounds_toArray, List.set_cons_zero, List.set_cons_succ, List.getElem_toArray, List.getElem_cons_succ, List.getElem_cons_zero])
            refine wpAnyH_take (i := 5) (v := ?vq37) rfl (by kernel_rfl) (by kernel_rfl) (by kernel_rfl) (fun _ _ _ h => h) (Or.inl ⟨by rfl, ?yq37⟩) (by assumption) ?_
            case yq37 => (intro w hSw; (try dsimp only at hSw); go_simp; all_goals (with_reducible rfl))
            (try simp only [Act.put, List.setIfInBounds_toArray, List.set_cons_zero, List.set_cons_succ, List.getElem_toArray, List.getElem_cons_succ, List.getElem_cons_zero])
            refine wpAnyH_take (i := 6) (v := ?vq38) rfl (by kernel_rfl) (by kernel_rfl) (by kernel_rfl) (fun _ _ _ h => h) (Or.inl ⟨by rfl, ?yq38⟩) (by assumption) ?_
            case yq38 => (intro w hSw; (try dsimp only at hSw); go_simp; all_goals (with_reducible rfl))
            (try simp only [Act.put, List.setIfInBounds_toArray, List.set_cons_zero, List.set_cons_succ, List.getElem_toArray, List.getElem_cons_succ, List.getElem_cons_zero])
            refine wpAnyH_take (i := 7) (v := ?vq39) rfl (by kernel_rfl) (by kernel_rfl) (by kernel_rfl) (fun _ _ _ h => h) (Or.inl ⟨by rfl, ?yq39⟩) (by assumption) ?_
            case yq39 => (intro w hSw; (try dsimp only at hSw); go_simp; all_goals (with_reducible rfl))
            (try simp only [Act.put, List.setIfInBounds_toArray, List.set_cons_zero, List.set_cons_succ, List.getElem_toArray, List.getElem_cons_succ, List.getElem_cons_zero])
            refine wpAnyH_ready (rs := [9]) (by kernel_rfl) (by simp) ?_
            refine AllReadyH.cons rfl (fun K hK => ?_) ?_
            · obtain ⟨a0, a1, a2⟩ := three_cells FN_q35.out
              have f0 := frozen_of_row _ _ 0 _ _ FN_q35.out; have f1 := frozen_of_row _ _ 1 _ _ FN_q35.out; have f2 := frozen_of_row _ _ 2 _ _ FN_q35.out
              go_simp
              clear a0 a1 a2 f0 f1 f2
              have HP9 : Hid ((((wq31.setCell ⟨gnq27, 0, none⟩ (Value.slice hpq31.A V.w.length hpq31.c)).setCell ⟨gnq27, 1, none⟩ (Value.slice hpq31.L V.l.length hpq31.d)).setCell ⟨gnq27, 2, none⟩ (Value.slice hpq31.C V.c.length hpq31.e)).heap[gnq27]? = some (.cells #[Value.slice hpq31.A V.w.length hpq31.c, Value.slice hpq31.L V.l.length hpq31.d, Value.slice hpq31.C V.c.length hpq31.e] 30 (0, 0))) := Lib.hid (set3_at FN_q35.out _ _ _)
              have HO9 : Hid (OwnN (((wq31.setCell ⟨gnq27, 0, none⟩ (Value.slice hpq31.A V.w.length hpq31.c)).setCell ⟨gnq27, 1, none⟩ (Value.slice hpq31.L V.l.length hpq31.d)).setCell ⟨gnq27, 2, none⟩ (Value.slice hpq31.C V.c.length hpq31.e)) wq26.heap.size wq31.heap.size hpq31 V) := Lib.hid (FV_q36.out.same fun k h1 h2 _ => by rw [heap_setCell_other _ _ _ _ (by show k ≠ gnq27; omega), heap_setCell_other _ _ _ _ (by show k ≠ gnq27; omega), heap_setCell_other _ _ _ _ (by show k ≠ gnq27; omega)])
              have HB9 : Hid (Below w2.heap.size w2 (((wq31.setCell ⟨gnq27, 0, none⟩ (Value.slice hpq31.A V.w.length hpq31.c)).setCell ⟨gnq27, 1, none⟩ (Value.slice hpq31.L V.l.length hpq31.d)).setCell ⟨gnq27, 2, none⟩ (Value.slice hpq31.C V.c.length hpq31.e))) := Lib.hid (((FB_q32.out.setCell (p := ⟨gnq27, 0, none⟩) hge _).setCell (p := ⟨gnq27, 1, none⟩) hge _).setCell (p := ⟨gnq27, 2, none⟩) hge _)
              refine hK.out _ _ (HSX.out _ HB9.out) (fun hHeld => ?_)
              clear hK K
              (try simp only [Act.put, List.setIfInBounds_toArray, List.set_cons_zero, List.set_cons_succ, List.getElem_toArray, List.getElem_cons_succ, List.getElem_cons_zero])
              refine wpAnyH_ready (rs := [10]) (by kernel_rfl) (by simp) ?_
              refine AllReadyH.cons rfl (fun K hK => ?_) ?_
              · go_simp
                refine hK.out _ _ hHeld (fun hHeld => ?_)
                clear hK K
                (try simp only [Act.put, List.setIfInBounds_toArray, List.set_cons_zero, List.set_cons_succ, List.getElem_toArray, List.getElem_cons_succ, List.getElem_cons_zero])
                refine wpAnyH_done (by kernel_rfl) ?_ _
                have HO8 := HO9.out.size.more (show w2.heap.size ≤ wq26.heap.size by assumption) (Nat.le_refl _)
                go_wp2_with (fail)
                go_meet
                exact ⟨_, hpq31, rfl, rfl, HP9.out, HO8, HB9.out⟩
              exact AllReadyH.nil
            exact AllReadyH.nil
          exact AllReadyH.nil
        exact AllReadyH.nil
      refine AllReadyH.cons rfl (fun K hK => ?_) ?_
      · go_simp
        obtain ⟨wq40, hwq40⟩ : ∃ w', w' = wq5.alloc (.cells #[.slice none 0 0, .slice none 0 0, .slice none 0 0] 30) := ⟨_, rfl⟩
        rw [← hwq40]
        have bq40 : Below wq5.heap.size wq5 wq40 := by rw [hwq40]; exact (Below.refl _ _).alloc (Nat.le_refl _) _
        have gq40 : wq40.heap[wq5.heap.size]? = some (.cells #[.slice none 0 0, .slice none 0 0, .slice none 0 0] 30 (0, 0)) := by rw [hwq40]; exact heap_alloc_new _ _
        clear hwq40
        have hgeq40 := FB_q6.out.size
        have FB_q42 := Lib.hid ((FB_q6.out).trans ((bq40).mono (FB_q6.out).size))
        have FP0_q43 := Lib.hid ((FP0_q7.out).below (bq40))
        clear FB_q6 FP0_q7
        obtain ⟨gnq41, hgq41⟩ : ∃ b, wq5.heap.size = b := ⟨_, rfl⟩
        have FN_q41 := Lib.hid gq40
        have hge : w2.heap.size ≤ gnq41 := by rw [← hgq41]; exact hgeq40
        rw [hgq41] at FN_q41 ⊢
        clear hgq41 gq40 bq40 hgeq40
        refine hK.out _ _ (HSX.out _ FB_q42.out) (fun hHeld => ?_)
        clear hK K
        (try simp only [Act.put, List.setIfInBounds_toArray, List.set_cons_zero, List.set_cons_succ, List.getElem_toArray, List.getElem_cons_succ, List.getElem_cons_zero])
        refine wpAnyH_ready (rs := [3]) (by kernel_rfl) (by simp) ?_
        refine AllReadyH.cons rfl (fun K hK => ?_) ?_
        · go_simp
          refine (toN_any h1 x1 wq40 ((H1.out.below (HBi.out.trans (FB_q42.out.mono HBi.out.size))).more (HBi.out.trans (FB_q42.out.mono HBi.out.size)).size) SM1.out.q SM1.out.w SM1.out.l SM1.out.c).mono ?_
          rintro e wq44 ⟨hpq44, rfl, ownq44, belq44⟩
          dsimp only
          have FB_q45 := Lib.hid ((FB_q42.out).trans ((belq44).mono (FB_q42.out).size))
          have FP0_q46 := Lib.hid ((FP0_q43.out).below (belq44))
          have FN_q47 := Lib.hid (((belq44).block _ (Array.getElem?_eq_some_iff.1 (FN_q41.out)).1).trans (FN_q41.out))
          clear FB_q42 FP0_q43 FN_q41
          have FP1_q48 := Lib.hid ownq44
          clear ownq44 belq44
          refine hK.out _ _ (HSX.out _ FB_q45.out) (fun hHeld => ?_)
          clear hK K
          (try simp only [Act.put, List.setIfInBounds_toArray, List.set_cons_zero, List.set_cons_succ, List.getElem_toArray, List.getElem_cons_succ, List.getElem_cons_zero])
          refine wpAnyH_ready (rs := [4]) (by kernel_rfl) (by simp) ?_
          refine AllReadyH.cons rfl (fun K hK => ?_) ?_
          · go_simp
            have hszq49 := FB_q45.out.size
            have hsp := sUnionNet_any hpq5 hpq44 x0 x1 wq44 FP0_q46.out.rd FP1_q48.out.rd SM0.out.w SM0.out.l SM0.out.c SM1.out.w SM1.out.l SM1.out.c
            rw [HV.out, HVb.out] at hsp
            have hgl : gnq41 < wq44.heap.size := (Array.getElem?_eq_some_iff.1 FN_q47.out).1
            refine (hsp).mono ?_
            rintro e wq49 ⟨hpq49, rfl, ownq49, belq49⟩
            dsimp only
            have FB_q50 := Lib.hid ((FB_q45.out).trans ((belq49).mono (FB_q45.out).size))
            have FP0_q51 := Lib.hid ((FP0_q46.out).below (belq49))
            have FN_q52 := Lib.hid (((belq49).block _ (Array.getElem?_eq_some_iff.1 (FN_q47.out)).1).trans (FN_q47.out))
            have FP1_q53 := Lib.hid ((FP1_q48.out).below (belq49))
            clear FB_q45 FP0_q46 FN_q47 FP1_q48
            have FV_q54 := Lib.hid ownq49
            clear hsp ownq49 belq49
            refine hK.out _ _ (HSX.out _ FB_q50.out) (fun hHeld => ?_)
            clear hK K
            (try simp only [Act.put, List.setIfInBounds_toArray, List.set_cons_zero, List.set_cons_succ, List.getElem_toArray, List.getElem_cons_succ, List.getElem_cons_zero])
            refine wpAnyH_take (i := 5) (v := ?vq55) rfl (by kernel_rfl) (by kernel_rfl) (by kernel_rfl) (fun _ _ _ h => h) (Or.inl ⟨by rfl, ?yq55⟩) (by assumption) ?_
            case yq55 => (intro w hSw; (try dsimp only at hSw); go_simp; all_goals (with_reducible rfl))
            (try simp only [Act.put, List.setIfInBounds_toArray, List.set_cons_zero, List.set_cons_succ, List.getElem_toArray, List.getElem_cons_succ, List.getElem_cons_zero])
            refine wpAnyH_take (i := 6) (v := ?vq56) rfl (by kernel_rfl) (by kernel_rfl) (by kernel_rfl) (fun _ _ _ h => h) (Or.inl ⟨by rfl, ?yq56⟩) (by assumption) ?_
            case yq56 => (intro w hSw; (try dsimp only at hSw); go_simp; all_goals (with_reducible rfl))
            (try simp only [Act.put, List.setIfInBounds_toArray, List.set_cons_zero, List.set_cons_succ, List.getElem_toArray, List.getElem_cons_succ, List.getElem_cons_zero])
            refine wpAnyH_take (i := 7) (v := ?vq57) rfl (by kernel_rfl) (by kernel_rfl) (by kernel_rfl) (fun _ _ _ h => h) (Or.inl ⟨by rfl, ?yq57⟩) (by assumption) ?_
            case yq57 => (intro w hSw; (try dsimp only at hSw); go_simp; all_goals (with_reducible rfl))
            (try simp only [Act.put, List.setIfInBounds_toArray, List.set_cons_zero, List.set_cons_succ, List.getElem_toArray, List.getElem_cons_succ, List.getElem_cons_zero])
            refine wpAnyH_ready (rs := [9]) (by kernel_rfl) (by simp) ?_
            refine AllReadyH.cons rfl (fun K hK => ?_) ?_
            · obtain ⟨a0, a1, a2⟩ := three_cells FN_q52.out
              have f0 := frozen_of_row _ _ 0 _ _ FN_q52.out; have f1 := frozen_of_row _ _ 1 _ _ FN_q52.out; have f2 := frozen_of_row _ _ 2 _ _ FN_q52.out
              go_simp
              clear a0 a1 a2 f0 f1 f2
              have HP9 : Hid ((((wq49.setCell ⟨gnq41, 0, none⟩ (Value.slice hpq49.A V.w.length hpq49.c)).setCell ⟨gnq41, 1, none⟩ (Value.slice hpq49.L V.l.length hpq49.d)).setCell ⟨gnq41, 2, none⟩ (Value.slice hpq49.C V.c.length hpq49.e)).heap[gnq41]? = some (.cells #[Value.slice hpq49.A V.w.length hpq49.c, Value.slice hpq49.L V.l.length hpq49.d, Value.slice hpq49.C V.c.length hpq49.e] 30 (0, 0))) := Lib.hid (set3_at FN_q52.out _ _ _)
              have HO9 : Hid (OwnN (((wq49.setCell ⟨gnq41, 0, none⟩ (Value.slice hpq49.A V.w.length hpq49.c)).setCell ⟨gnq41, 1, none⟩ (Value.slice hpq49.L V.l.length hpq49.d)).setCell ⟨gnq41, 2, none⟩ (Value.slice hpq49.C V.c.length hpq49.e)) wq44.heap.size wq49.heap.size hpq49 V) := Lib.hid (FV_q54.out.same fun k h1 h2 _ => by rw [heap_setCell_other _ _ _ _ (by show k ≠ gnq41; omega), heap_setCell_other _ _ _ _ (by show k ≠ gnq41; omega), heap_setCell_other _ _ _ _ (by show k ≠ gnq41; omega)])
              have HB9 : Hid (Below w2.heap.size w2 (((wq49.setCell ⟨gnq41, 0, none⟩ (Value.slice hpq49.A V.w.length hpq49.c)).setCell ⟨gnq41, 1, none⟩ (Value.slice hpq49.L V.l.length hpq49.d)).setCell ⟨gnq41, 2, none⟩ (Value.slice hpq49.C V.c.length hpq49.e))) := Lib.hid (((FB_q50.out.setCell (p := ⟨gnq41, 0, none⟩) hge _).setCell (p := ⟨gnq41, 1, none⟩) hge _).setCell (p := ⟨gnq41, 2, none⟩) hge _)
              refine hK.out _ _ (HSX.out _ HB9.out) (fun hHeld => ?_)
              clear hK K
              (try simp only [Act.put, List.setIfInBounds_toArray, List.set_cons_zero, List.set_cons_succ, List.getElem_toArray, List.getElem_cons_succ, List.getElem_cons_zero])
              refine wpAnyH_ready (rs := [10]) (by kernel_rfl) (by simp) ?_
              refine AllReadyH.cons rfl (fun K hK => ?_) ?_
              · go_simp
                refine hK.out _ _ hHeld (fun hHeld => ?_)
                clear hK K
                (try simp only [Act.put, List.setIfInBounds_toArray, List.set_cons_zero, List.set_cons_succ, List.getElem_toArray, List.getElem_cons_succ, List.getElem_cons_zero])
                refine wpAnyH_done (by kernel_rfl) ?_ _
                have HO8 := HO9.out.size.more (show w2.heap.size ≤ wq44.heap.size by assumption) (Nat.le_refl _)
                go_wp2_with (fail)
                go_meet
                exact ⟨_, hpq49, rfl, rfl, HP9.out, HO8, HB9.out⟩
              exact AllReadyH.nil
            exact AllReadyH.nil
          exact AllReadyH.nil
        exact AllReadyH.nil
      exact AllReadyH.nil
    refine AllReadyH.cons rfl (fun K hK => ?_) ?_
    · go_simp
      obtain ⟨wq58, hwq58⟩ : ∃ w', w' = wq1.alloc (.cells #[.slice none 0 0, .slice none 0 0, .slice none 0 0] 30) := ⟨_, rfl⟩
      rw [← hwq58]
      have bq58 : Below wq1.heap.size wq1 wq58 := by rw [hwq58]; exact (Below.refl _ _).alloc (Nat.le_refl _) _
      have gq58 : wq58.heap[wq1.heap.size]? = some (.cells #[.slice none 0 0, .slice none 0 0, .slice none 0 0] 30 (0, 0)) := by rw [hwq58]; exact heap_alloc_new _ _
      clear hwq58
      have hgeq58 := FB_q2.out.size
      have FB_q60 := Lib.hid ((FB_q2.out).trans ((bq58).mono (FB_q2.out).size))
      clear FB_q2
      obtain ⟨gnq59, hgq59⟩ : ∃ b, wq1.heap.size = b := ⟨_, rfl⟩
      have FN_q59 := Lib.hid gq58
      have hge : w2.heap.size ≤ gnq59 := by rw [← hgq59]; exact hgeq58
      rw [hgq59] at FN_q59 ⊢
      clear hgq59 gq58 bq58 hgeq58
      refine hK.out _ _ (HSX.out _ FB_q60.out) (fun hHeld => ?_)
      clear hK K
      (try simp only [Act.put, List.setIfInBounds_toArray, List.set_cons_zero, List.set_cons_succ, List.getElem_toArray, List.getElem_cons_succ, List.getElem_cons_zero])
      refine wpAnyH_ready (rs := [1]) (by kernel_rfl) (by simp) ?_
      refine AllReadyH.cons rfl (fun K hK => ?_) ?_
      · go_simp
        refine (toN_any h0 x0 wq58 ((H0.out.below (HBi.out.trans (FB_q60.out.mono HBi.out.size))).more (HBi.out.trans (FB_q60.out.mono HBi.out.size)).size) SM0.out.q SM0.out.w SM0.out.l SM0.out.c).mono ?_
        rintro e wq61 ⟨hpq61, rfl, ownq61, belq61⟩
        dsimp only
        have FB_q62 := Lib.hid ((FB_q60.out).trans ((belq61).mono (FB_q60.out).size))
        have FN_q63 := Lib.hid (((belq61).block _ (Array.getElem?_eq_some_iff.1 (FN_q59.out)).1).trans (FN_q59.out))
        clear FB_q60 FN_q59
        have FP0_q64 := Lib.hid ownq61
        clear ownq61 belq61
        refine hK.out _ _ (HSX.out _ FB_q62.out) (fun hHeld => ?_)
        clear hK K
        (try simp only [Act.put, List.setIfInBounds_toArray, List.set_cons_zero, List.set_cons_succ, List.getElem_toArray, List.getElem_cons_succ, List.getElem_cons_zero])
        refine wpAnyH_ready (rs := [3]) (by kernel_rfl) (by simp) ?_
        refine AllReadyH.cons rfl (fun K hK => ?_) ?_
        · go_simp
          refine (toN_any h1 x1 wq61 ((H1.out.below (HBi.out.trans (FB_q62.out.mono HBi.out.size))).more (HBi.out.trans (FB_q62.out.mono HBi.out.size)).size) SM1.out.q SM1.out.w SM1.out.l SM1.out.c).mono ?_
          rintro e wq65 ⟨hpq65, rfl, ownq65, belq65⟩
          dsimp only
          have FB_q66 := Lib.hid ((FB_q62.out).trans ((belq65).mono (FB_q62.out).size))
          have FN_q67 := Lib.hid (((belq65).block _ (Array.getElem?_eq_some_iff.1 (FN_q63.out)).1).trans (FN_q63.out))
          have FP0_q68 := Lib.hid ((FP0_q64.out).below (belq65))
          clear FB_q62 FN_q63 FP0_q64
          have FP1_q69 := Lib.hid ownq65
          clear ownq65 belq65
          refine hK.out _ _ (HSX.out _ FB_q66.out) (fun hHeld => ?_)
          clear hK K
          (try simp only [Act.put, List.setIfInBounds_toArray, List.set_cons_zero, List.set_cons_succ, List.getElem_toArray, List.getElem_cons_succ, List.getElem_cons_zero])
          refine wpAnyH_ready (rs := [4]) (by kernel_rfl) (by simp) ?_
          refine AllReadyH.cons rfl (fun K hK => ?_) ?_
          · go_simp
            have hszq70 := FB_q66.out.size
            have hsp := sUnionNet_any hpq61 hpq65 x0 x1 wq65 FP0_q68.out.rd FP1_q69.out.rd SM0.out.w SM0.out.l SM0.out.c SM1.out.w SM1.out.l SM1.out.c
            rw [HV.out, HVb.out] at hsp
            have hgl : gnq59 < wq65.heap.size := (Array.getElem?_eq_some_iff.1 FN_q67.out).1
            refine (hsp).mono ?_
            rintro e wq70 ⟨hpq70, rfl, ownq70, belq70⟩
            dsimp only
            have FB_q71 := Lib.hid ((FB_q66.out).trans ((belq70).mono (FB_q66.out).size))
            have FN_q72 := Lib.hid (((belq70).block _ (Array.getElem?_eq_some_iff.1 (FN_q67.out)).1).trans (FN_q67.out))
            have FP0_q73 := Lib.hid ((FP0_q68.out).below (belq70))
            have FP1_q74 := Lib.hid ((FP1_q69.out).below (belq70))
            clear FB_q66 FN_q67 FP0_q68 FP1_q69
            have FV_q75 := Lib.hid ownq70
            clear hsp ownq70 belq70
            refine hK.out _ _ (HSX.out _ FB_q71.out) (fun hHeld => ?_)
            clear hK K
            (try simp only [Act.put, List.setIfInBounds_toArray, List.set_cons_zero, List.set_cons_succ, List.getElem_toArray, List.getElem_cons_succ, List.getElem_cons_zero])
            refine wpAnyH_take (i := 5) (v := ?vq76) rfl (by kernel_rfl) (by kernel_rfl) (by kernel_rfl) (fun _ _ _ h => h) (Or.inl ⟨by rfl, ?yq76⟩) (by assumption) ?_
            case yq76 => (intro w hSw; (try dsimp only at hSw); go_simp; all_goals (with_reducible rfl))
            (try simp only [Act.put, List.setIfInBounds_toArray, List.set_cons_zero, List.set_cons_succ, List.getElem_toArray, List.getElem_cons_succ, List.getElem_cons_zero])
            refine wpAnyH_take (i := 6) (v := ?vq77) rfl (by kernel_rfl) (by kernel_rfl) (by kernel_rfl) (fun _ _ _ h => h) (Or.inl ⟨by rfl, ?yq77⟩) (by assumption) ?_
            case yq77 => (intro w hSw; (try dsimp only at hSw); go_simp; all_goals (with_reducible rfl))
            (try simp only [Act.put, List.setIfInBounds_toArray, List.set_cons_zero, List.set_cons_succ, List.getElem_toArray, List.getElem_cons_succ, List.getElem_cons_zero])
            refine wpAnyH_take (i := 7) (v := ?vq78) rfl (by kernel_rfl) (by kernel_rfl) (by kernel_rfl) (fun _ _ _ h => h) (Or.inl ⟨by rfl, ?yq78⟩) (by assumption) ?_
            case yq78 => (intro w hSw; (try dsimp only at hSw); go_simp; all_goals (with_reducible rfl))
            (try simp only [Act.put, List.setIfInBounds_toArray, List.set_cons_zero, List.set_cons_succ, List.getElem_toArray, List.getElem_cons_succ, List.getElem_cons_zero])
            refine wpAnyH_ready (rs := [9]) (by kernel_rfl) (by simp) ?_
            refine AllReadyH.cons rfl (fun K hK => ?_) ?_
            · obtain ⟨a0, a1, a2⟩ := three_cells FN_q72.out
              have f0 := frozen_of_row _ _ 0 _ _ FN_q72.out; have f1 := frozen_of_row _ _ 1 _ _ FN_q72.out; have f2 := frozen_of_row _ _ 2 _ _ FN_q72.out
              go_simp
              clear a0 a1 a2 f0 f1 f2
              have HP9 : Hid ((((wq70.setCell ⟨gnq59, 0, none⟩ (Value.slice hpq70.A V.w.length hpq70.c)).setCell ⟨gnq59, 1, none⟩ (Value.slice hpq70.L V.l.length hpq70.d)).setCell ⟨gnq59, 2, none⟩ (Value.slice hpq70.C V.c.length hpq70.e)).heap[gnq59]? = some (.cells #[Value.slice hpq70.A V.w.length hpq70.c, Value.slice hpq70.L V.l.length hpq70.d, Value.slice hpq70.C V.c.length hpq70.e] 30 (0, 0))) := Lib.hid (set3_at FN_q72.out _ _ _)
              have HO9 : Hid (OwnN (((wq70.setCell ⟨gnq59, 0, none⟩ (Value.slice hpq70.A V.w.length hpq70.c)).setCell ⟨gnq59, 1, none⟩ (Value.slice hpq70.L V.l.length hpq70.d)).setCell ⟨gnq59, 2, none⟩ (Value.slice hpq70.C V.c.length hpq70.e)) wq65.heap.size wq70.heap.size hpq70 V) := Lib.hid (FV_q75.out.same fun k h1 h2 _ => by rw [heap_setCell_other _ _ _ _ (by show k ≠ gnq59; omega), heap_setCell_other _ _ _ _ (by show k ≠ gnq59; omega), heap_setCell_other _ _ _ _ (by show k ≠ gnq59; omega)])
              have HB9 : Hid (Below w2.heap.size w2 (((wq70.setCell ⟨gnq59, 0, none⟩ (Value.slice hpq70.A V.w.length hpq70.c)).setCell ⟨gnq59, 1, none⟩ (Value.slice hpq70.L V.l.length hpq70.d)).setCell ⟨gnq59, 2, none⟩ (Value.slice hpq70.C V.c.length hpq70.e))) := Lib.hid (((FB_q71.out.setCell (p := ⟨gnq59, 0, none⟩) hge _).setCell (p := ⟨gnq59, 1, none⟩) hge _).setCell (p := ⟨gnq59, 2, none⟩) hge _)
              refine hK.out _ _ (HSX.out _ HB9.out) (fun hHeld => ?_)
              clear hK K
              (try simp only [Act.put, List.setIfInBounds_toArray, List.set_cons_zero, List.set_cons_succ, List.getElem_toArray, List.getElem_cons_succ, List.getElem_cons_zero])
              refine wpAnyH_ready (rs := [10]) (by kernel_rfl) (by simp) ?_
              refine AllReadyH.cons rfl (fun K hK => ?_) ?_
              · go_simp
                refine hK.out _ _ hHeld (fun hHeld => ?_)
                clear hK K
                (try simp only [Act.put, List.setIfInBounds_toArray, List.set_cons_zero, List.set_cons_succ, List.getElem_toArray, List.getElem_cons_succ, List.getElem_cons_zero])
                refine wpAnyH_done (by kernel_rfl) ?_ _
                have HO8 := HO9.out.size.more (show w2.heap.size ≤ wq65.heap.size by assumption) (Nat.le_refl _)
                go_wp2_with (fail)
                go_meet
                exact ⟨_, hpq70, rfl, rfl, HP9.out, HO8, HB9.out⟩
              exact AllReadyH.nil
            exact AllReadyH.nil
          exact AllReadyH.nil
        exact AllReadyH.nil
      exact AllReadyH.nil
    exact AllReadyH.nil
  case rest =>
  obtain ⟨b_v, h_v, rfl, rfl, hp_v, own3, bel3⟩ := hcut
  clear HSX HBi
  rename World => w3
  obtain ⟨c_v_3_0, c_v_3_1, c_v_3_2⟩ := three_cells hp_v
  have t_v : b_v < w3.heap.size := (Array.getElem?_eq_some_iff.1 hp_v).1
  have o_v_3 := Lib.hid own3
  clear own3 hp_v
  have s3 := bel3.size
  have B3 := B2.trans (bel3.mono B2.size)
  have c_a0_3_0 := (bel3.cell (p := ⟨w.heap.size, 0, none⟩) (by show w.heap.size < _; omega)).trans c_a0_2_0
  have c_a0_3_1 := (bel3.cell (p := ⟨w.heap.size, 1, none⟩) (by show w.heap.size < _; omega)).trans c_a0_2_1
  have c_a0_3_2 := (bel3.cell (p := ⟨w.heap.size, 2, none⟩) (by show w.heap.size < _; omega)).trans c_a0_2_2
  have c_a1_3_0 := (bel3.cell (p := ⟨w.heap.size + 1, 0, none⟩) (by show w.heap.size + 1 < _; omega)).trans c_a1_2_0
  have c_a1_3_1 := (bel3.cell (p := ⟨w.heap.size + 1, 1, none⟩) (by show w.heap.size + 1 < _; omega)).trans c_a1_2_1
  have c_a1_3_2 := (bel3.cell (p := ⟨w.heap.size + 1, 2, none⟩) (by show w.heap.size + 1 < _; omega)).trans c_a1_2_2
  clear bel3 B2 c_a0_2_0 c_a0_2_1 c_a0_2_2 c_a1_2_0 c_a1_2_1 c_a1_2_2
  generalize w2.heap.size = m2 at *
  go_wp2_with (fail)
  refine (toN_any h0 x0 w3 ((H0.out.below B3).more B3.size) SM0.out.q SM0.out.w SM0.out.l SM0.out.c).mono ?_
  rintro e w4 ⟨h_x0, rfl, own4, bel4⟩
  have o_x0_4 := Lib.hid own4
  clear own4
  have s4 := bel4.size
  have B4 := B3.trans (bel4.mono B3.size)
  have c_a0_4_0 := (bel4.cell (p := ⟨w.heap.size, 0, none⟩) (by show w.heap.size < _; omega)).trans c_a0_3_0
  have c_a0_4_1 := (bel4.cell (p := ⟨w.heap.size, 1, none⟩) (by show w.heap.size < _; omega)).trans c_a0_3_1
  have c_a0_4_2 := (bel4.cell (p := ⟨w.heap.size, 2, none⟩) (by show w.heap.size < _; omega)).trans c_a0_3_2
  have c_a1_4_0 := (bel4.cell (p := ⟨w.heap.size + 1, 0, none⟩) (by show w.heap.size + 1 < _; omega)).trans c_a1_3_0
  have c_a1_4_1 := (bel4.cell (p := ⟨w.heap.size + 1, 1, none⟩) (by show w.heap.size + 1 < _; omega)).trans c_a1_3_1
  have c_a1_4_2 := (bel4.cell (p := ⟨w.heap.size + 1, 2, none⟩) (by show w.heap.size + 1 < _; omega)).trans c_a1_3_2
  have c_v_4_0 := (bel4.cell (p := ⟨b_v, 0, none⟩) (by show b_v < _; omega)).trans c_v_3_0
  have c_v_4_1 := (bel4.cell (p := ⟨b_v, 1, none⟩) (by show b_v < _; omega)).trans c_v_3_1
  have c_v_4_2 := (bel4.cell (p := ⟨b_v, 2, none⟩) (by show b_v < _; omega)).trans c_v_3_2
  have o_v_4 := Lib.hid (o_v_3.out.below bel4)
  clear bel4 B3 o_v_3 c_a0_3_0 c_a0_3_1 c_a0_3_2 c_a1_3_0 c_a1_3_1 c_a1_3_2 c_v_3_0 c_v_3_1 c_v_3_2
  generalize w3.heap.size = m3 at *
  have bel5 : Below w4.heap.size w4 (w4.alloc (.cells #[Value.slice h_x0.A x0.w.length h_x0.c, Value.slice h_x0.L x0.l.length h_x0.d, Value.slice h_x0.C x0.c.length h_x0.e] 30)) := (Below.refl _ _).alloc (Nat.le_refl _) _
  obtain ⟨c_x0_5_0, c_x0_5_1, c_x0_5_2⟩ := three_cells (show (w4.alloc (.cells #[Value.slice h_x0.A x0.w.length h_x0.c, Value.slice h_x0.L x0.l.length h_x0.d, Value.slice h_x0.C x0.c.length h_x0.e] 30)).heap[w4.heap.size]? = some (.cells #[Value.slice h_x0.A x0.w.length h_x0.c, Value.slice h_x0.L x0.l.length h_x0.d, Value.slice h_x0.C x0.c.length h_x0.e] 30 (0, 0)) from heap_alloc_new _ _)
  have t5 : w4.heap.size + 1 ≤ (w4.alloc (.cells #[Value.slice h_x0.A x0.w.length h_x0.c, Value.slice h_x0.L x0.l.length h_x0.d, Value.slice h_x0.C x0.c.length h_x0.e] 30)).heap.size := by simp
  have c_a0_5_0 := (bel5.cell (p := ⟨w.heap.size, 0, none⟩) (by show w.heap.size < _; omega)).trans c_a0_4_0
  have c_a0_5_1 := (bel5.cell (p := ⟨w.heap.size, 1, none⟩) (by show w.heap.size < _; omega)).trans c_a0_4_1
  have c_a0_5_2 := (bel5.cell (p := ⟨w.heap.size, 2, none⟩) (by show w.heap.size < _; omega)).trans c_a0_4_2
  have c_a1_5_0 := (bel5.cell (p := ⟨w.heap.size + 1, 0, none⟩) (by show w.heap.size + 1 < _; omega)).trans c_a1_4_0
  have c_a1_5_1 := (bel5.cell (p := ⟨w.heap.size + 1, 1, none⟩) (by show w.heap.size + 1 < _; omega)).trans c_a1_4_1
  have c_a1_5_2 := (bel5.cell (p := ⟨w.heap.size + 1, 2, none⟩) (by show w.heap.size + 1 < _; omega)).trans c_a1_4_2
  have c_v_5_0 := (bel5.cell (p := ⟨b_v, 0, none⟩) (by show b_v < _; omega)).trans c_v_4_0
  have c_v_5_1 := (bel5.cell (p := ⟨b_v, 1, none⟩) (by show b_v < _; omega)).trans c_v_4_1
  have c_v_5_2 := (bel5.cell (p := ⟨b_v, 2, none⟩) (by show b_v < _; omega)).trans c_v_4_2
  clear c_a0_4_0 c_a0_4_1 c_a0_4_2 c_a1_4_0 c_a1_4_1 c_a1_4_2 c_v_4_0 c_v_4_1 c_v_4_2
  go_wp2_with (fail)
  generalize w4.alloc (.cells #[Value.slice h_x0.A x0.w.length h_x0.c, Value.slice h_x0.L x0.l.length h_x0.d, Value.slice h_x0.C x0.c.length h_x0.e] 30) = w5 at *
  have s5 := bel5.size
  have B5 := B4.trans (bel5.mono B4.size)
  have o_v_5 := Lib.hid (o_v_4.out.below bel5)
  have o_x0_5 := Lib.hid (o_x0_4.out.below bel5)
  clear bel5 B4 o_v_4 o_x0_4
  generalize w4.heap.size = m4 at *
  refine (toN_any h1 x1 w5 ((H1.out.below B5).more B5.size) SM1.out.q SM1.out.w SM1.out.l SM1.out.c).mono ?_
  rintro e w6 ⟨h_x1, rfl, own6, bel6⟩
  have o_x1_6 := Lib.hid own6
  clear own6
  have s6 := bel6.size
  have B6 := B5.trans (bel6.mono B5.size)
  have c_a0_6_0 := (bel6.cell (p := ⟨w.heap.size, 0, none⟩) (by show w.heap.size < _; omega)).trans c_a0_5_0
  have c_a0_6_1 := (bel6.cell (p := ⟨w.heap.size, 1, none⟩) (by show w.heap.size < _; omega)).trans c_a0_5_1
  have c_a0_6_2 := (bel6.cell (p := ⟨w.heap.size, 2, none⟩) (by show w.heap.size < _; omega)).trans c_a0_5_2
  have c_a1_6_0 := (bel6.cell (p := ⟨w.heap.size + 1, 0, none⟩) (by show w.heap.size + 1 < _; omega)).trans c_a1_5_0
  have c_a1_6_1 := (bel6.cell (p := ⟨w.heap.size + 1, 1, none⟩) (by show w.heap.size + 1 < _; omega)).trans c_a1_5_1
  have c_a1_6_2 := (bel6.cell (p := ⟨w.heap.size + 1, 2, none⟩) (by show w.heap.size + 1 < _; omega)).trans c_a1_5_2
  have c_v_6_0 := (bel6.cell (p := ⟨b_v, 0, none⟩) (by show b_v < _; omega)).trans c_v_5_0
  have c_v_6_1 := (bel6.cell (p := ⟨b_v, 1, none⟩) (by show b_v < _; omega)).trans c_v_5_1
  have c_v_6_2 := (bel6.cell (p := ⟨b_v, 2, none⟩) (by show b_v < _; omega)).trans c_v_5_2
  have c_x0_6_0 := (bel6.cell (p := ⟨m4, 0, none⟩) (by show m4 < _; omega)).trans c_x0_5_0
  have c_x0_6_1 := (bel6.cell (p := ⟨m4, 1, none⟩) (by show m4 < _; omega)).trans c_x0_5_1
  have c_x0_6_2 := (bel6.cell (p := ⟨m4, 2, none⟩) (by show m4 < _; omega)).trans c_x0_5_2
  have o_v_6 := Lib.hid (o_v_5.out.below bel6)
  have o_x0_6 := Lib.hid (o_x0_5.out.below bel6)
  clear bel6 B5 o_v_5 o_x0_5 c_a0_5_0 c_a0_5_1 c_a0_5_2 c_a1_5_0 c_a1_5_1 c_a1_5_2 c_v_5_0 c_v_5_1 c_v_5_2 c_x0_5_0 c_x0_5_1 c_x0_5_2
  generalize w5.heap.size = m5 at *
  have bel7 : Below w6.heap.size w6 (w6.alloc (.cells #[Value.slice h_x1.A x1.w.length h_x1.c, Value.slice h_x1.L x1.l.length h_x1.d, Value.slice h_x1.C x1.c.length h_x1.e] 30)) := (Below.refl _ _).alloc (Nat.le_refl _) _
  obtain ⟨c_x1_7_0, c_x1_7_1, c_x1_7_2⟩ := three_cells (show (w6.alloc (.cells #[Value.slice h_x1.A x1.w.length h_x1.c, Value.slice h_x1.L x1.l.length h_x1.d, Value.slice h_x1.C x1.c.length h_x1.e] 30)).heap[w6.heap.size]? = some (.cells #[Value.slice h_x1.A x1.w.length h_x1.c, Value.slice h_x1.L x1.l.length h_x1.d, Value.slice h_x1.C x1.c.length h_x1.e] 30 (0, 0)) from heap_alloc_new _ _)
  have t7 : w6.heap.size + 1 ≤ (w6.alloc (.cells #[Value.slice h_x1.A x1.w.length h_x1.c, Value.slice h_x1.L x1.l.length h_x1.d, Value.slice h_x1.C x1.c.length h_x1.e] 30)).heap.size := by simp
  have c_a0_7_0 := (bel7.cell (p := ⟨w.heap.size, 0, none⟩) (by show w.heap.size < _; omega)).trans c_a0_6_0
  have c_a0_7_1 := (bel7.cell (p := ⟨w.heap.size, 1, none⟩) (by show w.heap.size < _; omega)).trans c_a0_6_1
  have c_a0_7_2 := (bel7.cell (p := ⟨w.heap.size, 2, none⟩) (by show w.heap.size < _; omega)).trans c_a0_6_2
  have c_a1_7_0 := (bel7.cell (p := ⟨w.heap.size + 1, 0, none⟩) (by show w.heap.size + 1 < _; omega)).trans c_a1_6_0
  have c_a1_7_1 := (bel7.cell (p := ⟨w.heap.size + 1, 1, none⟩) (by show w.heap.size + 1 < _; omega)).trans c_a1_6_1
  have c_a1_7_2 := (bel7.cell (p := ⟨w.heap.size + 1, 2, none⟩) (by show w.heap.size + 1 < _; omega)).trans c_a1_6_2
  have c_v_7_0 := (bel7.cell (p := ⟨b_v, 0, none⟩) (by show b_v < _; omega)).trans c_v_6_0
  have c_v_7_1 := (bel7.cell (p := ⟨b_v, 1, none⟩) (by show b_v < _; omega)).trans c_v_6_1
  have c_v_7_2 := (bel7.cell (p := ⟨b_v, 2, none⟩) (by show b_v < _; omega)).trans c_v_6_2
  have c_x0_7_0 := (bel7.cell (p := ⟨m4, 0, none⟩) (by show m4 < _; omega)).trans c_x0_6_0
  have c_x0_7_1 := (bel7.cell (p := ⟨m4, 1, none⟩) (by show m4 < _; omega)).trans c_x0_6_1
  have c_x0_7_2 := (bel7.cell (p := ⟨m4, 2, none⟩) (by show m4 < _; omega)).trans c_x0_6_2
  clear c_a0_6_0 c_a0_6_1 c_a0_6_2 c_a1_6_0 c_a1_6_1 c_a1_6_2 c_v_6_0 c_v_6_1 c_v_6_2 c_x0_6_0 c_x0_6_1 c_x0_6_2
  go_wp2_with (fail)
  generalize w6.alloc (.cells #[Value.slice h_x1.A x1.w.length h_x1.c, Value.slice h_x1.L x1.l.length h_x1.d, Value.slice h_x1.C x1.c.length h_x1.e] 30) = w7 at *
  have s7 := bel7.size
  have B7 := B6.trans (bel7.mono B6.size)
  have o_v_7 := Lib.hid (o_v_6.out.below bel7)
  have o_x0_7 := Lib.hid (o_x0_6.out.below bel7)
  have o_x1_7 := Lib.hid (o_x1_6.out.below bel7)
  clear bel7 B6 o_v_6 o_x0_6 o_x1_6
  generalize w6.heap.size = m6 at *
  refine (unionNet_impl h_x0 h_x1 x0 x1 w7 (o_x0_7.out.rd) (o_x1_7.out.rd) SM0.out SM1.out (HT.out.below B7 HT.out.lt) (HU.out.below B7 HU.out.lt)).mono ?_
  rw [HV.out, HVb.out]
  rintro e w8 ⟨h_g, rfl, own8, bel8⟩
  have o_g_8 := Lib.hid own8
  clear own8
  have s8 := bel8.size
  have B8 := B7.trans (bel8.mono B7.size)
  have c_a0_8_0 := (bel8.cell (p := ⟨w.heap.size, 0, none⟩) (by show w.heap.size < _; omega)).trans c_a0_7_0
  have c_a0_8_1 := (bel8.cell (p := ⟨w.heap.size, 1, none⟩) (by show w.heap.size < _; omega)).trans c_a0_7_1
  have c_a0_8_2 := (bel8.cell (p := ⟨w.heap.size, 2, none⟩) (by show w.heap.size < _; omega)).trans c_a0_7_2
  have c_a1_8_0 := (bel8.cell (p := ⟨w.heap.size + 1, 0, none⟩) (by show w.heap.size + 1 < _; omega)).trans c_a1_7_0
  have c_a1_8_1 := (bel8.cell (p := ⟨w.heap.size + 1, 1, none⟩) (by show w.heap.size + 1 < _; omega)).trans c_a1_7_1
  have c_a1_8_2 := (bel8.cell (p := ⟨w.heap.size + 1, 2, none⟩) (by show w.heap.size + 1 < _; omega)).trans c_a1_7_2
  have c_v_8_0 := (bel8.cell (p := ⟨b_v, 0, none⟩) (by show b_v < _; omega)).trans c_v_7_0
  have c_v_8_1 := (bel8.cell (p := ⟨b_v, 1, none⟩) (by show b_v < _; omega)).trans c_v_7_1
  have c_v_8_2 := (bel8.cell (p := ⟨b_v, 2, none⟩) (by show b_v < _; omega)).trans c_v_7_2
  have c_x0_8_0 := (bel8.cell (p := ⟨m4, 0, none⟩) (by show m4 < _; omega)).trans c_x0_7_0
  have c_x0_8_1 := (bel8.cell (p := ⟨m4, 1, none⟩) (by show m4 < _; omega)).trans c_x0_7_1
  have c_x0_8_2 := (bel8.cell (p := ⟨m4, 2, none⟩) (by show m4 < _; omega)).trans c_x0_7_2
  have c_x1_8_0 := (bel8.cell (p := ⟨m6, 0, none⟩) (by show m6 < _; omega)).trans c_x1_7_0
  have c_x1_8_1 := (bel8.cell (p := ⟨m6, 1, none⟩) (by show m6 < _; omega)).trans c_x1_7_1
  have c_x1_8_2 := (bel8.cell (p := ⟨m6, 2, none⟩) (by show m6 < _; omega)).trans c_x1_7_2
  have o_v_8 := Lib.hid (o_v_7.out.below bel8)
  have o_x0_8 := Lib.hid (o_x0_7.out.below bel8)
  have o_x1_8 := Lib.hid (o_x1_7.out.below bel8)
  clear bel8 B7 o_v_7 o_x0_7 o_x1_7 c_a0_7_0 c_a0_7_1 c_a0_7_2 c_a1_7_0 c_a1_7_1 c_a1_7_2 c_v_7_0 c_v_7_1 c_v_7_2 c_x0_7_0 c_x0_7_1 c_x0_7_2 c_x1_7_0 c_x1_7_1 c_x1_7_2
  generalize w7.heap.size = m7 at *
  have bel9 : Below w8.heap.size w8 (w8.alloc (.cells #[Value.slice h_g.A V.w.length h_g.c, Value.slice h_g.L V.l.length h_g.d, Value.slice h_g.C V.c.length h_g.e] 30)) := (Below.refl _ _).alloc (Nat.le_refl _) _
  obtain ⟨c_g_9_0, c_g_9_1, c_g_9_2⟩ := three_cells (show (w8.alloc (.cells #[Value.slice h_g.A V.w.length h_g.c, Value.slice h_g.L V.l.length h_g.d, Value.slice h_g.C V.c.length h_g.e] 30)).heap[w8.heap.size]? = some (.cells #[Value.slice h_g.A V.w.length h_g.c, Value.slice h_g.L V.l.length h_g.d, Value.slice h_g.C V.c.length h_g.e] 30 (0, 0)) from heap_alloc_new _ _)
  have t9 : w8.heap.size + 1 ≤ (w8.alloc (.cells #[Value.slice h_g.A V.w.length h_g.c, Value.slice h_g.L V.l.length h_g.d, Value.slice h_g.C V.c.length h_g.e] 30)).heap.size := by simp
  have c_a0_9_0 := (bel9.cell (p := ⟨w.heap.size, 0, none⟩) (by show w.heap.size < _; omega)).trans c_a0_8_0
  have c_a0_9_1 := (bel9.cell (p := ⟨w.heap.size, 1, none⟩) (by show w.heap.size < _; omega)).trans c_a0_8_1
  have c_a0_9_2 := (bel9.cell (p := ⟨w.heap.size, 2, none⟩) (by show w.heap.size < _; omega)).trans c_a0_8_2
  have c_a1_9_0 := (bel9.cell (p := ⟨w.heap.size + 1, 0, none⟩) (by show w.heap.size + 1 < _; omega)).trans c_a1_8_0
  have c_a1_9_1 := (bel9.cell (p := ⟨w.heap.size + 1, 1, none⟩) (by show w.heap.size + 1 < _; omega)).trans c_a1_8_1
  have c_a1_9_2 := (bel9.cell (p := ⟨w.heap.size + 1, 2, none⟩) (by show w.heap.size + 1 < _; omega)).trans c_a1_8_2
  have c_v_9_0 := (bel9.cell (p := ⟨b_v, 0, none⟩) (by show b_v < _; omega)).trans c_v_8_0
  have c_v_9_1 := (bel9.cell (p := ⟨b_v, 1, none⟩) (by show b_v < _; omega)).trans c_v_8_1
  have c_v_9_2 := (bel9.cell (p := ⟨b_v, 2, none⟩) (by show b_v < _; omega)).trans c_v_8_2
  have c_x0_9_0 := (bel9.cell (p := ⟨m4, 0, none⟩) (by show m4 < _; omega)).trans c_x0_8_0
  have c_x0_9_1 := (bel9.cell (p := ⟨m4, 1, none⟩) (by show m4 < _; omega)).trans c_x0_8_1
  have c_x0_9_2 := (bel9.cell (p := ⟨m4, 2, none⟩) (by show m4 < _; omega)).trans c_x0_8_2
  have c_x1_9_0 := (bel9.cell (p := ⟨m6, 0, none⟩) (by show m6 < _; omega)).trans c_x1_8_0
  have c_x1_9_1 := (bel9.cell (p := ⟨m6, 1, none⟩) (by show m6 < _; omega)).trans c_x1_8_1
  have c_x1_9_2 := (bel9.cell (p := ⟨m6, 2, none⟩) (by show m6 < _; omega)).trans c_x1_8_2
  clear c_a0_8_0 c_a0_8_1 c_a0_8_2 c_a1_8_0 c_a1_8_1 c_a1_8_2 c_v_8_0 c_v_8_1 c_v_8_2 c_x0_8_0 c_x0_8_1 c_x0_8_2 c_x1_8_0 c_x1_8_1 c_x1_8_2
  go_wp2_with (fail)
  generalize w8.alloc (.cells #[Value.slice h_g.A V.w.length h_g.c, Value.slice h_g.L V.l.length h_g.d, Value.slice h_g.C V.c.length h_g.e] 30) = w9 at *
  have s9 := bel9.size
  have B9 := B8.trans (bel9.mono B8.size)
  have o_v_9 := Lib.hid (o_v_8.out.below bel9)
  have o_x0_9 := Lib.hid (o_x0_8.out.below bel9)
  have o_x1_9 := Lib.hid (o_x1_8.out.below bel9)
  have o_g_9 := Lib.hid (o_g_8.out.below bel9)
  clear bel9 B8 o_v_8 o_x0_8 o_x1_8 o_g_8
  generalize w8.heap.size = m8 at *
  refine (eqN_any h_g h_v V w9 (o_g_9.out.rd) (o_v_9.out.rd) SMV.out.q SMV.out.w SMV.out.l SMV.out.c).mono ?_
  rintro e w10 ⟨rfl, bel10⟩
  have s10 := bel10.size
  have B10 := B9.trans (bel10.mono B9.size)
  have c_a0_10_0 := (bel10.cell (p := ⟨w.heap.size, 0, none⟩) (by show w.heap.size < _; omega)).trans c_a0_9_0
  have c_a0_10_1 := (bel10.cell (p := ⟨w.heap.size, 1, none⟩) (by show w.heap.size < _; omega)).trans c_a0_9_1
  have c_a0_10_2 := (bel10.cell (p := ⟨w.heap.size, 2, none⟩) (by show w.heap.size < _; omega)).trans c_a0_9_2
  have c_a1_10_0 := (bel10.cell (p := ⟨w.heap.size + 1, 0, none⟩) (by show w.heap.size + 1 < _; omega)).trans c_a1_9_0
  have c_a1_10_1 := (bel10.cell (p := ⟨w.heap.size + 1, 1, none⟩) (by show w.heap.size + 1 < _; omega)).trans c_a1_9_1
  have c_a1_10_2 := (bel10.cell (p := ⟨w.heap.size + 1, 2, none⟩) (by show w.heap.size + 1 < _; omega)).trans c_a1_9_2
  have c_v_10_0 := (bel10.cell (p := ⟨b_v, 0, none⟩) (by show b_v < _; omega)).trans c_v_9_0
  have c_v_10_1 := (bel10.cell (p := ⟨b_v, 1, none⟩) (by show b_v < _; omega)).trans c_v_9_1
  have c_v_10_2 := (bel10.cell (p := ⟨b_v, 2, none⟩) (by show b_v < _; omega)).trans c_v_9_2
  have c_x0_10_0 := (bel10.cell (p := ⟨m4, 0, none⟩) (by show m4 < _; omega)).trans c_x0_9_0
  have c_x0_10_1 := (bel10.cell (p := ⟨m4, 1, none⟩) (by show m4 < _; omega)).trans c_x0_9_1
  have c_x0_10_2 := (bel10.cell (p := ⟨m4, 2, none⟩) (by show m4 < _; omega)).trans c_x0_9_2
  have c_x1_10_0 := (bel10.cell (p := ⟨m6, 0, none⟩) (by show m6 < _; omega)).trans c_x1_9_0
  have c_x1_10_1 := (bel10.cell (p := ⟨m6, 1, none⟩) (by show m6 < _; omega)).trans c_x1_9_1
  have c_x1_10_2 := (bel10.cell (p := ⟨m6, 2, none⟩) (by show m6 < _; omega)).trans c_x1_9_2
  have c_g_10_0 := (bel10.cell (p := ⟨m8, 0, none⟩) (by show m8 < _; omega)).trans c_g_9_0
  have c_g_10_1 := (bel10.cell (p := ⟨m8, 1, none⟩) (by show m8 < _; omega)).trans c_g_9_1
  have c_g_10_2 := (bel10.cell (p := ⟨m8, 2, none⟩) (by show m8 < _; omega)).trans c_g_9_2
  have o_v_10 := Lib.hid (o_v_9.out.below bel10)
  have o_x0_10 := Lib.hid (o_x0_9.out.below bel10)
  have o_x1_10 := Lib.hid (o_x1_9.out.below bel10)
  have o_g_10 := Lib.hid (o_g_9.out.below bel10)
  clear bel10 B9 o_v_9 o_x0_9 o_x1_9 o_g_9 c_a0_9_0 c_a0_9_1 c_a0_9_2 c_a1_9_0 c_a1_9_1 c_a1_9_2 c_v_9_0 c_v_9_1 c_v_9_2 c_x0_9_0 c_x0_9_1 c_x0_9_2 c_x1_9_0 c_x1_9_1 c_x1_9_2 c_g_9_0 c_g_9_1 c_g_9_2
  generalize w9.heap.size = m9 at *
  have R_x := Lib.hid (o_x0_10.out.rd)
  have HBx := Lib.hid B10
  go_upto_region 14 with (fail)
  go_cut [58] (fun b wx => b = .bool false ∧ Below w10.heap.size w10 wx)
  case first =>
    go_wp2_with (fail)
    go_region_with (first
      | (go_at_call 11; refine (toN_any h0 x0 w10.drew ((H0.out.below HBx.out).more HBx.out.size) SM0.out.q SM0.out.w SM0.out.l SM0.out.c).mono ?_; rintro e wt ⟨ht, rfl, ownt, belt'⟩; have belt := undrew belt'; have cxt0 := (belt.cell (p := ⟨m4, 0, none⟩) (by show m4 < _; omega)).trans c_x0_10_0; have cxt1 := (belt.cell (p := ⟨m4, 1, none⟩) (by show m4 < _; omega)).trans c_x0_10_1; have cxt2 := (belt.cell (p := ⟨m4, 2, none⟩) (by show m4 < _; omega)).trans c_x0_10_2; have R7 := Lib.hid ((R_x.out.below belt).more belt.size); have S7 := Lib.hid ownt.rd; have B7 := Lib.hid belt; clear ownt belt belt')
      | (go_at_call 13; refine (eqN_any h_x0 _ x0 _ R7.out S7.out SM0.out.q SM0.out.w SM0.out.l SM0.out.c).mono ?_; rintro e wu ⟨rfl, belu⟩; have B8 := Lib.hid (B7.out.trans (belu.mono B7.out.size)); clear belu))
    all_goals (try go_wp2_with (fail))
    all_goals go_meet
    all_goals exact ⟨rfl, B8.out⟩
  case rest =>
  obtain ⟨rfl, bel11⟩ := hcut
  clear R_x HBx
  rename World => w11
  have s11 := bel11.size
  have B11 := B10.trans (bel11.mono B10.size)
  have c_a0_11_0 := (bel11.cell (p := ⟨w.heap.size, 0, none⟩) (by show w.heap.size < _; omega)).trans c_a0_10_0
  have c_a0_11_1 := (bel11.cell (p := ⟨w.heap.size, 1, none⟩) (by show w.heap.size < _; omega)).trans c_a0_10_1
  have c_a0_11_2 := (bel11.cell (p := ⟨w.heap.size, 2, none⟩) (by show w.heap.size < _; omega)).trans c_a0_10_2
  have c_a1_11_0 := (bel11.cell (p := ⟨w.heap.size + 1, 0, none⟩) (by show w.heap.size + 1 < _; omega)).trans c_a1_10_0
  have c_a1_11_1 := (bel11.cell (p := ⟨w.heap.size + 1, 1, none⟩) (by show w.heap.size + 1 < _; omega)).trans c_a1_10_1
  have c_a1_11_2 := (bel11.cell (p := ⟨w.heap.size + 1, 2, none⟩) (by show w.heap.size + 1 < _; omega)).trans c_a1_10_2
  have c_v_11_0 := (bel11.cell (p := ⟨b_v, 0, none⟩) (by show b_v < _; omega)).trans c_v_10_0
  have c_v_11_1 := (bel11.cell (p := ⟨b_v, 1, none⟩) (by show b_v < _; omega)).trans c_v_10_1
  have c_v_11_2 := (bel11.cell (p := ⟨b_v, 2, none⟩) (by show b_v < _; omega)).trans c_v_10_2
  have c_x0_11_0 := (bel11.cell (p := ⟨m4, 0, none⟩) (by show m4 < _; omega)).trans c_x0_10_0
  have c_x0_11_1 := (bel11.cell (p := ⟨m4, 1, none⟩) (by show m4 < _; omega)).trans c_x0_10_1
  have c_x0_11_2 := (bel11.cell (p := ⟨m4, 2, none⟩) (by show m4 < _; omega)).trans c_x0_10_2
  have c_x1_11_0 := (bel11.cell (p := ⟨m6, 0, none⟩) (by show m6 < _; omega)).trans c_x1_10_0
  have c_x1_11_1 := (bel11.cell (p := ⟨m6, 1, none⟩) (by show m6 < _; omega)).trans c_x1_10_1
  have c_x1_11_2 := (bel11.cell (p := ⟨m6, 2, none⟩) (by show m6 < _; omega)).trans c_x1_10_2
  have c_g_11_0 := (bel11.cell (p := ⟨m8, 0, none⟩) (by show m8 < _; omega)).trans c_g_10_0
  have c_g_11_1 := (bel11.cell (p := ⟨m8, 1, none⟩) (by show m8 < _; omega)).trans c_g_10_1
  have c_g_11_2 := (bel11.cell (p := ⟨m8, 2, none⟩) (by show m8 < _; omega)).trans c_g_10_2
  have o_v_11 := Lib.hid (o_v_10.out.below bel11)
  have o_x0_11 := Lib.hid (o_x0_10.out.below bel11)
  have o_x1_11 := Lib.hid (o_x1_10.out.below bel11)
  have o_g_11 := Lib.hid (o_g_10.out.below bel11)
  clear bel11 B10 o_v_10 o_x0_10 o_x1_10 o_g_10 c_a0_10_0 c_a0_10_1 c_a0_10_2 c_a1_10_0 c_a1_10_1 c_a1_10_2 c_v_10_0 c_v_10_1 c_v_10_2 c_x0_10_0 c_x0_10_1 c_x0_10_2 c_x1_10_0 c_x1_10_1 c_x1_10_2 c_g_10_0 c_g_10_1 c_g_10_2
  generalize w10.heap.size = m10 at *
  have R_x := Lib.hid (o_x1_11.out.rd)
  have HBx := Lib.hid B11
  go_upto_region 16 with (fail)
  go_cut [63] (fun b wx => b = .bool false ∧ Below w11.heap.size w11 wx)
  case first =>
    go_wp2_with (fail)
    go_region_with (first
      | (go_at_call 11; refine (toN_any h1 x1 w11.drew ((H1.out.below HBx.out).more HBx.out.size) SM1.out.q SM1.out.w SM1.out.l SM1.out.c).mono ?_; rintro e wt ⟨ht, rfl, ownt, belt'⟩; have belt := undrew belt'; have cxt0 := (belt.cell (p := ⟨m6, 0, none⟩) (by show m6 < _; omega)).trans c_x1_11_0; have cxt1 := (belt.cell (p := ⟨m6, 1, none⟩) (by show m6 < _; omega)).trans c_x1_11_1; have cxt2 := (belt.cell (p := ⟨m6, 2, none⟩) (by show m6 < _; omega)).trans c_x1_11_2; have R7 := Lib.hid ((R_x.out.below belt).more belt.size); have S7 := Lib.hid ownt.rd; have B7 := Lib.hid belt; clear ownt belt belt')
      | (go_at_call 13; refine (eqN_any h_x1 _ x1 _ R7.out S7.out SM1.out.q SM1.out.w SM1.out.l SM1.out.c).mono ?_; rintro e wu ⟨rfl, belu⟩; have B8 := Lib.hid (B7.out.trans (belu.mono B7.out.size)); clear belu))
    all_goals (try go_wp2_with (fail))
    all_goals go_meet
    all_goals exact ⟨rfl, B8.out⟩
  case rest =>
  obtain ⟨rfl, bel12⟩ := hcut
  clear R_x HBx
  rename World => w12
  have s12 := bel12.size
  have B12 := B11.trans (bel12.mono B11.size)
  have c_a0_12_0 := (bel12.cell (p := ⟨w.heap.size, 0, none⟩) (by show w.heap.size < _; omega)).trans c_a0_11_0
  have c_a0_12_1 := (bel12.cell (p := ⟨w.heap.size, 1, none⟩) (by show w.heap.size < _; omega)).trans c_a0_11_1
  have c_a0_12_2 := (bel12.cell (p := ⟨w.heap.size, 2, none⟩) (by show w.heap.size < _; omega)).trans c_a0_11_2
  have c_a1_12_0 := (bel12.cell (p := ⟨w.heap.size + 1, 0, none⟩) (by show w.heap.size + 1 < _; omega)).trans c_a1_11_0
  have c_a1_12_1 := (bel12.cell (p := ⟨w.heap.size + 1, 1, none⟩) (by show w.heap.size + 1 < _; omega)).trans c_a1_11_1
  have c_a1_12_2 := (bel12.cell (p := ⟨w.heap.size + 1, 2, none⟩) (by show w.heap.size + 1 < _; omega)).trans c_a1_11_2
  have c_v_12_0 := (bel12.cell (p := ⟨b_v, 0, none⟩) (by show b_v < _; omega)).trans c_v_11_0
  have c_v_12_1 := (bel12.cell (p := ⟨b_v, 1, none⟩) (by show b_v < _; omega)).trans c_v_11_1
  have c_v_12_2 := (bel12.cell (p := ⟨b_v, 2, none⟩) (by show b_v < _; omega)).trans c_v_11_2
  have c_x0_12_0 := (bel12.cell (p := ⟨m4, 0, none⟩) (by show m4 < _; omega)).trans c_x0_11_0
  have c_x0_12_1 := (bel12.cell (p := ⟨m4, 1, none⟩) (by show m4 < _; omega)).trans c_x0_11_1
  have c_x0_12_2 := (bel12.cell (p := ⟨m4, 2, none⟩) (by show m4 < _; omega)).trans c_x0_11_2
  have c_x1_12_0 := (bel12.cell (p := ⟨m6, 0, none⟩) (by show m6 < _; omega)).trans c_x1_11_0
  have c_x1_12_1 := (bel12.cell (p := ⟨m6, 1, none⟩) (by show m6 < _; omega)).trans c_x1_11_1
  have c_x1_12_2 := (bel12.cell (p := ⟨m6, 2, none⟩) (by show m6 < _; omega)).trans c_x1_11_2
  have c_g_12_0 := (bel12.cell (p := ⟨m8, 0, none⟩) (by show m8 < _; omega)).trans c_g_11_0
  have c_g_12_1 := (bel12.cell (p := ⟨m8, 1, none⟩) (by show m8 < _; omega)).trans c_g_11_1
  have c_g_12_2 := (bel12.cell (p := ⟨m8, 2, none⟩) (by show m8 < _; omega)).trans c_g_11_2
  have o_v_12 := Lib.hid (o_v_11.out.below bel12)
  have o_x0_12 := Lib.hid (o_x0_11.out.below bel12)
  have o_x1_12 := Lib.hid (o_x1_11.out.below bel12)
  have o_g_12 := Lib.hid (o_g_11.out.below bel12)
  clear bel12 B11 o_v_11 o_x0_11 o_x1_11 o_g_11 c_a0_11_0 c_a0_11_1 c_a0_11_2 c_a1_11_0 c_a1_11_1 c_a1_11_2 c_v_11_0 c_v_11_1 c_v_11_2 c_x0_11_0 c_x0_11_1 c_x0_11_2 c_x1_11_0 c_x1_11_1 c_x1_11_2 c_g_11_0 c_g_11_1 c_g_11_2
  generalize w11.heap.size = m11 at *
  go_wp2_with (fail)
  refine (markN_any h_x0 x0 (1) w12 _ _ o_x0_12.out SM0.out.w SM0.out.t SM0.out.l SM0.out.c (by omega) (by omega)).mono ?_
  rintro e w13 ⟨rfl, own13, kp13⟩
  have o_x0_13 := Lib.hid own13
  clear own13
  have s13 := kp13.size
  have B13 := kp13.to_below B12 (by omega) B12.size
  have c_a0_13_0 := (kept_cell kp13 (p := ⟨w.heap.size, 0, none⟩) (by show w.heap.size < _; omega) (by show w.heap.size < _ ∨ _ ≤ w.heap.size; omega)).trans c_a0_12_0
  have c_a0_13_1 := (kept_cell kp13 (p := ⟨w.heap.size, 1, none⟩) (by show w.heap.size < _; omega) (by show w.heap.size < _ ∨ _ ≤ w.heap.size; omega)).trans c_a0_12_1
  have c_a0_13_2 := (kept_cell kp13 (p := ⟨w.heap.size, 2, none⟩) (by show w.heap.size < _; omega) (by show w.heap.size < _ ∨ _ ≤ w.heap.size; omega)).trans c_a0_12_2
  have c_a1_13_0 := (kept_cell kp13 (p := ⟨w.heap.size + 1, 0, none⟩) (by show w.heap.size + 1 < _; omega) (by show w.heap.size + 1 < _ ∨ _ ≤ w.heap.size + 1; omega)).trans c_a1_12_0
  have c_a1_13_1 := (kept_cell kp13 (p := ⟨w.heap.size + 1, 1, none⟩) (by show w.heap.size + 1 < _; omega) (by show w.heap.size + 1 < _ ∨ _ ≤ w.heap.size + 1; omega)).trans c_a1_12_1
  have c_a1_13_2 := (kept_cell kp13 (p := ⟨w.heap.size + 1, 2, none⟩) (by show w.heap.size + 1 < _; omega) (by show w.heap.size + 1 < _ ∨ _ ≤ w.heap.size + 1; omega)).trans c_a1_12_2
  have c_v_13_0 := (kept_cell kp13 (p := ⟨b_v, 0, none⟩) (by show b_v < _; omega) (by show b_v < _ ∨ _ ≤ b_v; omega)).trans c_v_12_0
  have c_v_13_1 := (kept_cell kp13 (p := ⟨b_v, 1, none⟩) (by show b_v < _; omega) (by show b_v < _ ∨ _ ≤ b_v; omega)).trans c_v_12_1
  have c_v_13_2 := (kept_cell kp13 (p := ⟨b_v, 2, none⟩) (by show b_v < _; omega) (by show b_v < _ ∨ _ ≤ b_v; omega)).trans c_v_12_2
  have c_x0_13_0 := (kept_cell kp13 (p := ⟨m4, 0, none⟩) (by show m4 < _; omega) (by show m4 < _ ∨ _ ≤ m4; omega)).trans c_x0_12_0
  have c_x0_13_1 := (kept_cell kp13 (p := ⟨m4, 1, none⟩) (by show m4 < _; omega) (by show m4 < _ ∨ _ ≤ m4; omega)).trans c_x0_12_1
  have c_x0_13_2 := (kept_cell kp13 (p := ⟨m4, 2, none⟩) (by show m4 < _; omega) (by show m4 < _ ∨ _ ≤ m4; omega)).trans c_x0_12_2
  have c_x1_13_0 := (kept_cell kp13 (p := ⟨m6, 0, none⟩) (by show m6 < _; omega) (by show m6 < _ ∨ _ ≤ m6; omega)).trans c_x1_12_0
  have c_x1_13_1 := (kept_cell kp13 (p := ⟨m6, 1, none⟩) (by show m6 < _; omega) (by show m6 < _ ∨ _ ≤ m6; omega)).trans c_x1_12_1
  have c_x1_13_2 := (kept_cell kp13 (p := ⟨m6, 2, none⟩) (by show m6 < _; omega) (by show m6 < _ ∨ _ ≤ m6; omega)).trans c_x1_12_2
  have c_g_13_0 := (kept_cell kp13 (p := ⟨m8, 0, none⟩) (by show m8 < _; omega) (by show m8 < _ ∨ _ ≤ m8; omega)).trans c_g_12_0
  have c_g_13_1 := (kept_cell kp13 (p := ⟨m8, 1, none⟩) (by show m8 < _; omega) (by show m8 < _ ∨ _ ≤ m8; omega)).trans c_g_12_1
  have c_g_13_2 := (kept_cell kp13 (p := ⟨m8, 2, none⟩) (by show m8 < _; omega) (by show m8 < _ ∨ _ ≤ m8; omega)).trans c_g_12_2
  have o_v_13 := Lib.hid (o_v_12.out.kept kp13 (by omega))
  have o_x1_13 := Lib.hid (o_x1_12.out.kept kp13 (by omega))
  have o_g_13 := Lib.hid (o_g_12.out.kept kp13 (by omega))
  clear kp13 B12 o_v_12 o_x0_12 o_x1_12 o_g_12 c_a0_12_0 c_a0_12_1 c_a0_12_2 c_a1_12_0 c_a1_12_1 c_a1_12_2 c_v_12_0 c_v_12_1 c_v_12_2 c_x0_12_0 c_x0_12_1 c_x0_12_2 c_x1_12_0 c_x1_12_1 c_x1_12_2 c_g_12_0 c_g_12_1 c_g_12_2
  generalize w12.heap.size = m12 at *
  go_wp2_with (fail)
  refine (markN_any h_x1 x1 (1 + ((ntot x0 : Nat) : Int)) w13 _ _ o_x1_13.out SM1.out.w SM1.out.t SM1.out.l SM1.out.c (by omega) (by omega)).mono ?_
  rintro e w14 ⟨rfl, own14, kp14⟩
  have o_x1_14 := Lib.hid own14
  clear own14
  have s14 := kp14.size
  have B14 := kp14.to_below B13 (by omega) B13.size
  have c_a0_14_0 := (kept_cell kp14 (p := ⟨w.heap.size, 0, none⟩) (by show w.heap.size < _; omega) (by show w.heap.size < _ ∨ _ ≤ w.heap.size; omega)).trans c_a0_13_0
  have c_a0_14_1 := (kept_cell kp14 (p := ⟨w.heap.size, 1, none⟩) (by show w.heap.size < _; omega) (by show w.heap.size < _ ∨ _ ≤ w.heap.size; omega)).trans c_a0_13_1
  have c_a0_14_2 := (kept_cell kp14 (p := ⟨w.heap.size, 2, none⟩) (by show w.heap.size < _; omega) (by show w.heap.size < _ ∨ _ ≤ w.heap.size; omega)).trans c_a0_13_2
  have c_a1_14_0 := (kept_cell kp14 (p := ⟨w.heap.size + 1, 0, none⟩) (by show w.heap.size + 1 < _; omega) (by show w.heap.size + 1 < _ ∨ _ ≤ w.heap.size + 1; omega)).trans c_a1_13_0
  have c_a1_14_1 := (kept_cell kp14 (p := ⟨w.heap.size + 1, 1, none⟩) (by show w.heap.size + 1 < _; omega) (by show w.heap.size + 1 < _ ∨ _ ≤ w.heap.size + 1; omega)).trans c_a1_13_1
  have c_a1_14_2 := (kept_cell kp14 (p := ⟨w.heap.size + 1, 2, none⟩) (by show w.heap.size + 1 < _; omega) (by show w.heap.size + 1 < _ ∨ _ ≤ w.heap.size + 1; omega)).trans c_a1_13_2
  have c_v_14_0 := (kept_cell kp14 (p := ⟨b_v, 0, none⟩) (by show b_v < _; omega) (by show b_v < _ ∨ _ ≤ b_v; omega)).trans c_v_13_0
  have c_v_14_1 := (kept_cell kp14 (p := ⟨b_v, 1, none⟩) (by show b_v < _; omega) (by show b_v < _ ∨ _ ≤ b_v; omega)).trans c_v_13_1
  have c_v_14_2 := (kept_cell kp14 (p := ⟨b_v, 2, none⟩) (by show b_v < _; omega) (by show b_v < _ ∨ _ ≤ b_v; omega)).trans c_v_13_2
  have c_x0_14_0 := (kept_cell kp14 (p := ⟨m4, 0, none⟩) (by show m4 < _; omega) (by show m4 < _ ∨ _ ≤ m4; omega)).trans c_x0_13_0
  have c_x0_14_1 := (kept_cell kp14 (p := ⟨m4, 1, none⟩) (by show m4 < _; omega) (by show m4 < _ ∨ _ ≤ m4; omega)).trans c_x0_13_1
  have c_x0_14_2 := (kept_cell kp14 (p := ⟨m4, 2, none⟩) (by show m4 < _; omega) (by show m4 < _ ∨ _ ≤ m4; omega)).trans c_x0_13_2
  have c_x1_14_0 := (kept_cell kp14 (p := ⟨m6, 0, none⟩) (by show m6 < _; omega) (by show m6 < _ ∨ _ ≤ m6; omega)).trans c_x1_13_0
  have c_x1_14_1 := (kept_cell kp14 (p := ⟨m6, 1, none⟩) (by show m6 < _; omega) (by show m6 < _ ∨ _ ≤ m6; omega)).trans c_x1_13_1
  have c_x1_14_2 := (kept_cell kp14 (p := ⟨m6, 2, none⟩) (by show m6 < _; omega) (by show m6 < _ ∨ _ ≤ m6; omega)).trans c_x1_13_2
  have c_g_14_0 := (kept_cell kp14 (p := ⟨m8, 0, none⟩) (by show m8 < _; omega) (by show m8 < _ ∨ _ ≤ m8; omega)).trans c_g_13_0
  have c_g_14_1 := (kept_cell kp14 (p := ⟨m8, 1, none⟩) (by show m8 < _; omega) (by show m8 < _ ∨ _ ≤ m8; omega)).trans c_g_13_1
  have c_g_14_2 := (kept_cell kp14 (p := ⟨m8, 2, none⟩) (by show m8 < _; omega) (by show m8 < _ ∨ _ ≤ m8; omega)).trans c_g_13_2
  have o_v_14 := Lib.hid (o_v_13.out.kept kp14 (by omega))
  have o_x0_14 := Lib.hid (o_x0_13.out.kept kp14 (by omega))
  have o_g_14 := Lib.hid (o_g_13.out.kept kp14 (by omega))
  clear kp14 B13 o_v_13 o_x0_13 o_x1_13 o_g_13 c_a0_13_0 c_a0_13_1 c_a0_13_2 c_a1_13_0 c_a1_13_1 c_a1_13_2 c_v_13_0 c_v_13_1 c_v_13_2 c_x0_13_0 c_x0_13_1 c_x0_13_2 c_x1_13_0 c_x1_13_1 c_x1_13_2 c_g_13_0 c_g_13_1 c_g_13_2
  generalize w13.heap.size = m13 at *
  have hkk : decide (1 + ((ntot x0 : Nat) : Int) + ((ntot x1 : Nat) : Int) < 0) = false := decide_eq_false (by omega)
  clear o_x0_14
  clear o_x1_14
  go_wp2_with (fail)
  refine (eqN_any h_g h_v V w14 (o_g_14.out.rd) (o_v_14.out.rd) SMV.out.q SMV.out.w SMV.out.l SMV.out.c).mono ?_
  rintro e w15 ⟨rfl, bel15⟩
  have s15 := bel15.size
  have B15 := B14.trans (bel15.mono B14.size)
  have c_a0_15_0 := (bel15.cell (p := ⟨w.heap.size, 0, none⟩) (by show w.heap.size < _; omega)).trans c_a0_14_0
  have c_a0_15_1 := (bel15.cell (p := ⟨w.heap.size, 1, none⟩) (by show w.heap.size < _; omega)).trans c_a0_14_1
  have c_a0_15_2 := (bel15.cell (p := ⟨w.heap.size, 2, none⟩) (by show w.heap.size < _; omega)).trans c_a0_14_2
  have c_a1_15_0 := (bel15.cell (p := ⟨w.heap.size + 1, 0, none⟩) (by show w.heap.size + 1 < _; omega)).trans c_a1_14_0
  have c_a1_15_1 := (bel15.cell (p := ⟨w.heap.size + 1, 1, none⟩) (by show w.heap.size + 1 < _; omega)).trans c_a1_14_1
  have c_a1_15_2 := (bel15.cell (p := ⟨w.heap.size + 1, 2, none⟩) (by show w.heap.size + 1 < _; omega)).trans c_a1_14_2
  have c_v_15_0 := (bel15.cell (p := ⟨b_v, 0, none⟩) (by show b_v < _; omega)).trans c_v_14_0
  have c_v_15_1 := (bel15.cell (p := ⟨b_v, 1, none⟩) (by show b_v < _; omega)).trans c_v_14_1
  have c_v_15_2 := (bel15.cell (p := ⟨b_v, 2, none⟩) (by show b_v < _; omega)).trans c_v_14_2
  have c_x0_15_0 := (bel15.cell (p := ⟨m4, 0, none⟩) (by show m4 < _; omega)).trans c_x0_14_0
  have c_x0_15_1 := (bel15.cell (p := ⟨m4, 1, none⟩) (by show m4 < _; omega)).trans c_x0_14_1
  have c_x0_15_2 := (bel15.cell (p := ⟨m4, 2, none⟩) (by show m4 < _; omega)).trans c_x0_14_2
  have c_x1_15_0 := (bel15.cell (p := ⟨m6, 0, none⟩) (by show m6 < _; omega)).trans c_x1_14_0
  have c_x1_15_1 := (bel15.cell (p := ⟨m6, 1, none⟩) (by show m6 < _; omega)).trans c_x1_14_1
  have c_x1_15_2 := (bel15.cell (p := ⟨m6, 2, none⟩) (by show m6 < _; omega)).trans c_x1_14_2
  have c_g_15_0 := (bel15.cell (p := ⟨m8, 0, none⟩) (by show m8 < _; omega)).trans c_g_14_0
  have c_g_15_1 := (bel15.cell (p := ⟨m8, 1, none⟩) (by show m8 < _; omega)).trans c_g_14_1
  have c_g_15_2 := (bel15.cell (p := ⟨m8, 2, none⟩) (by show m8 < _; omega)).trans c_g_14_2
  have o_v_15 := Lib.hid (o_v_14.out.below bel15)
  have o_g_15 := Lib.hid (o_g_14.out.below bel15)
  clear bel15 B14 o_v_14 o_g_14 c_a0_14_0 c_a0_14_1 c_a0_14_2 c_a1_14_0 c_a1_14_1 c_a1_14_2 c_v_14_0 c_v_14_1 c_v_14_2 c_x0_14_0 c_x0_14_1 c_x0_14_2 c_x1_14_0 c_x1_14_1 c_x1_14_2 c_g_14_0 c_g_14_1 c_g_14_2
  generalize w14.heap.size = m14 at *
  have hmm : decide (1 + ((ntot V : Nat) : Int) < 0) = false := decide_eq_false (by omega)
  go_wp2_with (fail)
  refine (markN_any h_g V (1) w15 _ _ o_g_15.out SMV.out.w SMV.out.t SMV.out.l SMV.out.c (by omega) (by omega)).mono ?_
  rintro e w16 ⟨rfl, own16, kp16⟩
  have o_g_16 := Lib.hid own16
  clear own16
  have s16 := kp16.size
  have B16 := kp16.to_below B15 (by omega) B15.size
  have c_a0_16_0 := (kept_cell kp16 (p := ⟨w.heap.size, 0, none⟩) (by show w.heap.size < _; omega) (by show w.heap.size < _ ∨ _ ≤ w.heap.size; omega)).trans c_a0_15_0
  have c_a0_16_1 := (kept_cell kp16 (p := ⟨w.heap.size, 1, none⟩) (by show w.heap.size < _; omega) (by show w.heap.size < _ ∨ _ ≤ w.heap.size; omega)).trans c_a0_15_1
  have c_a0_16_2 := (kept_cell kp16 (p := ⟨w.heap.size, 2, none⟩) (by show w.heap.size < _; omega) (by show w.heap.size < _ ∨ _ ≤ w.heap.size; omega)).trans c_a0_15_2
  have c_a1_16_0 := (kept_cell kp16 (p := ⟨w.heap.size + 1, 0, none⟩) (by show w.heap.size + 1 < _; omega) (by show w.heap.size + 1 < _ ∨ _ ≤ w.heap.size + 1; omega)).trans c_a1_15_0
  have c_a1_16_1 := (kept_cell kp16 (p := ⟨w.heap.size + 1, 1, none⟩) (by show w.heap.size + 1 < _; omega) (by show w.heap.size + 1 < _ ∨ _ ≤ w.heap.size + 1; omega)).trans c_a1_15_1
  have c_a1_16_2 := (kept_cell kp16 (p := ⟨w.heap.size + 1, 2, none⟩) (by show w.heap.size + 1 < _; omega) (by show w.heap.size + 1 < _ ∨ _ ≤ w.heap.size + 1; omega)).trans c_a1_15_2
  have c_v_16_0 := (kept_cell kp16 (p := ⟨b_v, 0, none⟩) (by show b_v < _; omega) (by show b_v < _ ∨ _ ≤ b_v; omega)).trans c_v_15_0
  have c_v_16_1 := (kept_cell kp16 (p := ⟨b_v, 1, none⟩) (by show b_v < _; omega) (by show b_v < _ ∨ _ ≤ b_v; omega)).trans c_v_15_1
  have c_v_16_2 := (kept_cell kp16 (p := ⟨b_v, 2, none⟩) (by show b_v < _; omega) (by show b_v < _ ∨ _ ≤ b_v; omega)).trans c_v_15_2
  have c_x0_16_0 := (kept_cell kp16 (p := ⟨m4, 0, none⟩) (by show m4 < _; omega) (by show m4 < _ ∨ _ ≤ m4; omega)).trans c_x0_15_0
  have c_x0_16_1 := (kept_cell kp16 (p := ⟨m4, 1, none⟩) (by show m4 < _; omega) (by show m4 < _ ∨ _ ≤ m4; omega)).trans c_x0_15_1
  have c_x0_16_2 := (kept_cell kp16 (p := ⟨m4, 2, none⟩) (by show m4 < _; omega) (by show m4 < _ ∨ _ ≤ m4; omega)).trans c_x0_15_2
  have c_x1_16_0 := (kept_cell kp16 (p := ⟨m6, 0, none⟩) (by show m6 < _; omega) (by show m6 < _ ∨ _ ≤ m6; omega)).trans c_x1_15_0
  have c_x1_16_1 := (kept_cell kp16 (p := ⟨m6, 1, none⟩) (by show m6 < _; omega) (by show m6 < _ ∨ _ ≤ m6; omega)).trans c_x1_15_1
  have c_x1_16_2 := (kept_cell kp16 (p := ⟨m6, 2, none⟩) (by show m6 < _; omega) (by show m6 < _ ∨ _ ≤ m6; omega)).trans c_x1_15_2
  have c_g_16_0 := (kept_cell kp16 (p := ⟨m8, 0, none⟩) (by show m8 < _; omega) (by show m8 < _ ∨ _ ≤ m8; omega)).trans c_g_15_0
  have c_g_16_1 := (kept_cell kp16 (p := ⟨m8, 1, none⟩) (by show m8 < _; omega) (by show m8 < _ ∨ _ ≤ m8; omega)).trans c_g_15_1
  have c_g_16_2 := (kept_cell kp16 (p := ⟨m8, 2, none⟩) (by show m8 < _; omega) (by show m8 < _ ∨ _ ≤ m8; omega)).trans c_g_15_2
  have o_v_16 := Lib.hid (o_v_15.out.kept kp16 (by omega))
  clear kp16 B15 o_v_15 o_g_15 c_a0_15_0 c_a0_15_1 c_a0_15_2 c_a1_15_0 c_a1_15_1 c_a1_15_2 c_v_15_0 c_v_15_1 c_v_15_2 c_x0_15_0 c_x0_15_1 c_x0_15_2 c_x1_15_0 c_x1_15_1 c_x1_15_2 c_g_15_0 c_g_15_1 c_g_15_2
  generalize w15.heap.size = m15 at *
  go_wp2_with (fail)
  refine (heldN_any h_g V 1 w16 (rd_mrk o_g_16.out.rd) SMV.out.w SMV.out.t SMV.out.l SMV.out.c (by decide) (by decide)).mono ?_
  rintro e w17 ⟨rfl, bel17⟩
  have s17 := bel17.size
  have B17 := B16.trans (bel17.mono B16.size)
  have c_a0_17_0 := (bel17.cell (p := ⟨w.heap.size, 0, none⟩) (by show w.heap.size < _; omega)).trans c_a0_16_0
  have c_a0_17_1 := (bel17.cell (p := ⟨w.heap.size, 1, none⟩) (by show w.heap.size < _; omega)).trans c_a0_16_1
  have c_a0_17_2 := (bel17.cell (p := ⟨w.heap.size, 2, none⟩) (by show w.heap.size < _; omega)).trans c_a0_16_2
  have c_a1_17_0 := (bel17.cell (p := ⟨w.heap.size + 1, 0, none⟩) (by show w.heap.size + 1 < _; omega)).trans c_a1_16_0
  have c_a1_17_1 := (bel17.cell (p := ⟨w.heap.size + 1, 1, none⟩) (by show w.heap.size + 1 < _; omega)).trans c_a1_16_1
  have c_a1_17_2 := (bel17.cell (p := ⟨w.heap.size + 1, 2, none⟩) (by show w.heap.size + 1 < _; omega)).trans c_a1_16_2
  have c_v_17_0 := (bel17.cell (p := ⟨b_v, 0, none⟩) (by show b_v < _; omega)).trans c_v_16_0
  have c_v_17_1 := (bel17.cell (p := ⟨b_v, 1, none⟩) (by show b_v < _; omega)).trans c_v_16_1
  have c_v_17_2 := (bel17.cell (p := ⟨b_v, 2, none⟩) (by show b_v < _; omega)).trans c_v_16_2
  have c_x0_17_0 := (bel17.cell (p := ⟨m4, 0, none⟩) (by show m4 < _; omega)).trans c_x0_16_0
  have c_x0_17_1 := (bel17.cell (p := ⟨m4, 1, none⟩) (by show m4 < _; omega)).trans c_x0_16_1
  have c_x0_17_2 := (bel17.cell (p := ⟨m4, 2, none⟩) (by show m4 < _; omega)).trans c_x0_16_2
  have c_x1_17_0 := (bel17.cell (p := ⟨m6, 0, none⟩) (by show m6 < _; omega)).trans c_x1_16_0
  have c_x1_17_1 := (bel17.cell (p := ⟨m6, 1, none⟩) (by show m6 < _; omega)).trans c_x1_16_1
  have c_x1_17_2 := (bel17.cell (p := ⟨m6, 2, none⟩) (by show m6 < _; omega)).trans c_x1_16_2
  have c_g_17_0 := (bel17.cell (p := ⟨m8, 0, none⟩) (by show m8 < _; omega)).trans c_g_16_0
  have c_g_17_1 := (bel17.cell (p := ⟨m8, 1, none⟩) (by show m8 < _; omega)).trans c_g_16_1
  have c_g_17_2 := (bel17.cell (p := ⟨m8, 2, none⟩) (by show m8 < _; omega)).trans c_g_16_2
  have o_v_17 := Lib.hid (o_v_16.out.below bel17)
  have o_g_17 := Lib.hid (o_g_16.out.below bel17)
  clear bel17 B16 o_v_16 o_g_16 c_a0_16_0 c_a0_16_1 c_a0_16_2 c_a1_16_0 c_a1_16_1 c_a1_16_2 c_v_16_0 c_v_16_1 c_v_16_2 c_x0_16_0 c_x0_16_1 c_x0_16_2 c_x1_16_0 c_x1_16_1 c_x1_16_2 c_g_16_0 c_g_16_1 c_g_16_2
  generalize w16.heap.size = m16 at *
  have HBi := Lib.hid B17
  have HSX : Hid (∀ wx : World, Below w17.heap.size w17 wx → wx.cell? ⟨w.heap.size, 0, none⟩ = some (Value.slice h0.A x0.w.length h0.c) ∧ wx.cell? ⟨w.heap.size, 1, none⟩ = some (Value.slice h0.L x0.l.length h0.d) ∧ wx.cell? ⟨w.heap.size, 2, none⟩ = some (Value.slice h0.C x0.c.length h0.e) ∧ wx.cell? ⟨w.heap.size + 1, 0, none⟩ = some (Value.slice h1.A x1.w.length h1.c) ∧ wx.cell? ⟨w.heap.size + 1, 1, none⟩ = some (Value.slice h1.L x1.l.length h1.d) ∧ wx.cell? ⟨w.heap.size + 1, 2, none⟩ = some (Value.slice h1.C x1.c.length h1.e)) := Lib.hid fun wx hx => ⟨(hx.cell (p := ⟨w.heap.size, 0, none⟩) (by show w.heap.size < _; omega)).trans c_a0_17_0, (hx.cell (p := ⟨w.heap.size, 1, none⟩) (by show w.heap.size < _; omega)).trans c_a0_17_1, (hx.cell (p := ⟨w.heap.size, 2, none⟩) (by show w.heap.size < _; omega)).trans c_a0_17_2, (hx.cell (p := ⟨w.heap.size + 1, 0, none⟩) (by show w.heap.size + 1 < _; omega)).trans c_a1_17_0, (hx.cell (p := ⟨w.heap.size + 1, 1, none⟩) (by show w.heap.size + 1 < _; omega)).trans c_a1_17_1, (hx.cell (p := ⟨w.heap.size + 1, 2, none⟩) (by show w.heap.size + 1 < _; omega)).trans c_a1_17_2⟩
  go_upto_region 31 with (fail)
  go_cut [15, 16] (fun p f wx => ∃ (bv : Nat) (hv : NH), p = .pointer (some ⟨bv, 0, none⟩) ∧ f = .bool Vb ∧ wx.heap[bv]? = some (.cells #[Value.slice hv.A V.w.length hv.c, Value.slice hv.L V.l.length hv.d, Value.slice hv.C V.c.length hv.e] 30 (0, 0)) ∧ OwnN wx w17.heap.size wx.heap.size hv V ∧ Below w17.heap.size w17 wx)
  case first =>
    have FB_0 := Lib.hid (Below.refl w17.heap.size w17)
    refine wp_region_held_drew (S := fun wx => wx.cell? ⟨w.heap.size, 0, none⟩ = some (Value.slice h0.A x0.w.length h0.c) ∧ wx.cell? ⟨w.heap.size, 1, none⟩ = some (Value.slice h0.L x0.l.length h0.d) ∧ wx.cell? ⟨w.heap.size, 2, none⟩ = some (Value.slice h0.C x0.c.length h0.e) ∧ wx.cell? ⟨w.heap.size + 1, 0, none⟩ = some (Value.slice h1.A x1.w.length h1.c) ∧ wx.cell? ⟨w.heap.size + 1, 1, none⟩ = some (Value.slice h1.L x1.l.length h1.d) ∧ wx.cell? ⟨w.heap.size + 1, 2, none⟩ = some (Value.slice h1.C x1.c.length h1.e)) (by kernel_rfl) (HSX.out _ (Below.refl _ _).drew) (fun hHeld => ?_)
    obtain ⟨wp1, hwp1⟩ : ∃ w', w' = w17.drew := ⟨_, rfl⟩
    rw [← hwp1] at hHeld ⊢
    have bp1 : Below w17.heap.size w17 wp1 := by rw [hwp1]; exact (Below.refl _ _).drew
    clear hwp1
    have FB_p2 := Lib.hid ((FB_0.out).trans ((bp1).mono (FB_0.out).size))
    clear FB_0
    refine wpAnyH_take (i := 0) (v := ?vp3) rfl (by kernel_rfl) (by kernel_rfl) (by kernel_rfl) (fun _ _ _ h => h) (Or.inl ⟨by rfl, ?yp3⟩) (by assumption) ?_
    case yp3 => (intro w hSw; (try dsimp only at hSw); go_simp; all_goals (with_reducible rfl))
    (try simp only [Act.put, List.setIfInBounds_toArray, List.set_cons_zero, List.set_cons_succ, List.getElem_toArray, List.getElem_cons_succ, List.getElem_cons_zero])
    refine wpAnyH_take (i := 2) (v := ?vp4) rfl (by kernel_rfl) (by kernel_rfl) (by kernel_rfl) (fun _ _ _ h => h) (Or.inl ⟨by rfl, ?yp4⟩) (by assumption) ?_
    case yp4 => (intro w hSw; (try dsimp only at hSw); go_simp; all_goals (with_reducible rfl))
    (try simp only [Act.put, List.setIfInBounds_toArray, List.set_cons_zero, List.set_cons_succ, List.getElem_toArray, List.getElem_cons_succ, List.getElem_cons_zero])
    refine wpAnyH_ready (rs := [1, 8]) (by kernel_rfl) (by simp) ?_
    refine AllReadyH.cons rfl (fun K hK => ?_) ?_
    · go_simp
      refine (toN_any h0 x0 wp1 ((H0.out.below (HBi.out.trans (FB_p2.out.mono HBi.out.size))).more (HBi.out.trans (FB_p2.out.mono HBi.out.size)).size) SM0.out.q SM0.out.w SM0.out.l SM0.out.c).mono ?_
      rintro e wp5 ⟨hpp5, rfl, ownp5, belp5⟩
      dsimp only
      have FB_p6 := Lib.hid ((FB_p2.out).trans ((belp5).mono (FB_p2.out).size))
      clear FB_p2
      have FP0_p7 := Lib.hid ownp5
      clear ownp5 belp5
      refine hK.out _ _ (HSX.out _ FB_p6.out) (fun hHeld => ?_)
      clear hK K
      (try simp only [Act.put, List.setIfInBounds_toArray, List.set_cons_zero, List.set_cons_succ, List.getElem_toArray, List.getElem_cons_succ, List.getElem_cons_zero])
      refine wpAnyH_ready (rs := [3, 8]) (by kernel_rfl) (by simp) ?_
      refine AllReadyH.cons rfl (fun K hK => ?_) ?_
      · go_simp
        refine (toN_any h1 x1 wp5 ((H1.out.below (HBi.out.trans (FB_p6.out.mono HBi.out.size))).more (HBi.out.trans (FB_p6.out.mono HBi.out.size)).size) SM1.out.q SM1.out.w SM1.out.l SM1.out.c).mono ?_
        rintro e wp8 ⟨hpp8, rfl, ownp8, belp8⟩
        dsimp only
        have FB_p9 := Lib.hid ((FB_p6.out).trans ((belp8).mono (FB_p6.out).size))
        have FP0_p10 := Lib.hid ((FP0_p7.out).below (belp8))
        clear FB_p6 FP0_p7
        have FP1_p11 := Lib.hid ownp8
        clear ownp8 belp8
        refine hK.out _ _ (HSX.out _ FB_p9.out) (fun hHeld => ?_)
        clear hK K
        (try simp only [Act.put, List.setIfInBounds_toArray, List.set_cons_zero, List.set_cons_succ, List.getElem_toArray, List.getElem_cons_succ, List.getElem_cons_zero])
        refine wpAnyH_ready (rs := [4, 8]) (by kernel_rfl) (by simp) ?_
        refine AllReadyH.cons rfl (fun K hK => ?_) ?_
        · go_simp
          have hszp12 := FB_p9.out.size
          have hsp := unionNet_impl hpp5 hpp8 x0 x1 wp8 FP0_p10.out.rd FP1_p11.out.rd SM0.out SM1.out (HT.out.below (HBi.out.trans (FB_p9.out.mono HBi.out.size)) HT.out.lt) (HU.out.below (HBi.out.trans (FB_p9.out.mono HBi.out.size)) HU.out.lt)
          rw [HV.out, HVb.out] at hsp
          refine (hsp).mono ?_
          rintro e wp12 ⟨hpp12, rfl, ownp12, belp12⟩
          dsimp only
          have FB_p13 := Lib.hid ((FB_p9.out).trans ((belp12).mono (FB_p9.out).size))
          have FP0_p14 := Lib.hid ((FP0_p10.out).below (belp12))
          have FP1_p15 := Lib.hid ((FP1_p11.out).below (belp12))
          clear FB_p9 FP0_p10 FP1_p11
          have FV_p16 := Lib.hid ownp12
          clear hsp ownp12 belp12
          refine hK.out _ _ (HSX.out _ FB_p13.out) (fun hHeld => ?_)
          clear hK K
          (try simp only [Act.put, List.setIfInBounds_toArray, List.set_cons_zero, List.set_cons_succ, List.getElem_toArray, List.getElem_cons_succ, List.getElem_cons_zero])
          refine wpAnyH_take (i := 5) (v := ?vp17) rfl (by kernel_rfl) (by kernel_rfl) (by kernel_rfl) (fun _ _ _ h => h) (Or.inl ⟨by rfl, ?yp17⟩) (by assumption) ?_
          case yp17 => (intro w hSw; (try dsimp only at hSw); go_simp; all_goals (with_reducible rfl))
          (try simp only [Act.put, List.setIfInBounds_toArray, List.set_cons_zero, List.set_cons_succ, List.getElem_toArray, List.getElem_cons_succ, List.getElem_cons_zero])
          refine wpAnyH_take (i := 6) (v := ?vp18) rfl (by kernel_rfl) (by kernel_rfl) (by kernel_rfl) (fun _ _ _ h => h) (Or.inl ⟨by rfl, ?yp18⟩) (by assumption) ?_
          case yp18 => (intro w hSw; (try dsimp only at hSw); go_simp; all_goals (with_reducible rfl))
          (try simp only [Act.put, List.setIfInBounds_toArray, List.set_cons_zero, List.set_cons_succ, List.getElem_toArray, List.getElem_cons_succ, List.getElem_cons_zero])
          refine wpAnyH_take (i := 7) (v := ?vp19) rfl (by kernel_rfl) (by kernel_rfl) (by kernel_rfl) (fun _ _ _ h => h) (Or.inl ⟨by rfl, ?yp19⟩) (by assumption) ?_
          case yp19 => (intro w hSw; (try dsimp only at hSw); go_simp; all_goals (with_reducible rfl))
          (try simp only [Act.put, List.setIfInBounds_toArray, List.set_cons_zero, List.set_cons_succ, List.getElem_toArray, List.getElem_cons_succ, List.getElem_cons_zero])
          refine wpAnyH_ready (rs := [8]) (by kernel_rfl) (by simp) ?_
          refine AllReadyH.cons rfl (fun K hK => ?_) ?_
          · go_simp
            obtain ⟨wp20, hwp20⟩ : ∃ w', w' = wp12.alloc (.cells #[.slice none 0 0, .slice none 0 0, .slice none 0 0] 30) := ⟨_, rfl⟩
            rw [← hwp20]
            have bp20 : Below wp12.heap.size wp12 wp20 := by rw [hwp20]; exact (Below.refl _ _).alloc (Nat.le_refl _) _
            have gp20 : wp20.heap[wp12.heap.size]? = some (.cells #[.slice none 0 0, .slice none 0 0, .slice none 0 0] 30 (0, 0)) := by rw [hwp20]; exact heap_alloc_new _ _
            clear hwp20
            have hgep20 := FB_p13.out.size
            have FB_p22 := Lib.hid ((FB_p13.out).trans ((bp20).mono (FB_p13.out).size))
            have FP0_p23 := Lib.hid ((FP0_p14.out).below (bp20))
            have FP1_p24 := Lib.hid ((FP1_p15.out).below (bp20))
            have FV_p25 := Lib.hid ((FV_p16.out).below (bp20))
            clear FB_p13 FP0_p14 FP1_p15 FV_p16
            obtain ⟨gnp21, hgp21⟩ : ∃ b, wp12.heap.size = b := ⟨_, rfl⟩
            have FN_p21 := Lib.hid gp20
            have hge : w17.heap.size ≤ gnp21 := by rw [← hgp21]; exact hgep20
            have hgl : wp12.heap.size ≤ gnp21 := by rw [← hgp21]; exact Nat.le_refl _
            rw [hgp21] at FN_p21 ⊢
            clear hgp21 gp20 bp20 hgep20
            refine hK.out _ _ (HSX.out _ FB_p22.out) (fun hHeld => ?_)
            clear hK K
            (try simp only [Act.put, List.setIfInBounds_toArray, List.set_cons_zero, List.set_cons_succ, List.getElem_toArray, List.getElem_cons_succ, List.getElem_cons_zero])
            refine wpAnyH_ready (rs := [9]) (by kernel_rfl) (by simp) ?_
            refine AllReadyH.cons rfl (fun K hK => ?_) ?_
            · obtain ⟨a0, a1, a2⟩ := three_cells FN_p21.out
              have f0 := frozen_of_row _ _ 0 _ _ FN_p21.out; have f1 := frozen_of_row _ _ 1 _ _ FN_p21.out; have f2 := frozen_of_row _ _ 2 _ _ FN_p21.out
              go_simp
              clear a0 a1 a2 f0 f1 f2
              have HP9 : Hid ((((wp20.setCell ⟨gnp21, 0, none⟩ (Value.slice hpp12.A V.w.length hpp12.c)).setCell ⟨gnp21, 1, none⟩ (Value.slice hpp12.L V.l.length hpp12.d)).setCell ⟨gnp21, 2, none⟩ (Value.slice hpp12.C V.c.length hpp12.e)).heap[gnp21]? = some (.cells #[Value.slice hpp12.A V.w.length hpp12.c, Value.slice hpp12.L V.l.length hpp12.d, Value.slice hpp12.C V.c.length hpp12.e] 30 (0, 0))) := Lib.hid (set3_at FN_p21.out _ _ _)
              have HO9 : Hid (OwnN (((wp20.setCell ⟨gnp21, 0, none⟩ (Value.slice hpp12.A V.w.length hpp12.c)).setCell ⟨gnp21, 1, none⟩ (Value.slice hpp12.L V.l.length hpp12.d)).setCell ⟨gnp21, 2, none⟩ (Value.slice hpp12.C V.c.length hpp12.e)) wp8.heap.size wp12.heap.size hpp12 V) := Lib.hid (FV_p25.out.same fun k h1 h2 _ => by rw [heap_setCell_other _ _ _ _ (by show k ≠ gnp21; omega), heap_setCell_other _ _ _ _ (by show k ≠ gnp21; omega), heap_setCell_other _ _ _ _ (by show k ≠ gnp21; omega)])
              have HB9 : Hid (Below w17.heap.size w17 (((wp20.setCell ⟨gnp21, 0, none⟩ (Value.slice hpp12.A V.w.length hpp12.c)).setCell ⟨gnp21, 1, none⟩ (Value.slice hpp12.L V.l.length hpp12.d)).setCell ⟨gnp21, 2, none⟩ (Value.slice hpp12.C V.c.length hpp12.e))) := Lib.hid (((FB_p22.out.setCell (p := ⟨gnp21, 0, none⟩) hge _).setCell (p := ⟨gnp21, 1, none⟩) hge _).setCell (p := ⟨gnp21, 2, none⟩) hge _)
              refine hK.out _ _ (HSX.out _ HB9.out) (fun hHeld => ?_)
              clear hK K
              (try simp only [Act.put, List.setIfInBounds_toArray, List.set_cons_zero, List.set_cons_succ, List.getElem_toArray, List.getElem_cons_succ, List.getElem_cons_zero])
              refine wpAnyH_ready (rs := [10]) (by kernel_rfl) (by simp) ?_
              refine AllReadyH.cons rfl (fun K hK => ?_) ?_
              · go_simp
                refine hK.out _ _ hHeld (fun hHeld => ?_)
                clear hK K
                (try simp only [Act.put, List.setIfInBounds_toArray, List.set_cons_zero, List.set_cons_succ, List.getElem_toArray, List.getElem_cons_succ, List.getElem_cons_zero])
                refine wpAnyH_done (by kernel_rfl) ?_ _
                have HO8 := HO9.out.size.more (show w17.heap.size ≤ wp8.heap.size by assumption) (Nat.le_refl _)
                go_wp2_with (fail)
                go_meet
                exact ⟨_, hpp12, rfl, rfl, HP9.out, HO8, HB9.out⟩
              exact AllReadyH.nil
            exact AllReadyH.nil
          exact AllReadyH.nil
        refine AllReadyH.cons rfl (fun K hK => ?_) ?_
        · go_simp
          obtain ⟨wp26, hwp26⟩ : ∃ w', w' = wp8.alloc (.cells #[.slice none 0 0, .slice none 0 0, .slice none 0 0] 30) := ⟨_, rfl⟩
          rw [← hwp26]
          have bp26 : Below wp8.heap.size wp8 wp26 := by rw [hwp26]; exact (Below.refl _ _).alloc (Nat.le_refl _) _
          have gp26 : wp26.heap[wp8.heap.size]? = some (.cells #[.slice none 0 0, .slice none 0 0, .slice none 0 0] 30 (0, 0)) := by rw [hwp26]; exact heap_alloc_new _ _
          clear hwp26
          have hgep26 := FB_p9.out.size
          have FB_p28 := Lib.hid ((FB_p9.out).trans ((bp26).mono (FB_p9.out).size))
          have FP0_p29 := Lib.hid ((FP0_p10.out).below (bp26))
          have FP1_p30 := Lib.hid ((FP1_p11.out).below (bp26))
          clear FB_p9 FP0_p10 FP1_p11
          obtain ⟨gnp27, hgp27⟩ : ∃ b, wp8.heap.size = b := ⟨_, rfl⟩
          have FN_p27 := Lib.hid gp26
          have hge : w17.heap.size ≤ gnp27 := by rw [← hgp27]; exact hgep26
          rw [hgp27] at FN_p27 ⊢
          clear hgp27 gp26 bp26 hgep26
          refine hK.out _ _ (HSX.out _ FB_p28.out) (fun hHeld => ?_)
          clear hK K
          (try simp only [Act.put, List.setIfInBounds_toArray, List.set_cons_zero, List.set_cons_succ, List.getElem_toArray, List.getElem_cons_succ, List.getElem_cons_zero])
          refine wpAnyH_ready (rs := [4]) (by kernel_rfl) (by simp) ?_
          refine AllReadyH.cons rfl (fun K hK => ?_) ?_
          · go_simp
            have hszp31 := FB_p28.out.size
            have hsp := unionNet_impl hpp5 hpp8 x0 x1 wp26 FP0_p29.out.rd FP1_p30.out.rd SM0.out SM1.out (HT.out.below (HBi.out.trans (FB_p28.out.mono HBi.out.size)) HT.out.lt) (HU.out.below (HBi.out.trans (FB_p28.out.mono HBi.out.size)) HU.out.lt)
            rw [HV.out, HVb.out] at hsp
            have hgl : gnp27 < wp26.heap.size := (Array.getElem?_eq_some_iff.1 FN_p27.out).1
            refine (hsp).mono ?_
            rintro e wp31 ⟨hpp31, rfl, ownp31, belp31⟩
            dsimp only
            have FB_p32 := Lib.hid ((FB_p28.out).trans ((belp31).mono (FB_p28.out).size))
            have FP0_p33 := Lib.hid ((FP0_p29.out).below (belp31))
            have FP1_p34 := Lib.hid ((FP1_p30.out).below (belp31))
            have FN_p35 := Lib.hid (((belp31).block _ (Array.getElem?_eq_some_iff.1 (FN_p27.out)).1).trans (FN_p27.out))
            clear FB_p28 FP0_p29 FP1_p30 FN_p27
            have FV_p36 := Lib.hid ownp31
            clear hsp ownp31 belp31
            refine hK.out _ _ (HSX.out _ FB_p32.out) (fun hHeld => ?_)
            clear hK K
            (try simp only [Act.put, List.setIfInBounds_toArray, List.set_cons_zero, List.set_cons_succ, List.getElem_toArray, List.getElem_cons_succ, List.getElem_cons_zero])
            refine wpAnyH_take (i := 5) (v := ?vp37) rfl (by kernel_rfl) (by kernel_rfl) (by kernel_rfl) (fun _ _ _ h => h) (Or.inl ⟨by rfl, ?yp37⟩) (by assumption) ?_
            case yp37 => (intro w hSw; (try dsimp only at hSw); go_simp; all_goals (with_reducible rfl))
            (try simp only [Act.put, List.setIfInBounds_toArray, List.set_cons_zero, List.set_cons_succ, List.getElem_toArray, List.getElem_cons_succ, List.getElem_cons_zero])
            refine wpAnyH_take (i := 6) (v := ?vp38) rfl (by kernel_rfl) (by kernel_rfl) (by kernel_rfl) (fun _ _ _ h => h) (Or.inl ⟨by rfl, ?yp38⟩) (by assumption) ?_
            case yp38 => (intro w hSw; (try dsimp only at hSw); go_simp; all_goals (with_reducible rfl))
            (try simp only [Act.put, List.setIfInBounds_toArray, List.set_cons_zero, List.set_cons_succ, List.getElem_toArray, List.getElem_cons_succ, List.getElem_cons_zero])
            refine wpAnyH_take (i := 7) (v := ?vp39) rfl (by kernel_rfl) (by kernel_rfl) (by kernel_rfl) (fun _ _ _ h => h) (Or.inl ⟨by rfl, ?yp39⟩) (by assumption) ?_
            case yp39 => (intro w hSw; (try dsimp only at hSw); go_simp; all_goals (with_reducible rfl))
            (try simp only [Act.put, List.setIfInBounds_toArray, List.set_cons_zero, List.set_cons_succ, List.getElem_toArray, List.getElem_cons_succ, List.getElem_cons_zero])
            refine wpAnyH_ready (rs := [9]) (by kernel_rfl) (by simp) ?_
            refine AllReadyH.cons rfl (fun K hK => ?_) ?_
            · obtain ⟨a0, a1, a2⟩ := three_cells FN_p35.out
              have f0 := frozen_of_row _ _ 0 _ _ FN_p35.out; have f1 := frozen_of_row _ _ 1 _ _ FN_p35.out; have f2 := frozen_of_row _ _ 2 _ _ FN_p35.out
              go_simp
              clear a0 a1 a2 f0 f1 f2
              have HP9 : Hid ((((wp31.setCell ⟨gnp27, 0, none⟩ (Value.slice hpp31.A V.w.length hpp31.c)).setCell ⟨gnp27, 1, none⟩ (Value.slice hpp31.L V.l.length hpp31.d)).setCell ⟨gnp27, 2, none⟩ (Value.slice hpp31.C V.c.length hpp31.e)).heap[gnp27]? = some (.cells #[Value.slice hpp31.A V.w.length hpp31.c, Value.slice hpp31.L V.l.length hpp31.d, Value.slice hpp31.C V.c.length hpp31.e] 30 (0, 0))) := Lib.hid (set3_at FN_p35.out _ _ _)
              have HO9 : Hid (OwnN (((wp31.setCell ⟨gnp27, 0, none⟩ (Value.slice hpp31.A V.w.length hpp31.c)).setCell ⟨gnp27, 1, none⟩ (Value.slice hpp31.L V.l.length hpp31.d)).setCell ⟨gnp27, 2, none⟩ (Value.slice hpp31.C V.c.length hpp31.e)) wp26.heap.size wp31.heap.size hpp31 V) := Lib.hid (FV_p36.out.same fun k h1 h2 _ => by rw [heap_setCell_other _ _ _ _ (by show k ≠ gnp27; omega), heap_setCell_other _ _ _ _ (by show k ≠ gnp27; omega), heap_setCell_other _ _ _ _ (by show k ≠ gnp27; omega)])
              have HB9 : Hid (Below w17.heap.size w17 (((wp31.setCell ⟨gnp27, 0, none⟩ (Value.slice hpp31.A V.w.length hpp31.c)).setCell ⟨gnp27, 1, none⟩ (Value.slice hpp31.L V.l.length hpp31.d)).setCell ⟨gnp27, 2, none⟩ (Value.slice hpp31.C V.c.length hpp31.e))) := Lib.hid (((FB_p32.out.setCell (p := ⟨gnp27, 0, none⟩) hge _).setCell (p := ⟨gnp27, 1, none⟩) hge _).setCell (p := ⟨gnp27, 2, none⟩) hge _)
              refine hK.out _ _ (HSX.out _ HB9.out) (fun hHeld => ?_)
              clear hK K
              (try simp only [Act.put, List.setIfInBounds_toArray, List.set_cons_zero, List.set_cons_succ, List.getElem_toArray, List.getElem_cons_succ, List.getElem_cons_zero])
              refine wpAnyH_ready (rs := [10]) (by kernel_rfl) (by simp) ?_
              refine AllReadyH.cons rfl (fun K hK => ?_) ?_
              · go_simp
                refine hK.out _ _ hHeld (fun hHeld => ?_)
                clear hK K
                (try simp only [Act.put, List.setIfInBounds_toArray, List.set_cons_zero, List.set_cons_succ, List.getElem_toArray, List.getElem_cons_succ, List.getElem_cons_zero])
                refine wpAnyH_done (by kernel_rfl) ?_ _
                have HO8 := HO9.out.size.more (show w17.heap.size ≤ wp26.heap.size by assumption) (Nat.le_refl _)
                go_wp2_with (fail)
                go_meet
                exact ⟨_, hpp31, rfl, rfl, HP9.out, HO8, HB9.out⟩
              exact AllReadyH.nil
            exact AllReadyH.nil
          exact AllReadyH.nil
        exact AllReadyH.nil
      refine AllReadyH.cons rfl (fun K hK => ?_) ?_
      · go_simp
        obtain ⟨wp40, hwp40⟩ : ∃ w', w' = wp5.alloc (.cells #[.slice none 0 0, .slice none 0 0, .slice none 0 0] 30) := ⟨_, rfl⟩
        rw [← hwp40]
        have bp40 : Below wp5.heap.size wp5 wp40 := by rw [hwp40]; exact (Below.refl _ _).alloc (Nat.le_refl _) _
        have gp40 : wp40.heap[wp5.heap.size]? = some (.cells #[.slice none 0 0, .slice none 0 0, .slice none 0 0] 30 (0, 0)) := by rw [hwp40]; exact heap_alloc_new _ _
        clear hwp40
        have hgep40 := FB_p6.out.size
        have FB_p42 := Lib.hid ((FB_p6.out).trans ((bp40).mono (FB_p6.out).size))
        have FP0_p43 := Lib.hid ((FP0_p7.out).below (bp40))
        clear FB_p6 FP0_p7
        obtain ⟨gnp41, hgp41⟩ : ∃ b, wp5.heap.size = b := ⟨_, rfl⟩
        have FN_p41 := Lib.hid gp40
        have hge : w17.heap.size ≤ gnp41 := by rw [← hgp41]; exact hgep40
        rw [hgp41] at FN_p41 ⊢
        clear hgp41 gp40 bp40 hgep40
        refine hK.out _ _ (HSX.out _ FB_p42.out) (fun hHeld => ?_)
        clear hK K
        (try simp only [Act.put, List.setIfInBounds_toArray, List.set_cons_zero, List.set_cons_succ, List.getElem_toArray, List.getElem_cons_succ, List.getElem_cons_zero])
        refine wpAnyH_ready (rs := [3]) (by kernel_rfl) (by simp) ?_
        refine AllReadyH.cons rfl (fun K hK => ?_) ?_
        · go_simp
          refine (toN_any h1 x1 wp40 ((H1.out.below (HBi.out.trans (FB_p42.out.mono HBi.out.size))).more (HBi.out.trans (FB_p42.out.mono HBi.out.size)).size) SM1.out.q SM1.out.w SM1.out.l SM1.out.c).mono ?_
          rintro e wp44 ⟨hpp44, rfl, ownp44, belp44⟩
          dsimp only
          have FB_p45 := Lib.hid ((FB_p42.out).trans ((belp44).mono (FB_p42.out).size))
          have FP0_p46 := Lib.hid ((FP0_p43.out).below (belp44))
          have FN_p47 := Lib.hid (((belp44).block _ (Array.getElem?_eq_some_iff.1 (FN_p41.out)).1).trans (FN_p41.out))
          clear FB_p42 FP0_p43 FN_p41
          have FP1_p48 := Lib.hid ownp44
          clear ownp44 belp44
          refine hK.out _ _ (HSX.out _ FB_p45.out) (fun hHeld => ?_)
          clear hK K
          (try simp only [Act.put, List.setIfInBounds_toArray, List.set_cons_zero, List.set_cons_succ, List.getElem_toArray, List.getElem_cons_succ, List.getElem_cons_zero])
          refine wpAnyH_ready (rs := [4]) (by kernel_rfl) (by simp) ?_
          refine AllReadyH.cons rfl (fun K hK => ?_) ?_
          · go_simp
            have hszp49 := FB_p45.out.size
            have hsp := unionNet_impl hpp5 hpp44 x0 x1 wp44 FP0_p46.out.rd FP1_p48.out.rd SM0.out SM1.out (HT.out.below (HBi.out.trans (FB_p45.out.mono HBi.out.size)) HT.out.lt) (HU.out.below (HBi.out.trans (FB_p45.out.mono HBi.out.size)) HU.out.lt)
            rw [HV.out, HVb.out] at hsp
            have hgl : gnp41 < wp44.heap.size := (Array.getElem?_eq_some_iff.1 FN_p47.out).1
            refine (hsp).mono ?_
            rintro e wp49 ⟨hpp49, rfl, ownp49, belp49⟩
            dsimp only
            have FB_p50 := Lib.hid ((FB_p45.out).trans ((belp49).mono (FB_p45.out).size))
            have FP0_p51 := Lib.hid ((FP0_p46.out).below (belp49))
            have FN_p52 := Lib.hid (((belp49).block _ (Array.getElem?_eq_some_iff.1 (FN_p47.out)).1).trans (FN_p47.out))
            have FP1_p53 := Lib.hid ((FP1_p48.out).below (belp49))
            clear FB_p45 FP0_p46 FN_p47 FP1_p48
            have FV_p54 := Lib.hid ownp49
            clear hsp ownp49 belp49
            refine hK.out _ _ (HSX.out _ FB_p50.out) (fun hHeld => ?_)
            clear hK K
            (try simp only [Act.put, List.setIfInBounds_toArray, List.set_cons_zero, List.set_cons_succ, List.getElem_toArray, List.getElem_cons_succ, List.getElem_cons_zero])
            refine wpAnyH_take (i := 5) (v := ?vp55) rfl (by kernel_rfl) (by kernel_rfl) (by kernel_rfl) (fun _ _ _ h => h) (Or.inl ⟨by rfl, ?yp55⟩) (by assumption) ?_
            case yp55 => (intro w hSw; (try dsimp only at hSw); go_simp; all_goals (with_reducible rfl))
            (try simp only [Act.put, List.setIfInBounds_toArray, List.set_cons_zero, List.set_cons_succ, List.getElem_toArray, List.getElem_cons_succ, List.getElem_cons_zero])
            refine wpAnyH_take (i := 6) (v := ?vp56) rfl (by kernel_rfl) (by kernel_rfl) (by kernel_rfl) (fun _ _ _ h => h) (Or.inl ⟨by rfl, ?yp56⟩) (by assumption) ?_
            case yp56 => (intro w hSw; (try dsimp only at hSw); go_simp; all_goals (with_reducible rfl))
            (try simp only [Act.put, List.setIfInBounds_toArray, List.set_cons_zero, List.set_cons_succ, List.getElem_toArray, List.getElem_cons_succ, List.getElem_cons_zero])
            refine wpAnyH_take (i := 7) (v := ?vp57) rfl (by kernel_rfl) (by kernel_rfl) (by kernel_rfl) (fun _ _ _ h => h) (Or.inl ⟨by rfl, ?yp57⟩) (by assumption) ?_
            case yp57 => (intro w hSw; (try dsimp only at hSw); go_simp; all_goals (with_reducible rfl))
            (try simp only [Act.put, List.setIfInBounds_toArray, List.set_cons_zero, List.set_cons_succ, List.getElem_toArray, List.getElem_cons_succ, List.getElem_cons_zero])
            refine wpAnyH_ready (rs := [9]) (by kernel_rfl) (by simp) ?_
            refine AllReadyH.cons rfl (fun K hK => ?_) ?_
            · obtain ⟨a0, a1, a2⟩ := three_cells FN_p52.out
              have f0 := frozen_of_row _ _ 0 _ _ FN_p52.out; have f1 := frozen_of_row _ _ 1 _ _ FN_p52.out; have f2 := frozen_of_row _ _ 2 _ _ FN_p52.out
              go_simp
              clear a0 a1 a2 f0 f1 f2
              have HP9 : Hid ((((wp49.setCell ⟨gnp41, 0, none⟩ (Value.slice hpp49.A V.w.length hpp49.c)).setCell ⟨gnp41, 1, none⟩ (Value.slice hpp49.L V.l.length hpp49.d)).setCell ⟨gnp41, 2, none⟩ (Value.slice hpp49.C V.c.length hpp49.e)).heap[gnp41]? = some (.cells #[Value.slice hpp49.A V.w.length hpp49.c, Value.slice hpp49.L V.l.length hpp49.d, Value.slice hpp49.C V.c.length hpp49.e] 30 (0, 0))) := Lib.hid (set3_at FN_p52.out _ _ _)
              have HO9 : Hid (OwnN (((wp49.setCell ⟨gnp41, 0, none⟩ (Value.slice hpp49.A V.w.length hpp49.c)).setCell ⟨gnp41, 1, none⟩ (Value.slice hpp49.L V.l.length hpp49.d)).setCell ⟨gnp41, 2, none⟩ (Value.slice hpp49.C V.c.length hpp49.e)) wp44.heap.size wp49.heap.size hpp49 V) := Lib.hid (FV_p54.out.same fun k h1 h2 _ => by rw [heap_setCell_other _ _ _ _ (by show k ≠ gnp41; omega), heap_setCell_other _ _ _ _ (by show k ≠ gnp41; omega), heap_setCell_other _ _ _ _ (by show k ≠ gnp41; omega)])
              have HB9 : Hid (Below w17.heap.size w17 (((wp49.setCell ⟨gnp41, 0, none⟩ (Value.slice hpp49.A V.w.length hpp49.c)).setCell ⟨gnp41, 1, none⟩ (Value.slice hpp49.L V.l.length hpp49.d)).setCell ⟨gnp41, 2, none⟩ (Value.slice hpp49.C V.c.length hpp49.e))) := Lib.hid (((FB_p50.out.setCell (p := ⟨gnp41, 0, none⟩) hge _).setCell (p := ⟨gnp41, 1, none⟩) hge _).setCell (p := ⟨gnp41, 2, none⟩) hge _)
              refine hK.out _ _ (HSX.out _ HB9.out) (fun hHeld => ?_)
              clear hK K
              (try simp only [Act.put, List.setIfInBounds_toArray, List.set_cons_zero, List.set_cons_succ, List.getElem_toArray, List.getElem_cons_succ, List.getElem_cons_zero])
              refine wpAnyH_ready (rs := [10]) (by kernel_rfl) (by simp) ?_
              refine AllReadyH.cons rfl (fun K hK => ?_) ?_
              · go_simp
                refine hK.out _ _ hHeld (fun hHeld => ?_)
                clear hK K
                (try simp only [Act.put, List.setIfInBounds_toArray, List.set_cons_zero, List.set_cons_succ, List.getElem_toArray, List.getElem_cons_succ, List.getElem_cons_zero])
                refine wpAnyH_done (by kernel_rfl) ?_ _
                have HO8 := HO9.out.size.more (show w17.heap.size ≤ wp44.heap.size by assumption) (Nat.le_refl _)
                go_wp2_with (fail)
                go_meet
                exact ⟨_, hpp49, rfl, rfl, HP9.out, HO8, HB9.out⟩
              exact AllReadyH.nil
            exact AllReadyH.nil
          exact AllReadyH.nil
        exact AllReadyH.nil
      exact AllReadyH.nil
    refine AllReadyH.cons rfl (fun K hK => ?_) ?_
    · go_simp
      obtain ⟨wp58, hwp58⟩ : ∃ w', w' = wp1.alloc (.cells #[.slice none 0 0, .slice none 0 0, .slice none 0 0] 30) := ⟨_, rfl⟩
      rw [← hwp58]
      have bp58 : Below wp1.heap.size wp1 wp58 := by rw [hwp58]; exact (Below.refl _ _).alloc (Nat.le_refl _) _
      have gp58 : wp58.heap[wp1.heap.size]? = some (.cells #[.slice none 0 0, .slice none 0 0, .slice none 0 0] 30 (0, 0)) := by rw [hwp58]; exact heap_alloc_new _ _
      clear hwp58
      have hgep58 := FB_p2.out.size
      have FB_p60 := Lib.hid ((FB_p2.out).trans ((bp58).mono (FB_p2.out).size))
      clear FB_p2
      obtain ⟨gnp59, hgp59⟩ : ∃ b, wp1.heap.size = b := ⟨_, rfl⟩
      have FN_p59 := Lib.hid gp58
      have hge : w17.heap.size ≤ gnp59 := by rw [← hgp59]; exact hgep58
      rw [hgp59] at FN_p59 ⊢
      clear hgp59 gp58 bp58 hgep58
      refine hK.out _ _ (HSX.out _ FB_p60.out) (fun hHeld => ?_)
      clear hK K
      (try simp only [Act.put, List.setIfInBounds_toArray, List.set_cons_zero, List.set_cons_succ, List.getElem_toArray, List.getElem_cons_succ, List.getElem_cons_zero])
      refine wpAnyH_ready (rs := [1]) (by kernel_rfl) (by simp) ?_
      refine AllReadyH.cons rfl (fun K hK => ?_) ?_
      · go_simp
        refine (toN_any h0 x0 wp58 ((H0.out.below (HBi.out.trans (FB_p60.out.mono HBi.out.size))).more (HBi.out.trans (FB_p60.out.mono HBi.out.size)).size) SM0.out.q SM0.out.w SM0.out.l SM0.out.c).mono ?_
        rintro e wp61 ⟨hpp61, rfl, ownp61, belp61⟩
        dsimp only
        have FB_p62 := Lib.hid ((FB_p60.out).trans ((belp61).mono (FB_p60.out).size))
        have FN_p63 := Lib.hid (((belp61).block _ (Array.getElem?_eq_some_iff.1 (FN_p59.out)).1).trans (FN_p59.out))
        clear FB_p60 FN_p59
        have FP0_p64 := Lib.hid ownp61
        clear ownp61 belp61
        refine hK.out _ _ (HSX.out _ FB_p62.out) (fun hHeld => ?_)
        clear hK K
        (try simp only [Act.put, List.setIfInBounds_toArray, List.set_cons_zero, List.set_cons_succ, List.getElem_toArray, List.getElem_cons_succ, List.getElem_cons_zero])
        refine wpAnyH_ready (rs := [3]) (by kernel_rfl) (by simp) ?_
        refine AllReadyH.cons rfl (fun K hK => ?_) ?_
        · go_simp
          refine (toN_any h1 x1 wp61 ((H1.out.below (HBi.out.trans (FB_p62.out.mono HBi.out.size))).more (HBi.out.trans (FB_p62.out.mono HBi.out.size)).size) SM1.out.q SM1.out.w SM1.out.l SM1.out.c).mono ?_
          rintro e wp65 ⟨hpp65, rfl, ownp65, belp65⟩
          dsimp only
          have FB_p66 := Lib.hid ((FB_p62.out).trans ((belp65).mono (FB_p62.out).size))
          have FN_p67 := Lib.hid (((belp65).block _ (Array.getElem?_eq_some_iff.1 (FN_p63.out)).1).trans (FN_p63.out))
          have FP0_p68 := Lib.hid ((FP0_p64.out).below (belp65))
          clear FB_p62 FN_p63 FP0_p64
          have FP1_p69 := Lib.hid ownp65
          clear ownp65 belp65
          refine hK.out _ _ (HSX.out _ FB_p66.out) (fun hHeld => ?_)
          clear hK K
          (try simp only [Act.put, List.setIfInBounds_toArray, List.set_cons_zero, List.set_cons_succ, List.getElem_toArray, List.getElem_cons_succ, List.getElem_cons_zero])
          refine wpAnyH_ready (rs := [4]) (by kernel_rfl) (by simp) ?_
          refine AllReadyH.cons rfl (fun K hK => ?_) ?_
          · go_simp
            have hszp70 := FB_p66.out.size
            have hsp := unionNet_impl hpp61 hpp65 x0 x1 wp65 FP0_p68.out.rd FP1_p69.out.rd SM0.out SM1.out (HT.out.below (HBi.out.trans (FB_p66.out.mono HBi.out.size)) HT.out.lt) (HU.out.below (HBi.out.trans (FB_p66.out.mono HBi.out.size)) HU.out.lt)
            rw [HV.out, HVb.out] at hsp
            have hgl : gnp59 < wp65.heap.size := (Array.getElem?_eq_some_iff.1 FN_p67.out).1
            refine (hsp).mono ?_
            rintro e wp70 ⟨hpp70, rfl, ownp70, belp70⟩
            dsimp only
            have FB_p71 := Lib.hid ((FB_p66.out).trans ((belp70).mono (FB_p66.out).size))
            have FN_p72 := Lib.hid (((belp70).block _ (Array.getElem?_eq_some_iff.1 (FN_p67.out)).1).trans (FN_p67.out))
            have FP0_p73 := Lib.hid ((FP0_p68.out).below (belp70))
            have FP1_p74 := Lib.hid ((FP1_p69.out).below (belp70))
            clear FB_p66 FN_p67 FP0_p68 FP1_p69
            have FV_p75 := Lib.hid ownp70
            clear hsp ownp70 belp70
            refine hK.out _ _ (HSX.out _ FB_p71.out) (fun hHeld => ?_)
            clear hK K
            (try simp only [Act.put, List.setIfInBounds_toArray, List.set_cons_zero, List.set_cons_succ, List.getElem_toArray, List.getElem_cons_succ, List.getElem_cons_zero])
            refine wpAnyH_take (i := 5) (v := ?vp76) rfl (by kernel_rfl) (by kernel_rfl) (by kernel_rfl) (fun _ _ _ h => h) (Or.inl ⟨by rfl, ?yp76⟩) (by assumption) ?_
            case yp76 => (intro w hSw; (try dsimp only at hSw); go_simp; all_goals (with_reducible rfl))
            (try simp only [Act.put, List.setIfInBounds_toArray, List.set_cons_zero, List.set_cons_succ, List.getElem_toArray, List.getElem_cons_succ, List.getElem_cons_zero])
            refine wpAnyH_take (i := 6) (v := ?vp77) rfl (by kernel_rfl) (by kernel_rfl) (by kernel_rfl) (fun _ _ _ h => h) (Or.inl ⟨by rfl, ?yp77⟩) (by assumption) ?_
            case yp77 => (intro w hSw; (try dsimp only at hSw); go_simp; all_goals (with_reducible rfl))
            (try simp only [Act.put, List.setIfInBounds_toArray, List.set_cons_zero, List.set_cons_succ, List.getElem_toArray, List.getElem_cons_succ, List.getElem_cons_zero])
            refine wpAnyH_take (i := 7) (v := ?vp78) rfl (by kernel_rfl) (by kernel_rfl) (by kernel_rfl) (fun _ _ _ h => h) (Or.inl ⟨by rfl, ?yp78⟩) (by assumption) ?_
            case yp78 => (intro w hSw; (try dsimp only at hSw); go_simp; all_goals (with_reducible rfl))
            (try simp only [Act.put, List.setIfInBounds_toArray, List.set_cons_zero, List.set_cons_succ, List.getElem_toArray, List.getElem_cons_succ, List.getElem_cons_zero])
            refine wpAnyH_ready (rs := [9]) (by kernel_rfl) (by simp) ?_
            refine AllReadyH.cons rfl (fun K hK => ?_) ?_
            · obtain ⟨a0, a1, a2⟩ := three_cells FN_p72.out
              have f0 := frozen_of_row _ _ 0 _ _ FN_p72.out; have f1 := frozen_of_row _ _ 1 _ _ FN_p72.out; have f2 := frozen_of_row _ _ 2 _ _ FN_p72.out
              go_simp
              clear a0 a1 a2 f0 f1 f2
              have HP9 : Hid ((((wp70.setCell ⟨gnp59, 0, none⟩ (Value.slice hpp70.A V.w.length hpp70.c)).setCell ⟨gnp59, 1, none⟩ (Value.slice hpp70.L V.l.length hpp70.d)).setCell ⟨gnp59, 2, none⟩ (Value.slice hpp70.C V.c.length hpp70.e)).heap[gnp59]? = some (.cells #[Value.slice hpp70.A V.w.length hpp70.c, Value.slice hpp70.L V.l.length hpp70.d, Value.slice hpp70.C V.c.length hpp70.e] 30 (0, 0))) := Lib.hid (set3_at FN_p72.out _ _ _)
              have HO9 : Hid (OwnN (((wp70.setCell ⟨gnp59, 0, none⟩ (Value.slice hpp70.A V.w.length hpp70.c)).setCell ⟨gnp59, 1, none⟩ (Value.slice hpp70.L V.l.length hpp70.d)).setCell ⟨gnp59, 2, none⟩ (Value.slice hpp70.C V.c.length hpp70.e)) wp65.heap.size wp70.heap.size hpp70 V) := Lib.hid (FV_p75.out.same fun k h1 h2 _ => by rw [heap_setCell_other _ _ _ _ (by show k ≠ gnp59; omega), heap_setCell_other _ _ _ _ (by show k ≠ gnp59; omega), heap_setCell_other _ _ _ _ (by show k ≠ gnp59; omega)])
              have HB9 : Hid (Below w17.heap.size w17 (((wp70.setCell ⟨gnp59, 0, none⟩ (Value.slice hpp70.A V.w.length hpp70.c)).setCell ⟨gnp59, 1, none⟩ (Value.slice hpp70.L V.l.length hpp70.d)).setCell ⟨gnp59, 2, none⟩ (Value.slice hpp70.C V.c.length hpp70.e))) := Lib.hid (((FB_p71.out.setCell (p := ⟨gnp59, 0, none⟩) hge _).setCell (p := ⟨gnp59, 1, none⟩) hge _).setCell (p := ⟨gnp59, 2, none⟩) hge _)
              refine hK.out _ _ (HSX.out _ HB9.out) (fun hHeld => ?_)
              clear hK K
              (try simp only [Act.put, List.setIfInBounds_toArray, List.set_cons_zero, List.set_cons_succ, List.getElem_toArray, List.getElem_cons_succ, List.getElem_cons_zero])
              refine wpAnyH_ready (rs := [10]) (by kernel_rfl) (by simp) ?_
              refine AllReadyH.cons rfl (fun K hK => ?_) ?_
              · go_simp
                refine hK.out _ _ hHeld (fun hHeld => ?_)
                clear hK K
                (try simp only [Act.put, List.setIfInBounds_toArray, List.set_cons_zero, List.set_cons_succ, List.getElem_toArray, List.getElem_cons_succ, List.getElem_cons_zero])
                refine wpAnyH_done (by kernel_rfl) ?_ _
                have HO8 := HO9.out.size.more (show w17.heap.size ≤ wp65.heap.size by assumption) (Nat.le_refl _)
                go_wp2_with (fail)
                go_meet
                exact ⟨_, hpp70, rfl, rfl, HP9.out, HO8, HB9.out⟩
              exact AllReadyH.nil
            exact AllReadyH.nil
          exact AllReadyH.nil
        exact AllReadyH.nil
      exact AllReadyH.nil
    exact AllReadyH.nil
  case rest =>
  obtain ⟨b_h, h_hh, rfl, rfl, hp_h, own18, bel18⟩ := hcut
  clear HSX HBi
  rename World => w18
  obtain ⟨c_h_18_0, c_h_18_1, c_h_18_2⟩ := three_cells hp_h
  have t_h : b_h < w18.heap.size := (Array.getElem?_eq_some_iff.1 hp_h).1
  have o_hh_18 := Lib.hid own18
  clear own18 hp_h
  have s18 := bel18.size
  have B18 := B17.trans (bel18.mono B17.size)
  have c_a0_18_0 := (bel18.cell (p := ⟨w.heap.size, 0, none⟩) (by show w.heap.size < _; omega)).trans c_a0_17_0
  have c_a0_18_1 := (bel18.cell (p := ⟨w.heap.size, 1, none⟩) (by show w.heap.size < _; omega)).trans c_a0_17_1
  have c_a0_18_2 := (bel18.cell (p := ⟨w.heap.size, 2, none⟩) (by show w.heap.size < _; omega)).trans c_a0_17_2
  have c_a1_18_0 := (bel18.cell (p := ⟨w.heap.size + 1, 0, none⟩) (by show w.heap.size + 1 < _; omega)).trans c_a1_17_0
  have c_a1_18_1 := (bel18.cell (p := ⟨w.heap.size + 1, 1, none⟩) (by show w.heap.size + 1 < _; omega)).trans c_a1_17_1
  have c_a1_18_2 := (bel18.cell (p := ⟨w.heap.size + 1, 2, none⟩) (by show w.heap.size + 1 < _; omega)).trans c_a1_17_2
  have c_v_18_0 := (bel18.cell (p := ⟨b_v, 0, none⟩) (by show b_v < _; omega)).trans c_v_17_0
  have c_v_18_1 := (bel18.cell (p := ⟨b_v, 1, none⟩) (by show b_v < _; omega)).trans c_v_17_1
  have c_v_18_2 := (bel18.cell (p := ⟨b_v, 2, none⟩) (by show b_v < _; omega)).trans c_v_17_2
  have c_x0_18_0 := (bel18.cell (p := ⟨m4, 0, none⟩) (by show m4 < _; omega)).trans c_x0_17_0
  have c_x0_18_1 := (bel18.cell (p := ⟨m4, 1, none⟩) (by show m4 < _; omega)).trans c_x0_17_1
  have c_x0_18_2 := (bel18.cell (p := ⟨m4, 2, none⟩) (by show m4 < _; omega)).trans c_x0_17_2
  have c_x1_18_0 := (bel18.cell (p := ⟨m6, 0, none⟩) (by show m6 < _; omega)).trans c_x1_17_0
  have c_x1_18_1 := (bel18.cell (p := ⟨m6, 1, none⟩) (by show m6 < _; omega)).trans c_x1_17_1
  have c_x1_18_2 := (bel18.cell (p := ⟨m6, 2, none⟩) (by show m6 < _; omega)).trans c_x1_17_2
  have c_g_18_0 := (bel18.cell (p := ⟨m8, 0, none⟩) (by show m8 < _; omega)).trans c_g_17_0
  have c_g_18_1 := (bel18.cell (p := ⟨m8, 1, none⟩) (by show m8 < _; omega)).trans c_g_17_1
  have c_g_18_2 := (bel18.cell (p := ⟨m8, 2, none⟩) (by show m8 < _; omega)).trans c_g_17_2
  have o_v_18 := Lib.hid (o_v_17.out.below bel18)
  have o_g_18 := Lib.hid (o_g_17.out.below bel18)
  clear bel18 B17 o_v_17 o_g_17 c_a0_17_0 c_a0_17_1 c_a0_17_2 c_a1_17_0 c_a1_17_1 c_a1_17_2 c_v_17_0 c_v_17_1 c_v_17_2 c_x0_17_0 c_x0_17_1 c_x0_17_2 c_x1_17_0 c_x1_17_1 c_x1_17_2 c_g_17_0 c_g_17_1 c_g_17_2
  generalize w17.heap.size = m17 at *
  go_wp2_with (fail)
  refine (eqN_any h_hh h_v V w18 (o_hh_18.out.rd) (o_v_18.out.rd) SMV.out.q SMV.out.w SMV.out.l SMV.out.c).mono ?_
  rintro e w19 ⟨rfl, bel19⟩
  have s19 := bel19.size
  have B19 := B18.trans (bel19.mono B18.size)
  have c_a0_19_0 := (bel19.cell (p := ⟨w.heap.size, 0, none⟩) (by show w.heap.size < _; omega)).trans c_a0_18_0
  have c_a0_19_1 := (bel19.cell (p := ⟨w.heap.size, 1, none⟩) (by show w.heap.size < _; omega)).trans c_a0_18_1
  have c_a0_19_2 := (bel19.cell (p := ⟨w.heap.size, 2, none⟩) (by show w.heap.size < _; omega)).trans c_a0_18_2
  have c_a1_19_0 := (bel19.cell (p := ⟨w.heap.size + 1, 0, none⟩) (by show w.heap.size + 1 < _; omega)).trans c_a1_18_0
  have c_a1_19_1 := (bel19.cell (p := ⟨w.heap.size + 1, 1, none⟩) (by show w.heap.size + 1 < _; omega)).trans c_a1_18_1
  have c_a1_19_2 := (bel19.cell (p := ⟨w.heap.size + 1, 2, none⟩) (by show w.heap.size + 1 < _; omega)).trans c_a1_18_2
  have c_v_19_0 := (bel19.cell (p := ⟨b_v, 0, none⟩) (by show b_v < _; omega)).trans c_v_18_0
  have c_v_19_1 := (bel19.cell (p := ⟨b_v, 1, none⟩) (by show b_v < _; omega)).trans c_v_18_1
  have c_v_19_2 := (bel19.cell (p := ⟨b_v, 2, none⟩) (by show b_v < _; omega)).trans c_v_18_2
  have c_x0_19_0 := (bel19.cell (p := ⟨m4, 0, none⟩) (by show m4 < _; omega)).trans c_x0_18_0
  have c_x0_19_1 := (bel19.cell (p := ⟨m4, 1, none⟩) (by show m4 < _; omega)).trans c_x0_18_1
  have c_x0_19_2 := (bel19.cell (p := ⟨m4, 2, none⟩) (by show m4 < _; omega)).trans c_x0_18_2
  have c_x1_19_0 := (bel19.cell (p := ⟨m6, 0, none⟩) (by show m6 < _; omega)).trans c_x1_18_0
  have c_x1_19_1 := (bel19.cell (p := ⟨m6, 1, none⟩) (by show m6 < _; omega)).trans c_x1_18_1
  have c_x1_19_2 := (bel19.cell (p := ⟨m6, 2, none⟩) (by show m6 < _; omega)).trans c_x1_18_2
  have c_g_19_0 := (bel19.cell (p := ⟨m8, 0, none⟩) (by show m8 < _; omega)).trans c_g_18_0
  have c_g_19_1 := (bel19.cell (p := ⟨m8, 1, none⟩) (by show m8 < _; omega)).trans c_g_18_1
  have c_g_19_2 := (bel19.cell (p := ⟨m8, 2, none⟩) (by show m8 < _; omega)).trans c_g_18_2
  have c_h_19_0 := (bel19.cell (p := ⟨b_h, 0, none⟩) (by show b_h < _; omega)).trans c_h_18_0
  have c_h_19_1 := (bel19.cell (p := ⟨b_h, 1, none⟩) (by show b_h < _; omega)).trans c_h_18_1
  have c_h_19_2 := (bel19.cell (p := ⟨b_h, 2, none⟩) (by show b_h < _; omega)).trans c_h_18_2
  have o_v_19 := Lib.hid (o_v_18.out.below bel19)
  have o_g_19 := Lib.hid (o_g_18.out.below bel19)
  have o_hh_19 := Lib.hid (o_hh_18.out.below bel19)
  clear bel19 B18 o_v_18 o_g_18 o_hh_18 c_a0_18_0 c_a0_18_1 c_a0_18_2 c_a1_18_0 c_a1_18_1 c_a1_18_2 c_v_18_0 c_v_18_1 c_v_18_2 c_x0_18_0 c_x0_18_1 c_x0_18_2 c_x1_18_0 c_x1_18_1 c_x1_18_2 c_g_18_0 c_g_18_1 c_g_18_2 c_h_18_0 c_h_18_1 c_h_18_2
  generalize w18.heap.size = m18 at *
  go_wp2_with (fail)
  refine (heldN_any h_g V 1 w19 (rd_mrk o_g_19.out.rd) SMV.out.w SMV.out.t SMV.out.l SMV.out.c (by decide) (by decide)).mono ?_
  rintro e w20 ⟨rfl, bel20⟩
  have s20 := bel20.size
  have B20 := B19.trans (bel20.mono B19.size)
  have c_a0_20_0 := (bel20.cell (p := ⟨w.heap.size, 0, none⟩) (by show w.heap.size < _; omega)).trans c_a0_19_0
  have c_a0_20_1 := (bel20.cell (p := ⟨w.heap.size, 1, none⟩) (by show w.heap.size < _; omega)).trans c_a0_19_1
  have c_a0_20_2 := (bel20.cell (p := ⟨w.heap.size, 2, none⟩) (by show w.heap.size < _; omega)).trans c_a0_19_2
  have c_a1_20_0 := (bel20.cell (p := ⟨w.heap.size + 1, 0, none⟩) (by show w.heap.size + 1 < _; omega)).trans c_a1_19_0
  have c_a1_20_1 := (bel20.cell (p := ⟨w.heap.size + 1, 1, none⟩) (by show w.heap.size + 1 < _; omega)).trans c_a1_19_1
  have c_a1_20_2 := (bel20.cell (p := ⟨w.heap.size + 1, 2, none⟩) (by show w.heap.size + 1 < _; omega)).trans c_a1_19_2
  have c_v_20_0 := (bel20.cell (p := ⟨b_v, 0, none⟩) (by show b_v < _; omega)).trans c_v_19_0
  have c_v_20_1 := (bel20.cell (p := ⟨b_v, 1, none⟩) (by show b_v < _; omega)).trans c_v_19_1
  have c_v_20_2 := (bel20.cell (p := ⟨b_v, 2, none⟩) (by show b_v < _; omega)).trans c_v_19_2
  have c_x0_20_0 := (bel20.cell (p := ⟨m4, 0, none⟩) (by show m4 < _; omega)).trans c_x0_19_0
  have c_x0_20_1 := (bel20.cell (p := ⟨m4, 1, none⟩) (by show m4 < _; omega)).trans c_x0_19_1
  have c_x0_20_2 := (bel20.cell (p := ⟨m4, 2, none⟩) (by show m4 < _; omega)).trans c_x0_19_2
  have c_x1_20_0 := (bel20.cell (p := ⟨m6, 0, none⟩) (by show m6 < _; omega)).trans c_x1_19_0
  have c_x1_20_1 := (bel20.cell (p := ⟨m6, 1, none⟩) (by show m6 < _; omega)).trans c_x1_19_1
  have c_x1_20_2 := (bel20.cell (p := ⟨m6, 2, none⟩) (by show m6 < _; omega)).trans c_x1_19_2
  have c_g_20_0 := (bel20.cell (p := ⟨m8, 0, none⟩) (by show m8 < _; omega)).trans c_g_19_0
  have c_g_20_1 := (bel20.cell (p := ⟨m8, 1, none⟩) (by show m8 < _; omega)).trans c_g_19_1
  have c_g_20_2 := (bel20.cell (p := ⟨m8, 2, none⟩) (by show m8 < _; omega)).trans c_g_19_2
  have c_h_20_0 := (bel20.cell (p := ⟨b_h, 0, none⟩) (by show b_h < _; omega)).trans c_h_19_0
  have c_h_20_1 := (bel20.cell (p := ⟨b_h, 1, none⟩) (by show b_h < _; omega)).trans c_h_19_1
  have c_h_20_2 := (bel20.cell (p := ⟨b_h, 2, none⟩) (by show b_h < _; omega)).trans c_h_19_2
  have o_v_20 := Lib.hid (o_v_19.out.below bel20)
  have o_g_20 := Lib.hid (o_g_19.out.below bel20)
  have o_hh_20 := Lib.hid (o_hh_19.out.below bel20)
  clear bel20 B19 o_v_19 o_g_19 o_hh_19 c_a0_19_0 c_a0_19_1 c_a0_19_2 c_a1_19_0 c_a1_19_1 c_a1_19_2 c_v_19_0 c_v_19_1 c_v_19_2 c_x0_19_0 c_x0_19_1 c_x0_19_2 c_x1_19_0 c_x1_19_1 c_x1_19_2 c_g_19_0 c_g_19_1 c_g_19_2 c_h_19_0 c_h_19_1 c_h_19_2
  generalize w19.heap.size = m19 at *
  have HB := Lib.hid B20
  go_wp2
  go_ret
  exact ⟨rfl, HB.out⟩

theorem walk (h0 : NH) (x0 : Nt) (h1 : NH) (x1 : Nt) (w : World) (r0 : RdN w w.heap.size h0 x0) (gr0 : GreatN x0) (r1 : RdN w w.heap.size h1 x1) (gr1 : GreatN x1) (ht : Arit w) (hu : Dual w) :
    Calls Tryd.prog 3 #[.agg #[Value.slice h0.A x0.w.length h0.c, Value.slice h0.L x0.l.length h0.d, Value.slice h0.C x0.c.length h0.e], .agg #[Value.slice h1.A x1.w.length h1.c, Value.slice h1.L x1.l.length h1.d, Value.slice h1.C x1.c.length h1.e]] w fun e w' => e = .returned (.bool true) ∧ Below w.heap.size w w' := by
  rcases sz_casesN 1048576 (by decide) x0 with hb | ⟨L0, hs0, hL0, hL'0, sw0, st0, sl0, sc0⟩
  · exact walk_big0 h0 x0 h1 x1  w r0 gr0  hb
  ·
    have sm0 : SmallN x0 := ⟨sw0, st0, sl0, sc0⟩
    rcases sz_casesN L0 hL'0 x1 with hb | ⟨L1, hs1, hL1, hL'1, sw1, st1, sl1, sc1⟩
    · exact walk_big1 h0 x0 h1 x1 L0 w r0 r1 gr0 gr1 hs0 hL0 hL'0 sm0 hb
    ·
      have sm1 : SmallN x1 := ⟨sw1, st1, sl1, sc1⟩
      exact walk_mid h0 x0 h1 x1 L0 L1 w r0 r1 hs0 hL0 hL'0 sm0 hs1 hL1 hL'1 sm1 ht hu


set_option maxRecDepth 100000 in
/-- What the walk gives, for all arguments and every world that holds the tables. -/
theorem contract (H : Type) (enc : TypeId × Value → H) (W : World) (base : Nat) (args : Array Value) (ds gs : List (DataW H)) (before : List MemPlace)
    (hval : ∀ (j : Nat) t v, Tryd.f3.params[j]? = some t → args[j]? = some v → Value.okWide Tryd.prog W .any base t v)
    (hW : DataW.Whole enc Tryd.prog Tryd.f3.params.toList Rows.fnExactUnionNetSpec.vars false W args.toList ds gs before) (hL : laidMetH Tryd.prog Rows.fnExactUnionNetRow.laid W) :
    Calls Tryd.prog 3 args W fun e W' => ∃ v, e = .returned v ∧ Rows.fnExactUnionNetSpec.post enc Tryd.prog Tryd.f3 false true false false W args v W' := by
  have hW' := hW
  obtain ⟨p, q, hA0, hV, rfl, hfz, hnd⟩ := hW
  have hA : DataW.TrodAll enc Tryd.prog W 0 (fun _ => true) true Tryd.f3.params.toList args.toList ds p := hA0
  rw [Tryd.params3] at hA hval
  obtain ⟨v0, vs0, d0, ds0, p0, q0, hargs, rfl, rfl, h0, r0⟩ := trodAll_cons hA
  obtain ⟨v1, vs1, d1, ds1, p1, q1, rfl, rfl, rfl, h1, r1⟩ := trodAll_cons r0
  obtain ⟨rfl, rfl, rfl⟩ := trodAll_nil r1
  obtain rfl : args = #[v0, v1] := by cases args; simp_all
  have k0 := h0
  have lt0 : ∀ x ∈ p0, x.block < W.heap.size := by obtain ⟨m, hm⟩ := k0; exact DataW.trod_lt m _ _ _ hm
  obtain ⟨hh0, z0, rfl, w0, m0, l0⟩ := open_net (hval 0 26 v0 rfl rfl) h0
  have k1 := h1
  have lt1 : ∀ x ∈ p1, x.block < W.heap.size := by obtain ⟨m, hm⟩ := k1; exact DataW.trod_lt m _ _ _ hm
  obtain ⟨hh1, z1, rfl, w1, m1, l1⟩ := open_net (hval 1 26 v1 rfl rfl) h1
  have ht : Arit W := arit_of hL
  have hu : Dual W := dual_of hL
  have hv1 := hV
  obtain ⟨g0, t0, cs0, f0, e0, p0', g1, t1, cs1, f1, e1, p1', rfl, _, _, _, _, _, _, _, _, rfl⟩ := trodVars_two hV
  clear hA0
  refine (walk hh0 z0 hh1 z1 W w0 ⟨m0.1, m0.2.1, m0.2.2, l0⟩ w1 ⟨m1.1, m1.2.1, m1.2.2, l1⟩ ht hu).mono fun e W' ⟨he, bel⟩ => ?_
  subst he
  exact ⟨_, rfl, _, _, _, [], _, _, hW', trodAll_mk1 (shut_bool Tryd.underlying4 _),
    (trodAll_cons_mk (Below.trod laidOut (by kernel_rfl) (of_decide_eq_true (by kernel_rfl)) k0 bel lt0) (trodAll_cons_mk (Below.trod laidOut (by kernel_rfl) (of_decide_eq_true (by kernel_rfl)) k1 bel lt1) trodAll_mk0)),
    vars_below bel (readable_all _ (by kernel_rfl)) hv1, bel.frame _, fun h => by cases h⟩

theorem laid_met (os : Os) : laidMet Tryd.prog Rows.fnExactUnionNetRow.laid ((laidWorld os).forCall (fun _ _ => 0) ⟨#[], #[.agg #[.slice none 0 0, .slice none 0 0, .slice none 0 0], .agg #[.slice none 0 0, .slice none 0 0, .slice none 0 0]], []⟩).memory :=
  laidMet_of_run' 8 (by kernel_rfl) (by kernel_rfl)
theorem reads (os : Os) {H : Type} (enc : TypeId × Value → H) : ∃ x, DataW.whole enc Tryd.prog ((laidWorld os).forCall (fun _ _ => 0) ⟨#[], #[.agg #[.slice none 0 0, .slice none 0 0, .slice none 0 0], .agg #[.slice none 0 0, .slice none 0 0, .slice none 0 0]], []⟩).memory Tryd.f3.params.toList Rows.fnExactUnionNetSpec.vars false (#[.agg #[.slice none 0 0, .slice none 0 0, .slice none 0 0], .agg #[.slice none 0 0, .slice none 0 0, .slice none 0 0]] : Array Value).toList 8 = some x :=
  Option.isSome_iff_exists.1 (by kernel_rfl)

set_option maxRecDepth 100000 in
theorem lifted (os : Os) (started : os.Started) (H : Type) (enc : TypeId × Value → H) (F : Stop.Interp) :
    ReturnsInHanded {} Tryd.checked os 3 .any ((OpenSpec.ofChange Rows.fnExactUnionNetSpec).preRow enc Tryd.prog Tryd.f3 Rows.fnExactUnionNetRow.domain false Rows.fnExactUnionNetRow.laid) (((OpenSpec.ofChange Rows.fnExactUnionNetSpec).at F).post enc Tryd.prog Tryd.f3 false true false false) := by
  obtain ⟨places, hx⟩ := reads os enc
  refine returnsInHanded_of_row (C := Tryd.checked) (s := OpenSpec.ofChange Rows.fnExactUnionNetSpec) own started (by kernel_rfl) Tryd.func3
    (witness_row_at (enc := enc) (C := Tryd.checked) false (laidWorld os) #[.agg #[.slice none 0 0, .slice none 0 0, .slice none 0 0], .agg #[.slice none 0 0, .slice none 0 0, .slice none 0 0]] rfl (by kernel_rfl) (by kernel_rfl) (by kernel_rfl)
      (OpenSpec.preRow_of_cond 8 hx rfl (fun k hk => by cases hk) (by kernel_rfl) (laid_met os))) ?_
  intro W base args ds gs before hval hW _ _ _ hL _ _
  exact contract H enc W base args ds gs before hval hW hL

theorem said : Rows.FnExactUnionNetSaid :=
  OpenClaim.holds_of_cond 3 Tryd.f3 rfl rfl rfl rfl rfl rfl rfl ⟨rfl, rfl, rfl, rfl, rfl⟩ rfl rfl rfl rfl rfl (by kernel_rfl) Tryd.func3 (by kernel_rfl)
    (of_decide_eq_true (by kernel_rfl)) (by unfold Func.isWrapper; first | (rw [if_pos (by decide +kernel)]; kernel_rfl) | (rw [if_neg (by decide +kernel)]; exact ⟨rfl, rfl⟩))
    (fun os started H enc _ F => by rw [OpenClaim.pre_eq_preRow]; exact lifted os started H enc F)

theorem plain (f : FuncId) (fn : Func) (hf : Tryd.pinned.checked.prog.funcNamed "loop.example/g00872/laws.FnExactUnionNet" = some f) (hfn : Tryd.pinned.checked.prog.funcs[f]? = some fn) :
    Rows.fnExactUnionNetCard.stood.looks = Tryd.pinned.checked.prog.looks [] ∧ ∀ (j : Nat) t, fn.params[j]? = some t → Tryd.pinned.checked.prog.wantsStandIn t = false := by
  obtain rfl : f = 3 := Option.some.inj ((show Tryd.prog.funcNamed "loop.example/g00872/laws.FnExactUnionNet" = some 3 by kernel_rfl).symm.trans hf) |>.symm
  obtain rfl : fn = Tryd.f3 := (Option.some.inj (Tryd.func3.symm.trans hfn)).symm
  refine ⟨by kernel_rfl, fun j t ht => ?_⟩
  rw [Tryd.params3] at ht
  have hm : t ∈ [26, 26] := by simpa using Array.mem_of_getElem? ht
  have hall : ([26, 26].all fun u => !Tryd.prog.wantsStandIn u) = true := by kernel_rfl
  exact (show Tryd.prog.wantsStandIn t = false by simpa using List.all_eq_true.1 hall t hm)

/-- The statement. -/
theorem card : Rows.FnExactUnionNetCardSaid :=
  Claim7.holds_tied_plain_at .later [] _ _ _ _ said (fun _ h => by cases h) (by kernel_rfl) (fun _ h => by cases h) fnExactUnionNet_row_tie rfl ⟨rfl, rfl⟩ (by kernel_rfl) rfl plain (by kernel_rfl)
end Go.Proofs.YtdcommmefehlgaaDoor.fnExactUnionNet
