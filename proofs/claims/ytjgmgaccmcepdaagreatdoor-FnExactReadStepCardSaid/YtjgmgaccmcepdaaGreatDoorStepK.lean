/- The laws' marks at a step; what a row's list gives of the two errors of strconv; three variables of a row. -/
import Derived.Test.YtjgmgaccmcepdaaGreatDoorReadM
import Derived.Test.YtjgmgaccmcepdaaGreatDoorFrameS
import Derived.Stop.LaidErr
namespace Go.Proofs.YtjgmgaccmcepdaaGreatDoor
open Go.ChangeAt Go.ChangeShapes Go.RowKit Go.WideShapes

theorem rsS_len (t : ByteArray) : (rsS t).f.length ≤ 24 := by
  unfold rsS
  split
  · show (if ruF (rnm (cwA t)) then rdL (lkQ (rnm (cwA t)) t 4) else []).length ≤ 24
    split
    · exact rdL_len _
    · exact Nat.zero_le _
  · exact Nat.zero_le _
theorem markStep_any (r a b i j : Int) (A : Option Addr) (n c : Nat) (f : List Int) (k : Int) (w : World) (base : Nat) (h : w.ownsRow base 2 1 (.slice A n c) n (f.map (Value.int .i64))) (hn : n ≤ 1048576) (hk0 : 0 ≤ k) (hk1 : k ≤ 1073741824) :
    Calls Tryz.prog 40 #[Value.agg #[Value.int .i64 r, Value.int .i64 a, Value.int .i64 b, Value.int .i64 i, Value.int .i64 j, Value.slice A n c], .int .i64 k] w fun e w' => e = .returned (.int .i64 (k + n)) ∧ w'.ownsRow base 2 1 (.slice A n c) n ((markL k n).map (Value.int .i64)) ∧ (w.alloc (.cells #[Value.int .i64 r, Value.int .i64 a, Value.int .i64 b, Value.int .i64 i, Value.int .i64 j, Value.slice A n c] 30)).grownBy w' (Value.slice A n c).ownBlock := by
  obtain ⟨w1, hw1⟩ : ∃ w1, w1 = w.alloc (.cells #[Value.int .i64 r, Value.int .i64 a, Value.int .i64 b, Value.int .i64 i, Value.int .i64 j, Value.slice A n c] 30) := ⟨_, rfl⟩
  have hb1 := box_any w (.cells #[Value.int .i64 r, Value.int .i64 a, Value.int .i64 b, Value.int .i64 i, Value.int .i64 j, Value.slice A n c] 30)
  have p1 : (w.alloc (.cells #[Value.int .i64 r, Value.int .i64 a, Value.int .i64 b, Value.int .i64 i, Value.int .i64 j, Value.slice A n c] 30)).heap[w.heap.size]? = some (.cells #[Value.int .i64 r, Value.int .i64 a, Value.int .i64 b, Value.int .i64 i, Value.int .i64 j, Value.slice A n c] 30 (0, 0)) := heap_alloc_new _ _
  rw [← hw1] at hb1 p1
  have x5 : w1.cell? ⟨w.heap.size, 5, none⟩ = some (.slice A n c) := cell_of_row _ _ 5 _ _ (0, 0) p1
  have HK := Lib.hid (mark_any A n c f k w1 base (own_below h hb1 (Nat.le_refl _)) hn hk0 hk1)
  rw [← hw1]
  clear hb1 p1 h
  go_enter Tryz.func40, Tryz.ntmps40
  go_wp2_with (fail)
  rw [← hw1]
  clear hw1
  go_wp2_with (fail)
  refine HK.out.mono ?_
  rintro e w2 ⟨rfl, ho, hg⟩
  have HO := Lib.hid ho; have HG := Lib.hid hg
  clear ho hg HK
  go_wp2
  go_ret
  exact ⟨rfl, HO.out, HG.out⟩
theorem heldStep_any (r a b i j : Int) (A : Option Addr) (n c : Nat) (k : Int) (w : World) (h : RdI w w.heap.size A n (markL k n)) (hn : n ≤ 1048576) (hk0 : 0 ≤ k) (hk1 : k ≤ 1073741824) :
    Calls Tryz.prog 41 #[Value.agg #[Value.int .i64 r, Value.int .i64 a, Value.int .i64 b, Value.int .i64 i, Value.int .i64 j, Value.slice A n c], .int .i64 k] w fun e w' => e = .returned (.int .i64 (k + n)) ∧ Below w.heap.size w w' := by
  obtain ⟨w1, hw1⟩ : ∃ w1, w1 = w.alloc (.cells #[Value.int .i64 r, Value.int .i64 a, Value.int .i64 b, Value.int .i64 i, Value.int .i64 j, Value.slice A n c] 30) := ⟨_, rfl⟩
  have hb1 := box_any w (.cells #[Value.int .i64 r, Value.int .i64 a, Value.int .i64 b, Value.int .i64 i, Value.int .i64 j, Value.slice A n c] 30)
  have p1 : (w.alloc (.cells #[Value.int .i64 r, Value.int .i64 a, Value.int .i64 b, Value.int .i64 i, Value.int .i64 j, Value.slice A n c] 30)).heap[w.heap.size]? = some (.cells #[Value.int .i64 r, Value.int .i64 a, Value.int .i64 b, Value.int .i64 i, Value.int .i64 j, Value.slice A n c] 30 (0, 0)) := heap_alloc_new _ _
  rw [← hw1] at hb1 p1
  have x5 : w1.cell? ⟨w.heap.size, 5, none⟩ = some (.slice A n c) := cell_of_row _ _ 5 _ _ (0, 0) p1
  have HK := Lib.hid (held_any A n c k w1 ((h.below hb1).more hb1.size) hn hk0 hk1)
  have HB := Lib.hid hb1
  have hd : decide (k + (n : Int) < 0) = false := decide_eq_false (by omega)
  clear hb1 p1 h
  go_enter Tryz.func41, Tryz.ntmps41
  go_wp2_with (fail)
  rw [← hw1]
  clear hw1
  go_wp2_with (fail)
  refine HK.out.mono ?_
  rintro e w2 ⟨rfl, rfl⟩
  go_wp2
  go_ret
  exact ⟨rfl, HB.out⟩

theorem gSyn : Tryz.prog.globalNamed "strconv.ErrSyntax" = some 5 := by kernel_rfl
theorem gSynType : (Tryz.prog.globals[5]?).map (·.type) = some 210 := by kernel_rfl
theorem gRan : Tryz.prog.globalNamed "strconv.ErrRange" = some 6 := by kernel_rfl
theorem gRanType : (Tryz.prog.globals[6]?).map (·.type) = some 210 := by kernel_rfl
theorem cellsErr : Tryz.prog.cellsOf 284 = 1 := by kernel_rfl
theorem cellsStrE : Tryz.prog.cellsOf 9 = 1 := by kernel_rfl
theorem starErr : "*" ++ "errors.errorString" = "*errors.errorString" := by decide
theorem rowErr (u : TypeId) (h : Tryz.prog.typeName? 3 u = some "*errors.errorString") : u = 282 :=
  typeName_ptr_named (nm := "errors.errorString") (by rw [starErr]; kernel_rfl) (by kernel_rfl) (by decide) u (by rw [starErr]; exact h)
/-- What a row's list gives of the two errors. -/
theorem errs_of {W : World} {s1 s2 : List UInt8} {rest : List (String × DataW Unit)} (h : laidMet Tryz.prog (("strconv.ErrRange", .iface "*errors.errorString" (.ptr (.agg [.lit (.string s1)]))) :: ("strconv.ErrSyntax", .iface "*errors.errorString" (.ptr (.agg [.lit (.string s2)]))) :: rest) W) : Errs W := by
  obtain ⟨a0, s0, hv0, -, -, -⟩ := laid_sentinel h gRan gRanType Tryz.underlying210 rowErr Tryz.underlying282 Tryz.underlying284 rfl rfl Tryz.underlying9 cellsErr cellsStrE
  obtain ⟨a1, s1, hv1, -, -, -⟩ := laid_sentinel h.tail gSyn gSynType Tryz.underlying210 rowErr Tryz.underlying282 Tryz.underlying284 rfl rfl Tryz.underlying9 cellsErr cellsStrE
  exact ⟨⟨_, by have h0 := World.var?_cell gSyn hv1 0; simpa using h0, Or.inr ⟨_, _, rfl⟩⟩, ⟨_, by have h0 := World.var?_cell gRan hv0 0; simpa using h0, Or.inr ⟨_, _, rfl⟩⟩⟩
theorem trodVars_three {H : Type} {enc : TypeId × Value → H} {P : Program} {w : World} {spare : Nat → Bool} {n0 n1 n2 : String} {gs : List (DataW H)} {ps : List MemPlace} (h : DataW.TrodVars enc P w spare [n0, n1, n2] gs ps) : ∃ g0 g1 g2, gs = [g0, g1, g2] := by
  match gs, h with
  | [], h => simp [DataW.TrodVars] at h
  | d :: ds, h =>
    obtain ⟨g0, t0, cs0, f0, p0, q0, h1, h2, h3, h4, hs, e⟩ := h
    obtain ⟨a, _, _, _, b, _, c, _, _, _, d', _, rfl, _⟩ := trodVars_two hs
    exact ⟨d, _, _, rfl⟩
end Go.Proofs.YtjgmgaccmcepdaaGreatDoor
