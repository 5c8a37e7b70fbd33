/- The program's formOf. -/
import Derived.Test.YtjfhbofgnagfaaaDoorCkA
namespace Go.Proofs.YtjfhbofgnagfaaaDoor
open Go.ChangeAt Go.ChangeShapes Go.RowKit Go.WideShapes

theorem lit_own (w : World) (x : Int) : (w.alloc (.cells #[Value.int .i64 x] 2)).ownsRow w.heap.size 2 1 (.slice (some ⟨w.heap.size, 0, none⟩) 1 1) 1 [Value.int .i64 x] :=
  ⟨rfl, .inr ⟨w.heap.size, 1, #[Value.int .i64 x], rfl, Nat.le_refl _, heap_alloc_new _ _, Nat.le_refl _, by decide, rfl, rfl⟩⟩
theorem grow_zero (w : World) : Calls Tryd.prog 127 #[.slice none 0 0, .int .i64 0] w fun e w' => e = .returned (.slice none 0 0) ∧ w = w' := by
  go_enter Tryd.func127, Tryd.ntmps127
  go_wp2
  go_ret
  exact ⟨rfl, rfl⟩
theorem concat_nil (w : World) : Calls Tryd.prog 114 #[.slice none 0 0] w fun e w' => e = .returned (.slice none 0 0) ∧ w = w' := by
  go_enter Tryd.func114, Tryd.ntmps114
  go_wp2
  go_loopw [3, 11] (fun s i wr => s = .int .i64 0 ∧ i = .int .i64 0 ∧ w = wr) (fun _ _ _ => 0)
  case atStart => exact ⟨rfl, rfl, rfl⟩
  case round =>
    obtain ⟨rfl, rfl, rfl⟩ := hrel
    go_wp2_with (go_at_call 127; refine (grow_zero _).mono ?_; rintro e w' ⟨rfl, rfl⟩)
    go_loopw [6, 27] (fun s i wr => s = .slice none 0 0 ∧ i = .int .i64 0 ∧ w = wr) (fun _ _ _ => 0)
    case atStart => exact ⟨rfl, rfl, rfl⟩
    case round =>
      obtain ⟨rfl, rfl, rfl⟩ := hrel
      go_wp2
      go_ret
      exact ⟨rfl, rfl⟩

/-- formOf at operands that are none. -/
theorem formOf_nil (op : Int) (w : World) : Calls Tryd.prog 70 #[.int .i64 op, .slice none 0 0] w (Gives w [op]) := by
  obtain ⟨i0, hi0, hz0, hz1, hz2⟩ := info_parts info_i64
  obtain ⟨w1, hw1⟩ : ∃ w1, w1 = w.alloc (.cells #[Value.int .i64 op] 2) := ⟨_, rfl⟩
  have hb1 : Below w.heap.size w w1 := by rw [hw1]; exact (Below.refl _ _).alloc (Nat.le_refl _) _
  have ho1 : w1.ownsRow w.heap.size 2 1 (.slice (some ⟨w.heap.size, 0, none⟩) 1 1) 1 [Value.int .i64 op] := by rw [hw1]; exact lit_own w op
  have HW1 := Lib.hid hw1; have HB1 := Lib.hid hb1; have HO1 := Lib.hid ho1
  clear hw1 hb1 ho1
  go_enter Tryd.func70, Tryd.ntmps70
  go_wp2_with (first
    | (go_at_call 114; rw [← HW1.out]; refine (concat_nil _).mono ?_; rintro e w' ⟨rfl, rfl⟩)
    | (at_builtin; refine wpList_append_own_none rfl _ _ 26 rfl w.heap.size 2 i0 1 Tryd.underlying26 hi0 _ _ _ rfl HO1.out rfl ?_))
  go_ret
  exact ⟨_, _, rfl, HO1.out, HB1.out⟩

set_option maxHeartbeats 1000000 in
/-- formOf: the operator, then its operands. -/
theorem formOf_any (op : Int) (g m c : Nat) (vs : List Value) (ls : List (List Int)) (w : World) (hm : ls.length = m) (hm0 : 0 < m) (hmx : m ≤ 1000)
    (hcell : ∀ i, i < m → w.cell? ⟨g, i, none⟩ = some (vs.getD i undef)) (hgB : g < w.heap.size) (hpart : ∀ i, i < m → Part w w.heap.size (vs.getD i undef) (ls.getD i [])) (htot : ls.flatten.length ≤ 1000) (hpos : 0 < ls.flatten.length) :
    Calls Tryd.prog 70 #[.int .i64 op, .slice (some ⟨g, 0, none⟩) m c] w (Gives w (op :: ls.flatten)) := by
  obtain ⟨i0, hi0, hz0, hz1, hz2⟩ := info_parts info_i64
  have HI := Lib.hid hi0; have HZ0 := Lib.hid hz0; have HZ1 := Lib.hid hz1; have HZ2 := Lib.hid hz2
  obtain ⟨w1, hw1⟩ : ∃ w1, w1 = w.alloc (.cells #[Value.int .i64 op] 2) := ⟨_, rfl⟩
  have hb1 : Below w.heap.size w w1 := by rw [hw1]; exact (Below.refl _ _).alloc (Nat.le_refl _) _
  have ho1 : w1.ownsRow w.heap.size 2 1 (.slice (some ⟨w.heap.size, 0, none⟩) 1 1) 1 [Value.int .i64 op] := by rw [hw1]; exact lit_own w op
  have hs1 : w1.heap.size = w.heap.size + 1 := by rw [hw1]; simp
  have HC := Lib.hid (concat_any g m c vs ls w1 hm hm0 hmx (fun i hi => (hb1.cell (p := ⟨g, i, none⟩) hgB).trans (hcell i hi)) (by omega) (fun i hi => ((hpart i hi).below hb1).more (by omega)) htot)
  have HW1 := Lib.hid hw1; have HB1 := Lib.hid hb1; have HO1 := Lib.hid ho1
  obtain ⟨T, hT⟩ : ∃ T, ls.flatten = T := ⟨_, rfl⟩
  rw [hT] at HC htot hpos ⊢
  clear hw1 hb1 ho1 hi0 hz0 hz1 hz2 hcell hpart hT
  go_enter Tryd.func70, Tryd.ntmps70
  go_wp2_with (go_at_call 114; fail)
  rw [← HW1.out]
  refine HC.out.mono ?_
  rintro e w2 ⟨A2, c2, rfl, o2, bel2⟩
  obtain ⟨b2, off2, c2', he, hb2, hc2⟩ : ∃ b off c', (Value.slice A2 T.length c2) = .slice (some ⟨b, off, none⟩) T.length c' ∧ b < w2.heap.size ∧ ∀ j, j < T.length → w2.cell? ⟨b, off + j, none⟩ = some (.int .i64 (T.getD j 0)) := by
    obtain ⟨b, off, e, hbb, hcc⟩ := (RdI.of_own o2).2 hpos
    exact ⟨b, off, c2, by rw [e], hbb, hcc⟩
  injection he with e1 e2 e3
  subst e1; subst e3
  have HN := Lib.hid (part_news hc2)
  have HO2 := Lib.hid (own_below HO1.out bel2 (Nat.le_refl _))
  have HB2 := Lib.hid (HB1.out.trans (bel2.mono HB1.out.size))
  have HHO := Lib.hid (ints_one T)
  have HLN : Hid ((T.map (Value.int .i64)).length = T.length * 1) := Lib.hid (by simp)
  have hs2 : w.heap.size ≤ w2.heap.size := HB2.out.size
  clear hc2 o2 bel2
  go_wp2_with (at_builtin; refine wpList_append_own _ rfl _ _ 26 rfl w.heap.size 2 i0 (.int .i64 0) 1 8 Tryd.underlying26 HI.out HZ0.out HZ1.out HZ2.out rfl (by decide) _ _ _ rfl HO2.out ⟨b2, off2, none⟩ T.length c2 (T.map (Value.int .i64)) rfl HLN.out HN.out HHO.out (by unfold maxLen; omega) (by omega) hs2 ?_; intro v7 w7 hown7 hgrow7 _)
  obtain ⟨A7, c7, rfl⟩ := own_shape hown7
  have HB7 := Lib.hid (HB2.out.grown hgrow7 hs2 (fun k hk => (HO2.out.lt k hk).1))
  have e : 1 + T.length = (op :: T).length := by rw [List.length_cons]; omega
  rw [e] at hown7 ⊢
  have HO7 := Lib.hid hown7
  clear hown7 hgrow7 e
  go_wp2
  go_ret
  exact ⟨A7, c7, rfl, HO7.out, HB7.out⟩
end Go.Proofs.YtjfhbofgnagfaaaDoor
