/- copyInts of the model at any length. -/
import Derived.Test.YtkhngbfhgpaghaaDoorQValid
import Derived.Test.YtkhngbfhgpaghaaDoorQSubA
import Derived.Laws.AppendOwnNone
namespace Go.Proofs.YtkhngbfhgpaghaaDoor
open Go.ChangeAt Go.ChangeShapes Go.RowKit Go.WideShapes

set_option maxHeartbeats 1000000 in
theorem copyInts_nil (A : Option Addr) (c : Nat) (w : World) : Calls Tryd.prog 100 #[.slice A 0 c] w (Gives w []) := by
  obtain ⟨i0, hi0, hz0, hz1, hz2⟩ := info_parts info_i64
  have hb0 : Below w.heap.size w (w.alloc (.cells #[] 2)) := (Below.refl _ _).alloc (Nat.le_refl _) _
  have H0 := Lib.hid (World.ownsRow_made (e := 2) (base := w.heap.size) (size := 1) w #[] 0 (Nat.le_refl _) (by simp [maxLen]) rfl)
  have HB0 := Lib.hid hb0
  have HI := Lib.hid hi0; have HZ0 := Lib.hid hz0; have HZ1 := Lib.hid hz1; have HZ2 := Lib.hid hz2
  clear hb0 hi0 hz0 hz1 hz2
  cases A with
  | none =>
    go_enter Tryd.func100, Tryd.ntmps100
    go_wp2
    go_ret
    exact ⟨_, _, rfl, H0.out, HB0.out⟩
  | some ad =>
    go_enter Tryd.func100, Tryd.ntmps100
    go_wp2_with (at_builtin; refine wpList_append_own _ rfl _ _ 24 rfl w.heap.size 2 i0 (.int .i64 0) 1 8 Tryd.underlying24 HI.out HZ0.out HZ1.out HZ2.out rfl (by decide) _ _ _ rfl H0.out ad 0 c [] rfl rfl (by simp) (by simp) (by simp [maxLen]) (by simp) HB0.out.size ?_; intro v2 w2 hown2 hgrow2 _; obtain ⟨A2, c2, rfl⟩ := own_shape hown2; have HO := Lib.hid hown2; have HB := Lib.hid (HB0.out.grown hgrow2 HB0.out.size (fun q hq => (H0.out.lt q hq).1)); clear hown2 hgrow2)
    go_ret
    exact ⟨_, _, rfl, HO.out, HB.out⟩
theorem copyInts_x (A : Option Addr) (n c : Nat) (zs : List Int) (w : World) (h : RdI w w.heap.size A n zs) (hn : n ≤ 1000) : Calls Tryd.prog 100 #[.slice A n c] w (Gives w zs) := by
  have hl := h.len
  by_cases h0 : n = 0
  · subst h0
    obtain rfl : zs = [] := List.eq_nil_of_length_eq_zero hl
    exact copyInts_nil A c w
  · exact copyInts_any (.slice A n c) zs w (Part.of_rd h (by omega)) (by omega)
end Go.Proofs.YtkhngbfhgpaghaaDoor
