/- LeavesOf: of the program and of the model. -/
import Derived.Test.YtdgejhlpncnenaaDoorDual
namespace Go.Proofs.YtdgejhlpncnenaaDoor
open Go.RowKit

/-- The leaves among the first k symbols. -/
def flt (f : List Int) (k : Nat) : List Int := (f.take k).filter leafB
theorem flt_zero (f : List Int) : flt f 0 = [] := by simp [flt]
theorem flt_yes {f : List Int} {k : Nat} (hk : k < f.length) (h : leafB (f.getD k 0) = true) : flt f (k + 1) = flt f k ++ [f.getD k 0] := by
  unfold flt
  have e : f.getD k 0 = f[k] := by simp [List.getD, hk]
  have e2 : List.filter leafB [f.getD k 0] = [f.getD k 0] := by rw [List.filter_cons, if_pos h]; rfl
  rw [List.take_succ_eq_append_getElem hk, List.filter_append, ← e, e2]
theorem flt_no {f : List Int} {k : Nat} (hk : k < f.length) (h : leafB (f.getD k 0) = false) : flt f (k + 1) = flt f k := by
  unfold flt
  have e : f.getD k 0 = f[k] := by simp [List.getD, hk]
  have e2 : List.filter leafB [f.getD k 0] = [] := by rw [List.filter_cons, if_neg (by rw [h]; decide)]; rfl
  rw [List.take_succ_eq_append_getElem hk, List.filter_append, ← e, e2, List.append_nil]
theorem flt_len (f : List Int) (k : Nat) : (flt f k).length ≤ k := by
  unfold flt; exact Nat.le_trans (List.length_filter_le _ _) (List.length_take_le _ _)
theorem flt_all (f : List Int) : flt f f.length = f.filter leafB := by simp [flt]
/-- LeavesOf. -/
def leavesL (f : List Int) : List Int := if validB f then f.filter leafB else []
theorem leavesL_yes {f : List Int} (h : validB f = true) : leavesL f = flt f f.length := by simp [leavesL, h, flt_all]
theorem leavesL_no {f : List Int} (h : validB f = false) : leavesL f = [] := by simp [leavesL, h]
theorem leavesL_len (f : List Int) : (leavesL f).length ≤ 24 := by
  cases h : validB f with
  | true => rw [leavesL_yes h]; exact Nat.le_trans (flt_len _ _) (valid_len h).2.1
  | false => rw [leavesL_no h]; simp

theorem own_form {w : World} {base n : Nat} {e : TypeId} {v : Value} {xs : List Value} (h : w.ownsRow base e 1 v n xs) : ∃ A c, v = .slice A n c := by
  rcases h.2 with ⟨rfl, rfl⟩ | ⟨g, cap, cur, rfl, _⟩
  · exact ⟨_, _, rfl⟩
  · exact ⟨_, _, rfl⟩

theorem flt_push {w : World} {base : Nat} {v : Value} {f : List Int} {k : Nat} {x : Int} (hk : k < f.length) (hx : f.getD k 0 = x) (h : leafB x = true) (hown : w.ownsRow base 2 1 v ((flt f k).length + 1) ((flt f k).map (Value.int .i64) ++ [.int .i64 x])) :
    w.ownsRow base 2 1 v (flt f (k + 1)).length ((flt f (k + 1)).map (Value.int .i64)) := by
  subst hx
  rw [flt_yes hk h, List.length_append, List.map_append]
  exact hown

set_option maxHeartbeats 1000000 in
theorem leavesOf_in (A : Option Addr) (c : Nat) (f : List Int) (w : World) (h : RdI w w.heap.size A f.length f) (ht : Arit w) (hnc : f.length ≤ c) (hv : validB f = true) :
    Calls Tryd.prog 86 #[.slice A f.length c] w (Gives w (flt f f.length)) := by
  obtain ⟨i0, hi0, hz0, hz1, hz2⟩ := info_parts info_i64
  have hlen := valid_len hv
  go_enter Tryd.func86, Tryd.ntmps86
  go_wp2_with (go_at_call 35; refine (validForm_impl _ _ _ f _ h ht hnc).mono ?_; rintro e w' ⟨rfl, rfl⟩)
  have H0 : Hid (w.ownsRow w.heap.size 2 1 (.slice none 0 0) (flt f 0).length ((flt f 0).map (Value.int .i64))) := Lib.hid (by rw [flt_zero]; exact World.ownsRow_nil _ _ _ _)
  clear hv ht
  go_loopw [3, 11] (fun v i wr => ∃ k : Nat, k ≤ f.length ∧ i = .int .i64 k ∧ wr.ownsRow w.heap.size 2 1 v (flt f k).length ((flt f k).map (Value.int .i64)) ∧ Below w.heap.size w wr)
    (fun _ i _ => f.length - (intOf i).toNat)
  case atStart => exact ⟨0, Nat.zero_le _, rfl, H0.out, Below.refl _ _⟩
  case round =>
    obtain ⟨k, hk, rfl, hown, hb⟩ := hrel
    by_cases hlt : k < f.length
    · obtain ⟨b, off, rfl, hbb, hcells⟩ := h.2 (by omega)
      have hc := (hb.cell (p := ⟨b, off + k, none⟩) hbb).trans (hcells k hlt)
      obtain ⟨x, hx⟩ : ∃ x, f.getD k 0 = x := ⟨_, rfl⟩
      rw [hx] at hc
      have HX := Lib.hid hx
      have hsz := hb.size
      have hfl := flt_len f k
      clear hcells hx
      cases hleaf : leafB x with
      | true =>
        go_wp2_with (first | (go_at_call 101; refine (isLeaf_any x _).mono ?_; rintro e w' ⟨rfl, rfl⟩) | (at_builtin; refine wpList_append_own _ rfl _ _ 24 rfl w.heap.size 2 i0 (.int .i64 0) 1 8 Tryd.underlying24 hi0 hz0 hz1 hz2 rfl (by decide) _ _ _ rfl (hown.alloc _) ⟨wr.heap.size, 0, none⟩ 1 1 [.int .i64 x] rfl rfl ?c1 ?c2 ?c3 ?c4 ?c5 ?_))
        case c1 => exact cell_one_new _ _ _
        case c2 => intro u hu; simp at hu; subst hu; rfl
        case c3 => unfold maxLen; omega
        case c4 => omega
        case c5 => simp; omega
        intro v' w1 hown' hgrow _
        have hb1 := Lib.hid ((hb.alloc hsz (.cells #[.int .i64 x] 2)).grown hgrow (by simp; omega) (fun q hq => (hown.lt q hq).1))
        have hown1 := Lib.hid (flt_push hlt HX.out hleaf hown')
        clear hown' hgrow hown hb
        go_wp2
        go_roundw
        case rel => exact ⟨k + 1, by omega, by go_num, hown1.out, hb1.out⟩
        case measure => simp [intOf]; omega
      | false =>
        have hown1 := hown
        rw [← flt_no hlt (by rw [HX.out]; exact hleaf)] at hown1
        have H1 := Lib.hid hown1; have HB := Lib.hid hb
        clear hown1 hown hb
        go_wp2_with (go_at_call 101; refine (isLeaf_any x _).mono ?_; rintro e w' ⟨rfl, rfl⟩)
        go_roundw
        case rel => exact ⟨k + 1, by omega, by go_num, H1.out, HB.out⟩
        case measure => simp [intOf]; omega
    · have hkl : k = f.length := by omega
      subst hkl
      obtain ⟨A1, c1, rfl⟩ := own_form hown
      have HS := Lib.hid hown; have HB := Lib.hid hb
      clear hown hb
      go_wp2
      go_ret
      exact ⟨_, _, rfl, HS.out, HB.out⟩

set_option maxHeartbeats 400000 in
theorem leavesOf_impl (A : Option Addr) (n c : Nat) (f : List Int) (w : World) (h : RdI w w.heap.size A n f) (ht : Arit w) (hnc : n ≤ c) :
    Calls Tryd.prog 86 #[.slice A n c] w (Gives w (leavesL f)) := by
  have hl := h.len
  subst hl
  cases hv : validB f with
  | true => rw [leavesL_yes hv]; exact leavesOf_in A c f w h ht hnc hv
  | false =>
    rw [leavesL_no hv]
    go_enter Tryd.func86, Tryd.ntmps86
    go_wp2_with (go_at_call 35; refine (validForm_impl _ _ _ f _ h ht hnc).mono ?_; rintro e w' ⟨rfl, rfl⟩)
    go_ret
    exact ⟨_, _, rfl, World.ownsRow_nil _ _ _ _, Below.refl _ _⟩

end Go.Proofs.YtdgejhlpncnenaaDoor
