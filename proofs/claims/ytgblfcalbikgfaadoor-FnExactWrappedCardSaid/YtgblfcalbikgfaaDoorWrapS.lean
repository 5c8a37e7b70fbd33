/- Wrapped of the model. -/
import Derived.Test.YtgblfcalbikgfaaDoorJoinS
namespace Go.Proofs.YtgblfcalbikgfaaDoor
open Go.RowKit

/-- The operators with one operand are two. -/
theorem wrap_ops (n : Int) : (arZ n = 1 ∧ (n = 17 ∨ n = 18)) ∨ (¬ arZ n = 1 ∧ n ≠ 17 ∧ n ≠ 18) := by
  rcases sym_cases n with ⟨_, ha, hb⟩ | ⟨_, _, h⟩ | ⟨_, _, ha, _, _, hb⟩
  · right; omega
  · omega
  · right; omega

set_option maxHeartbeats 1000000 in
theorem swrap_op (op : Int) (A : Option Addr) (c : Nat) (a : List Int) (w : World) (h : RdI w w.heap.size A a.length a) (h1 : op = 17 ∨ op = 18) (h1' : arZ op = 1) :
    Calls Tryd.prog 39 #[.int .i64 op, .slice A a.length c] w (GivesB w (wrapL op a) (wrapB op a)) := by
  obtain ⟨i0, hi0, hz0, hz1, hz2⟩ := info_parts info_i64
  cases hva : validB a with
  | false =>
    have hnj : ¬ (arZ op = 1 ∧ validB a = true ∧ 1 + a.length ≤ 24) := by rw [hva]; simp
    rw [wrapL_no (wrapB_no hnj), wrapB_no hnj]
    clear hnj h1' hi0 hz0 hz1 hz2
    rcases h1 with rfl | rfl
    all_goals
      go_enter Tryd.func39, Tryd.ntmps39
      go_wp2_with (go_at_call 18; refine (sValidForm_any _ _ _ a _ h).mono ?_; rintro e w' ⟨rfl, rfl⟩)
      go_ret2
      exact givesB_nil w
  | true =>
    have l1 := valid_len hva
    have la : a.length ≤ 24 := by omega
    by_cases h4 : 1 + a.length ≤ 24
    · have hJ := wrapB_yes h1' hva h4
      rw [wrapL_yes hJ, hJ]
      obtain ⟨b1, off1, rfl, hb1, hc1⟩ := h.2 (by omega)
      have H0 := World.ownsRow_lit (base := w.heap.size) (e := 2) (size := 1) w #[.int .i64 op] 1 (Nat.le_refl _) (by simp [maxLen]) rfl
      have hb0 : Below w.heap.size w (w.alloc (.cells #[.int .i64 op] 2)) := (Below.refl _ _).alloc (Nat.le_refl _) _
      have HN1 : Hid (∀ j u, (a.map (Value.int .i64))[j]? = some u → (w.alloc (.cells #[.int .i64 op] 2)).cell? ((⟨b1, off1, none⟩ : Addr).add j) = some u) := Lib.hid (part_news (fun j hj => (hb0.cell (p := ⟨b1, off1 + j, none⟩) hb1).trans (hc1 j hj)))
      have HB0 := Lib.hid hb0
      have HJ : Hid ([Value.int .i64 op] ++ a.map (Value.int .i64) = (op :: a).map (Value.int .i64)) := Lib.hid (by simp)
      have HL : Hid ((op :: a).length = 1 + a.length) := Lib.hid (by simp; omega)
      have HL1 : Hid ((a.map (Value.int .i64)).length = a.length * 1) := Lib.hid (by simp)
      have HHO := Lib.hid (ints_one a)
      have HM1 : Hid (1 + a.length ≤ maxLen) := Lib.hid (by unfold maxLen; omega)
      have HS1 : Hid ((1 + a.length) * 8 ≤ 140737488355328) := Lib.hid (by omega)
      have hd4 : decide (24 < (a.length : Int) + 1) = false := decide_eq_false (by omega)
      generalize a.map (Value.int .i64) = xa at HN1 HJ HL1 HHO
      generalize op :: a = J at HJ HL ⊢
      have HH0 := Lib.hid H0
      have HI := Lib.hid hi0; have HZ0 := Lib.hid hz0; have HZ1 := Lib.hid hz1; have HZ2 := Lib.hid hz2
      clear hb0 hc1 hJ l1 h4 h1' hi0 hz0 hz1 hz2 H0
      rcases h1 with rfl | rfl
      all_goals
        go_enter Tryd.func39, Tryd.ntmps39
        go_wp2_with (first | (go_at_call 18; refine (sValidForm_any _ _ _ a _ h).mono ?_; rintro e w' ⟨rfl, rfl⟩) | (at_builtin; refine wpList_append_own _ rfl (.tmp 24) (.tmp 25) 24 rfl w.heap.size 2 i0 (.int .i64 0) 1 8 Tryd.underlying24 HI.out HZ0.out HZ1.out HZ2.out rfl (by decide) _ _ _ rfl HH0.out ⟨b1, off1, none⟩ a.length c xa rfl HL1.out HN1.out HHO.out HM1.out HS1.out HB0.out.size ?_; intro v2 w2 hown2 hgrow2 _; obtain ⟨A2, c2, rfl, HO2, HB2⟩ := last_news HB0 HH0 hown2 hgrow2 HJ HL; clear hown2 hgrow2))
        go_ret2
        exact ⟨_, _, by rw [HL.out]; rfl, HO2.out, HB2.out⟩
    · rw [wrapL_no (wrapB_no (by omega)), wrapB_no (by omega)]
      have hd4 : decide (24 < (a.length : Int) + 1) = true := decide_eq_true (by omega)
      clear l1 h1' hi0 hz0 hz1 hz2
      rcases h1 with rfl | rfl
      all_goals
        go_enter Tryd.func39, Tryd.ntmps39
        go_wp2_with (go_at_call 18; refine (sValidForm_any _ _ _ a _ h).mono ?_; rintro e w' ⟨rfl, rfl⟩)
        go_ret2
        exact givesB_nil w

set_option maxHeartbeats 1000000 in
theorem sWrapped_any (op : Int) (A : Option Addr) (n c : Nat) (a : List Int) (w : World) (h : RdI w w.heap.size A n a) :
    Calls Tryd.prog 39 #[.int .i64 op, .slice A n c] w (GivesB w (wrapL op a) (wrapB op a)) := by
  have hl := h.len
  subst hl
  rcases wrap_ops op with ⟨h1', h1⟩ | ⟨h1, h17, h18⟩
  · exact swrap_op op A c a w h h1 h1'
  · have hnj : ¬ (arZ op = 1 ∧ validB a = true ∧ 1 + a.length ≤ 24) := fun h => h1 h.1
    rw [wrapL_no (wrapB_no hnj), wrapB_no hnj]
    have e7 : (op != 17) = true := by simpa using h17
    have e8 : (op != 18) = true := by simpa using h18
    clear hnj h1 h17 h18
    go_enter Tryd.func39, Tryd.ntmps39
    go_wp2
    go_ret2
    exact givesB_nil w
end Go.Proofs.YtgblfcalbikgfaaDoor
