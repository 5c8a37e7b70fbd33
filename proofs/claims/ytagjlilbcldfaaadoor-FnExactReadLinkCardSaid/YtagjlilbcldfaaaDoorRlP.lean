/- The program's ReadLink: the kind of a word, the numbers of a text. -/
import Derived.Test.YtagjlilbcldfaaaDoorRlM
import Derived.Test.YtagjlilbcldfaaaDoorQReadA
namespace Go.Proofs.YtagjlilbcldfaaaDoor
set_option linter.unusedSimpArgs false
set_option linter.unusedVariables false
open Go.ChangeAt Go.ChangeShapes Go.RowKit Go.WideShapes

set_option maxHeartbeats 1000000 in
theorem kindNamed_any (t : ByteArray) (w : World) (hw : LWords w) :
    Calls Tryd.prog 56 #[.string t] w fun e w' => e = .returned (.int .i64 (kn t)) ∧ w = w' := by
  have HW := Lib.hid hw
  clear hw
  go_enter Tryd.func56, Tryd.ntmps56
  go_wp2
  go_loop [4] (fun i => ∃ k : Nat, k ≤ 5 ∧ i = .int .i64 k ∧ ∀ m, m < k → ((lwB m).toList == t.toList) = false) (fun i => 5 - (intOf i).toNat)
  case atStart => exact ⟨0, Nat.zero_le _, rfl, fun m hm => absurd hm (by omega)⟩
  case round =>
    obtain ⟨k, hk, rfl, hp⟩ := hrel
    have HP := Lib.hid hp
    clear hp
    by_cases hlt : k < 5
    · have hc := HW.out k hlt
      have hlt' : (k : Int) < 5 := by omega
      cases he : ((lwB k).toList == t.toList)
      · go_wp2
        go_round
        case rel => exact ⟨k + 1, by omega, by go_num, fun m hm => (Nat.lt_or_eq_of_le (Nat.le_of_lt_succ hm)).elim (HP.out m) (fun e => e ▸ he)⟩
        case measure => simp [intOf]; omega
      · have HE : Hid ((k : Int) = kn t) := Lib.hid (by rw [kn_at hlt he HP.out])
        go_wp2
        go_ret
        exact ⟨ret_i64 HE.out, rfl⟩
    · have hkl : k = 5 := by omega
      subst hkl
      have HE : Hid ((0 : Int) = kn t) := Lib.hid (by rw [kn_none HP.out]; rfl)
      go_wp2
      go_ret
      exact ⟨ret_i64 HE.out, rfl⟩
def szV : Value → Nat
  | .string s => s.size
  | _ => 0
theorem cwB_lt {t : ByteArray} (h : t.size ≠ 0) : (cwB t).size < t.size := by
  unfold cwB
  split
  · rw [ByteArray.size_extract]; omega
  · show 0 < t.size; omega
theorem cwA_le (t : ByteArray) : (cwA t).size ≤ t.size := by
  unfold cwA
  split
  · rw [ByteArray.size_extract]; omega
  · exact Nat.le_refl _
theorem nsG_more {m : Nat} {t : ByteArray} (h : t.size ≠ 0) : nsG (m + 1) t = psI (cwA t) :: nsG m (cwB t) := by
  conv => lhs; unfold nsG
  rw [if_neg h]
theorem nsG_stop {m : Nat} {t : ByteArray} (h : t.size = 0) : nsG m t = [] := by
  cases m with
  | zero => rfl
  | succ m => unfold nsG; rw [if_pos h]

set_option maxRecDepth 100000 in
set_option maxHeartbeats 4000000 in
theorem likelyNumbers_any (t : ByteArray) (w : World) (hs : t.size ≤ 1048576) (he : Errs w) :
    Calls Tryd.prog 55 #[.string t] w fun e w' => ∃ (A : Option Addr) (c : Nat), e = .returned (.slice A (nsG 48 t).length c) ∧ w'.ownsRow w.heap.size 2 1 (.slice A (nsG 48 t).length c) (nsG 48 t).length ((nsG 48 t).map (Value.int .i64)) ∧ Below w.heap.size w w' := by
  obtain ⟨i0, hi0, hz0, hz1, hz2⟩ := info_parts info_i64
  have HI := Lib.hid hi0; have HZ0 := Lib.hid hz0; have HZ1 := Lib.hid hz1; have HZ2 := Lib.hid hz2
  have HE := Lib.hid he
  obtain ⟨N, hN⟩ : ∃ N, nsG 48 t = N := ⟨_, rfl⟩
  have HN := Lib.hid hN
  have hNl : N.length ≤ 48 := by rw [← hN]; exact nsG_len 48 t
  rw [hN]
  clear hi0 hz0 hz1 hz2 he hN
  go_enter Tryd.func55, Tryd.ntmps55
  go_wp2
  go_loopw [0, 3] (fun a s wr => ∃ (r : ByteArray) (l : List Int) (A : Option Addr) (c : Nat), a = .string r ∧ s = .slice A l.length c ∧ r.size ≤ 1048576 ∧ l.length ≤ 48 ∧ Hid (l ++ nsG (48 - l.length) r = N) ∧ wr.ownsRow w.heap.size 2 1 (.slice A l.length c) l.length (l.map (Value.int .i64)) ∧ Below w.heap.size w wr) (fun a _ _ => szV a)
  case atStart => exact ⟨t, [], none, 0, rfl, rfl, hs, Nat.zero_le _, HN, World.ownsRow_nil _ _ _ _, Below.refl _ _⟩
  case round =>
    obtain ⟨r, l, A, c, rfl, rfl, hr, hl, HL, ho, hb⟩ := hrel
    have HO := Lib.hid ho; have HB := Lib.hid hb
    clear ho hb
    have hsr := HB.out.size
    by_cases h0 : r.size = 0
    · obtain rfl : r = ⟨#[]⟩ := ba_ext (by rw [size_list] at h0; exact List.length_eq_zero_iff.1 h0)
      have hll : l = N := by have := HL.out; rwa [nsG_nil, List.append_nil] at this
      subst hll
      go_wp2
      go_ret
      exact ⟨A, c, rfl, HO.out, HB.out⟩
    · have hq : ¬ r.toList = [] := fun e => h0 (by rw [size_list, ← ByteArray.toList_eq, e]; rfl)
      have hq2 : r.toList.isEmpty = false := by cases hz : r.toList with
        | nil => exact absurd hz hq
        | cons x y => rfl
      by_cases hlt : l.length < 48
      · have hlt' : (l.length : Int) < 48 := by omega
        have HC := Lib.hid (cutWord_any r wr (by unfold maxLen; omega))
        have HCA := Lib.hid (cwA_le r)
        have HCB := Lib.hid (cwB_lt h0)
        have HL2 : Hid ((l ++ [psI (cwA r)]) ++ nsG (48 - (l.length + 1)) (cwB r) = N) := Lib.hid (by
          have := HL.out
          rw [show 48 - l.length = (48 - (l.length + 1)) + 1 from by omega, nsG_more h0] at this
          rw [List.append_assoc]; exact this)
        go_wp2_with (fail)
        refine HC.out.mono ?_
        rintro e w1 ⟨rfl, bel1⟩
        have hb1 := HB.out.trans (bel1.mono hsr)
        have HO1 := Lib.hid (own_below HO.out bel1 (Nat.le_refl _))
        have HB1 := Lib.hid hb1
        have HP := Lib.hid (parseInt_any (cwA r) w1 (by have := HCA.out; omega) (HE.out.below hb1 HE.out.lt))
        clear hb1 bel1 HC HO HB HL
        generalize psI (cwA r) = v at *
        generalize cwA r = word at *
        generalize cwB r = rest at *
        go_wp2_with (fail)
        refine HP.out.mono ?_
        rintro e w2 ⟨er, rfl, bel2⟩
        have hs1 := HB1.out.size
        have HO2 := Lib.hid (own_below HO1.out bel2 (Nat.le_refl _))
        have HB2 := Lib.hid (HB1.out.trans (bel2.mono hs1))
        have hs2 := HB2.out.size
        clear bel2 HP HO1 HB1
        go_wp2_with (at_builtin; refine wpList_append_lies _ rfl _ _ _ rfl w.heap.size 2 i0 (.int .i64 0) 1 8 Tryd.underlying34 HI.out HZ0.out HZ1.out HZ2.out rfl (by decide) _ _ _ rfl (HO2.out.alloc _) ⟨w2.heap.size, 0, none⟩ 1 1 [.int .i64 v] rfl rfl (cell_one_new _ _ _) (by simp [Value.oneCell']) (by decide) (by simp only [maxLen]; omega) (by omega) (by simp; omega) _ rfl ?_; intro g7 cap7 w7 hown7 hgrow7 hat7 hlt7)
        have HB7 := Lib.hid ((HB2.out.alloc hs2 (.cells #[.int .i64 v] 2)).grown hgrow7 (by simp; omega) (fun q hq => (HO2.out.lt q hq).1))
        have HO7 := Lib.hid hown7
        clear hgrow7 hown7 hat7
        go_wp2
        go_roundw
        case rel => exact ⟨rest, l ++ [v], some ⟨g7, 0, none⟩, cap7, rfl, by rw [List.length_append]; rfl, by have := HCB.out; omega, by rw [List.length_append]; show l.length + 1 ≤ 48; omega, Lib.hid (by rw [List.length_append]; exact HL2.out), by rw [List.length_append, List.map_append]; exact HO7.out, HB7.out⟩
        case measure => have := HCB.out; simp [szV]; omega
      · have hl48 : l.length = 48 := by omega
        have hlt' : ¬ (l.length : Int) < 48 := by omega
        have hll : l = N := by have := HL.out; rw [hl48] at this; rwa [show nsG (48 - 48) r = [] from rfl, List.append_nil] at this
        have hN48 : N.length = 48 := by rw [← hll]; exact hl48
        have HO9 : Hid (wr.ownsRow w.heap.size 2 1 (.slice A 48 c) 48 (N.map (Value.int .i64))) := Lib.hid (by have := HO.out; rw [hll, hN48] at this; exact this)
        clear hll HL
        go_wp2
        go_ret
        exact ⟨A, c, rfl, HO9.out, HB.out⟩
end Go.Proofs.YtagjlilbcldfaaaDoor
