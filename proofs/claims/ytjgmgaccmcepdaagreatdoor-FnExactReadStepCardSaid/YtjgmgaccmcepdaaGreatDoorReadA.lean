/- Words of a step's text: the rule of a word, the first word of a text. -/
import Derived.Test.YtjgmgaccmcepdaaGreatDoorStepI
import Derived.Laws.RangeString
namespace Go.Proofs.YtjgmgaccmcepdaaGreatDoor
open Go.ChangeAt Go.ChangeShapes Go.RowKit Go.WideShapes

/-- The rule whose word this is, or 0. -/
def rnm (t : ByteArray) : Nat := ((List.range 15).find? fun k => (nmB k).toList == t.toList).getD 0
theorem rnm_at {t : ByteArray} {k : Nat} (hk : k < 15) (h : ((nmB k).toList == t.toList) = true) (hm : ∀ m, m < k → ((nmB m).toList == t.toList) = false) : rnm t = k := by
  have e : (List.range 15).find? (fun k => (nmB k).toList == t.toList) = some k := List.find?_range_eq_some.2 ⟨h, List.mem_range.2 hk, fun j hj => by rw [hm j hj]; rfl⟩
  unfold rnm
  rw [e]; rfl
theorem rnm_none {t : ByteArray} (hm : ∀ m, m < 15 → ((nmB m).toList == t.toList) = false) : rnm t = 0 := by
  have e : (List.range 15).find? (fun k => (nmB k).toList == t.toList) = none := List.find?_range_eq_none.2 fun j hj => by rw [hm j hj]; rfl
  unfold rnm
  rw [e]; rfl

set_option maxHeartbeats 1000000 in
theorem ruleNamed_any (t : ByteArray) (w : World) (hw : Words w) :
    Calls Tryz.prog 170 #[.string t] w fun e w' => e = .returned (.int .i64 (rnm t)) ∧ w = w' := by
  have HW := Lib.hid hw
  clear hw
  go_enter Tryz.func170, Tryz.ntmps170
  go_wp2
  go_loop [4] (fun i => ∃ k : Nat, k ≤ 15 ∧ i = .int .i64 k ∧ ∀ m, m < k → ((nmB m).toList == t.toList) = false) (fun i => 15 - (intOf i).toNat)
  case atStart => exact ⟨0, Nat.zero_le _, rfl, fun m hm => absurd hm (by omega)⟩
  case round =>
    obtain ⟨k, hk, rfl, hp⟩ := hrel
    have HP := Lib.hid hp
    clear hp
    by_cases hlt : k < 15
    · have hc := HW.out k hlt
      have hlt' : (k : Int) < 15 := by omega
      cases he : ((nmB k).toList == t.toList)
      · go_wp2
        go_round
        case rel => exact ⟨k + 1, by omega, by go_num, fun m hm => (Nat.lt_or_eq_of_le (Nat.le_of_lt_succ hm)).elim (HP.out m) (fun e => e ▸ he)⟩
        case measure => simp [intOf]; omega
      · have HE : Hid ((k : Int) = rnm t) := Lib.hid (by rw [rnm_at hlt he HP.out])
        go_wp2
        go_ret
        exact ⟨ret_i64 HE.out, rfl⟩
    · have hkl : k = 15 := by omega
      subst hkl
      have HE : Hid ((0 : Int) = rnm t) := Lib.hid (by rw [rnm_none HP.out]; rfl)
      go_wp2
      go_ret
      exact ⟨ret_i64 HE.out, rfl⟩
end Go.Proofs.YtjgmgaccmcepdaaGreatDoor
