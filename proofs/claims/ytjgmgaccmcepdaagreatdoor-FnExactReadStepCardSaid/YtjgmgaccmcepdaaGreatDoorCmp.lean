/- The order of formulas: of the program and of the model. -/
import Derived.Test.YtjgmgaccmcepdaaGreatDoorValid
namespace Go.Proofs.YtjgmgaccmcepdaaGreatDoor
open Go.RowKit

/-- cmp.Compare. -/
def cmZ (x y : Int) : Int := if x < y then -1 else if y < x then 1 else 0
/-- slices.Compare. -/
def lexZ : List Int → List Int → Int
  | [], [] => 0
  | [], _ :: _ => -1
  | _ :: _, [] => 1
  | x :: xs, y :: ys => if cmZ x y = 0 then lexZ xs ys else cmZ x y
/-- The order: by the number of symbols, then by the first different one. -/
def cmpL (a b : List Int) : Int := if cmZ a.length b.length = 0 then lexZ a b else cmZ a.length b.length
/-- FormBefore. -/
def befB (a b : List Int) : Bool := validB a && validB b && decide (cmpL a b < 0)

theorem cmZ_cases (x y : Int) : (x < y ∧ cmZ x y = -1) ∨ (y < x ∧ cmZ x y = 1) ∨ (x = y ∧ cmZ x y = 0) := by
  unfold cmZ
  by_cases h : x < y
  · rw [if_pos h]; exact .inl ⟨h, rfl⟩
  · by_cases h' : y < x
    · rw [if_neg h, if_pos h']; exact .inr (.inl ⟨h', rfl⟩)
    · rw [if_neg h, if_neg h']; exact .inr (.inr ⟨by omega, rfl⟩)
theorem lexZ_bd : ∀ a b : List Int, -1 ≤ lexZ a b ∧ lexZ a b ≤ 1
  | [], [] => by simp [lexZ]
  | [], _ :: _ => by simp [lexZ]
  | _ :: _, [] => by simp [lexZ]
  | x :: xs, y :: ys => by
    unfold lexZ
    split
    · exact lexZ_bd xs ys
    · rcases cmZ_cases x y with h | h | h <;> omega
theorem lexZ_same {x y : Int} (xs ys : List Int) (h : cmZ x y = 0) : lexZ (x :: xs) (y :: ys) = lexZ xs ys := by simp [lexZ, h]
theorem lexZ_diff {x y : Int} (xs ys : List Int) (h : ¬ cmZ x y = 0) : lexZ (x :: xs) (y :: ys) = cmZ x y := by simp [lexZ, h]

theorem cmZ_lt {x y : Int} (h : ¬ cmZ x y = 0) : decide (x < y) = decide (cmZ x y < 0) := by
  rcases cmZ_cases x y with ⟨e, e'⟩ | ⟨e, e'⟩ | ⟨e, e'⟩
  · rw [e', decide_eq_true e]; rfl
  · rw [e', decide_eq_false (by omega)]; rfl
  · exact absurd e' h
theorem cmZ_ne {x y : Int} (h : ¬ cmZ x y = 0) : (x != y) = true := by
  have hne : x ≠ y := by
    rcases cmZ_cases x y with ⟨e, e'⟩ | ⟨e, e'⟩ | ⟨e, e'⟩
    · omega
    · omega
    · exact absurd e' h
  simpa using hne

theorem befB_no1 {a b : List Int} (h : validB a = false) : befB a b = false := by simp [befB, h]
theorem befB_no2 {a b : List Int} (h : validB b = false) : befB a b = false := by simp [befB, h]
theorem befB_yes {a b : List Int} (h : validB a = true) (h' : validB b = true) : befB a b = decide (cmpL a b < 0) := by simp [befB, h, h']
theorem ret_bool' {a b : Bool} (h : a = b) : Ending.returned (.bool a) = .returned (.bool b) := by rw [h]

set_option maxHeartbeats 2000000 in
theorem sformBefore_any (A B : Option Addr) (c d : Nat) (a b : List Int) (w : World) (h : RdI w w.heap.size A a.length a) (h' : RdI w w.heap.size B b.length b) (hn : a.length ≤ 1048576) (hm : b.length ≤ 1048576) :
    Calls Tryz.prog 159 #[.slice A a.length c, .slice B b.length d] w fun e w' => e = .returned (.bool (decide (cmpL a b < 0))) ∧ Below w.heap.size w w' := by
  by_cases hlen : a.length = b.length
  · have hc : cmpL a b = lexZ a b := by
      unfold cmpL
      rcases cmZ_cases a.length b.length with ⟨h, _⟩ | ⟨h, _⟩ | ⟨_, e⟩
      · omega
      · omega
      · rw [if_pos e]
    rw [hc]
    have hd : ((a.length : Int) != (b.length : Int)) = false := by simp; omega
    have H := Lib.hid hlen; clear hlen hc
    go_enter Tryz.func159, Tryz.ntmps159
    go_wp2
    go_loopw [5] (fun i wr => ∃ k : Nat, k ≤ a.length ∧ i = .int .i64 k ∧ lexZ (a.drop k) (b.drop k) = lexZ a b ∧ Below w.heap.size w wr) (fun i _ => a.length - (intOf i).toNat)
    case atStart => exact ⟨0, Nat.zero_le _, rfl, by simp, Below.refl _ _⟩
    case round =>
      obtain ⟨k, hk, rfl, hlx, hb⟩ := hrel
      clear hd
      by_cases hlt : k < a.length
      · have hlt' : k < b.length := by have := H.out; omega
        obtain ⟨b1, off1, rfl, hb1, hc1⟩ := h.2 (by omega)
        obtain ⟨b2, off2, rfl, hb2, hc2⟩ := h'.2 (by omega)
        have hca := (hb.cell (p := ⟨b1, off1 + k, none⟩) hb1).trans (hc1 k hlt)
        have hcb := (hb.cell (p := ⟨b2, off2 + k, none⟩) hb2).trans (hc2 k hlt')
        rw [drop_cons hlt, drop_cons hlt'] at hlx
        have HB := Lib.hid hb
        by_cases he : cmZ (a.getD k 0) (b.getD k 0) = 0
        · rw [lexZ_same _ _ he] at hlx
          have HL := Lib.hid hlx
          have hxy : a.getD k 0 = b.getD k 0 := by
            rcases cmZ_cases (a.getD k 0) (b.getD k 0) with ⟨_, e⟩ | ⟨_, e⟩ | ⟨e, _⟩
            · omega
            · omega
            · exact e
          rw [← hxy] at hcb
          generalize a.getD k 0 = x at hca hcb
          have hneq : (x != x) = false := by simp
          clear hlx hc1 hc2 h h' hb he hxy
          go_wp2
          go_quiet (fail)
          go_wp2
          go_roundw
          case rel => exact ⟨k + 1, by omega, by go_num, HL.out, below_drewN HB.out _⟩
          case measure => simp [intOf]; omega
        · rw [lexZ_diff _ _ he] at hlx
          have hlt2 := cmZ_lt he
          rw [hlx] at hlt2
          have hne := cmZ_ne he
          have HL := Lib.hid hlt2
          generalize a.getD k 0 = x at *
          generalize b.getD k 0 = y at *
          clear hlx hc1 hc2 h h' hb he hlt2
          go_wp2
          go_quiet (fail)
          go_wp2
          go_quiet (fail)
          go_wp2
          go_ret
          exact ⟨ret_bool' HL.out, below_drewN (below_drewN HB.out _) _⟩
      · have hka : k = a.length := by omega
        have hda : a.drop k = [] := List.drop_of_length_le (by omega)
        have hdb : b.drop k = [] := List.drop_of_length_le (by have := H.out; omega)
        rw [hda, hdb] at hlx
        have HL : Hid (false = decide (lexZ a b < 0)) := Lib.hid (by rw [← hlx]; rfl)
        have HB := Lib.hid hb
        subst hka
        clear hlx h h' hda hdb hb
        go_wp2
        go_ret
        exact ⟨ret_bool' HL.out, HB.out⟩
  · have hd : ((a.length : Int) != (b.length : Int)) = true := by simp; omega
    have hc : decide (a.length < b.length) = decide (cmpL a b < 0) := by
      unfold cmpL
      rcases cmZ_cases a.length b.length with ⟨h, e⟩ | ⟨h, e⟩ | ⟨h, _⟩
      · rw [e]; simp; omega
      · rw [e]; simp; omega
      · omega
    have HC := Lib.hid hc
    clear hc hlen h h'
    go_enter Tryz.func159, Tryz.ntmps159
    go_wp2
    go_ret
    exact ⟨ret_bool' (by rw [← HC.out]), Below.refl _ _⟩

end Go.Proofs.YtjgmgaccmcepdaaGreatDoor
