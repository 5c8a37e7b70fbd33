/- The model's readNumber. -/
import Derived.Test.YtjgmgaccmcepdaaGreatDoorReadB
namespace Go.Proofs.YtjgmgaccmcepdaaGreatDoor
open Go.ChangeAt Go.ChangeShapes Go.RowKit Go.WideShapes

def digs : List UInt8 → Nat → Option Nat
  | [], a => some a
  | c :: l, a => if 48 ≤ c.toNat ∧ c.toNat ≤ 57 then digs l (10 * a + (c.toNat - 48)) else none
theorem digs_yes {l : List UInt8} {k : Nat} {c : UInt8} (h : l[k]? = some c) (hc : 48 ≤ c.toNat ∧ c.toNat ≤ 57) (a : Nat) : digs (l.drop k) a = digs (l.drop (k + 1)) (10 * a + (c.toNat - 48)) := by
  obtain ⟨hk, rfl⟩ := List.getElem?_eq_some_iff.1 h
  rw [List.drop_eq_getElem_cons hk]
  show (if _ then _ else _) = _
  rw [if_pos hc]
theorem digs_no {l : List UInt8} {k : Nat} {c : UInt8} (h : l[k]? = some c) (hc : ¬ (48 ≤ c.toNat ∧ c.toNat ≤ 57)) (a : Nat) : digs (l.drop k) a = none := by
  obtain ⟨hk, rfl⟩ := List.getElem?_eq_some_iff.1 h
  rw [List.drop_eq_getElem_cons hk]
  show (if _ then _ else _) = _
  rw [if_neg hc]
/-- No more than six digits, and no zero ahead of others. -/
def rnOk (s : ByteArray) : Bool := decide (1 ≤ s.size) && decide (s.size ≤ 6) && (decide (s.size ≤ 1) || !(s.data.toList[0]? == some 48))
def rdN (s : ByteArray) : Nat × Bool := if rnOk s then (match digs s.data.toList 0 with | some a => (a, true) | none => (0, false)) else (0, false)
theorem rdN_bad {s : ByteArray} (h : rnOk s = false) : rdN s = (0, false) := by unfold rdN; rw [h]; rfl
theorem rdN_none {s : ByteArray} (h : digs s.data.toList 0 = none) : rdN s = (0, false) := by unfold rdN; rw [h]; split <;> rfl
theorem rdN_some {s : ByteArray} {a : Nat} (h : rnOk s = true) (hd : digs s.data.toList 0 = some a) : rdN s = (a, true) := by unfold rdN; rw [h, hd]; rfl
theorem byte_of {s : ByteArray} {k : Nat} (hk : k < s.size) : ∃ c : UInt8, s.data.toList[k]? = some c ∧
    ∀ w : World, (Instr.index 9 (.string s) (.int .i64 (k : Int))).run Tryz.prog w = .ok (.int .u8 (c.toNat : Int)) w := by
  have hk' : k < s.data.toList.length := by simpa using hk
  refine ⟨s.data.toList[k], List.getElem?_eq_getElem hk', fun w => ?_⟩
  rw [run_index_string w 9 s .i64 _ Tryz.underlying9, dif_pos ⟨by omega, by omega⟩]
  congr 2
theorem ret_ib {a b : Int} {c d : Bool} (h : a = b) (h2 : c = d) : Ending.returned (.tuple #[.int .i64 a, .bool c]) = .returned (.tuple #[.int .i64 b, .bool d]) := by rw [h, h2]

set_option maxRecDepth 100000 in
set_option maxHeartbeats 2000000 in
theorem readNumber_bad (s : ByteArray) (w : World) (hs : s.size ≤ maxLen) (ho : rnOk s = false) :
    Calls Tryz.prog 121 #[.string s] w fun e w' => e = .returned (.tuple #[.int .i64 ((rdN s).1 : Int), .bool (rdN s).2]) ∧ w = w' := by
  unfold maxLen at hs
  have HE := Lib.hid (rdN_bad ho)
  by_cases h1 : s.size < 1
  · have d1 : decide ((s.size : Int) < 1) = true := decide_eq_true (by omega)
    clear ho
    go_enter Tryz.func121, Tryz.ntmps121
    go_wp2
    go_ret2
    exact ⟨ret_ib (by rw [HE.out]; rfl) (by rw [HE.out]), rfl⟩
  have d1 : decide ((s.size : Int) < 1) = false := decide_eq_false (by omega)
  by_cases h6 : 6 < s.size
  · have d2 : decide (6 < (s.size : Int)) = true := decide_eq_true (by omega)
    clear ho
    go_enter Tryz.func121, Tryz.ntmps121
    go_wp2
    go_ret2
    exact ⟨ret_ib (by rw [HE.out]; rfl) (by rw [HE.out]), rfl⟩
  have d2 : decide (6 < (s.size : Int)) = false := decide_eq_false (by omega)
  obtain ⟨c0, hc0, hi0⟩ := byte_of (s := s) (k := 0) (by omega)
  unfold rnOk at ho
  rw [decide_eq_true (show 1 ≤ s.size by omega), decide_eq_true (show s.size ≤ 6 by omega), hc0] at ho
  simp only [Bool.true_and, Bool.or_eq_false_iff, decide_eq_false_iff_not] at ho
  obtain ⟨h2, h3⟩ := ho
  have e48 : c0 = 48 := by simpa using h3
  subst e48
  rw [show ((0 : Nat) : Int) = 0 from rfl, show ((UInt8.toNat 48 : Nat) : Int) = 48 from rfl] at hi0
  have d4 : decide (1 < (s.size : Int)) = true := decide_eq_true (by omega)
  clear h3 hc0
  go_enter Tryz.func121, Tryz.ntmps121
  go_wp2
  go_ret2
  exact ⟨ret_ib (by rw [HE.out]; rfl) (by rw [HE.out]), rfl⟩

set_option maxRecDepth 100000 in
set_option maxHeartbeats 2000000 in
theorem readNumber_any (s : ByteArray) (w : World) (hs : s.size ≤ maxLen) :
    Calls Tryz.prog 121 #[.string s] w fun e w' => e = .returned (.tuple #[.int .i64 ((rdN s).1 : Int), .bool (rdN s).2]) ∧ w = w' := by
  cases ho : rnOk s
  · exact readNumber_bad s w hs ho
  have ho' := ho
  unfold rnOk at ho'
  simp only [Bool.and_eq_true, Bool.or_eq_true, decide_eq_true_eq] at ho'
  obtain ⟨⟨h1, h6⟩, h0⟩ := ho'
  have d1 : decide ((s.size : Int) < 1) = false := decide_eq_false (by omega)
  have d2 : decide (6 < (s.size : Int)) = false := decide_eq_false (by omega)
  obtain ⟨c0, hc0, hi0⟩ := byte_of (s := s) (k := 0) (by omega)
  rw [show ((0 : Nat) : Int) = 0 from rfl] at hi0
  have HO := Lib.hid ho
  have h48 : 1 < s.size → ((c0.toNat : Int) == 48) = false := fun h => by
    rcases h0 with h0 | h0
    · omega
    · rw [hc0] at h0
      refine beq_eq_false_iff_ne.2 fun e => ?_
      have e2 : c0 = 48 := UInt8.toNat_inj.1 (by have : (48 : UInt8).toNat = 48 := rfl; omega)
      rw [e2] at h0
      simp at h0
  have d3 : decide (1 < (s.size : Int)) = false ∨ (decide (1 < (s.size : Int)) = true ∧ ((c0.toNat : Int) == 48) = false) := by
    by_cases h : 1 < s.size
    · exact .inr ⟨decide_eq_true (by omega), h48 h⟩
    · exact .inl (decide_eq_false (by omega))
  clear ho h0 hc0 h48
  go_enter Tryz.func121, Tryz.ntmps121
  rcases d3 with d3 | ⟨d3, d4⟩
  all_goals
    go_wp2
    clear d3
    go_loop [4, 5] (fun n i => ∃ k a : Nat, k ≤ s.size ∧ i = .int .i64 k ∧ n = .int .i64 a ∧ a < 10 ^ k ∧ digs (s.data.toList.drop k) a = digs s.data.toList 0) (fun _ i => s.size - (intOf i).toNat)
    case atStart => exact ⟨0, 0, Nat.zero_le _, rfl, rfl, by decide, rfl⟩
    case round =>
      obtain ⟨k, a, hk, rfl, rfl, ha, hd⟩ := hrel
      by_cases hlt : k < s.size
      · obtain ⟨c, hc, hi⟩ := byte_of (s := s) hlt
        have hp : 10 ^ (k + 1) ≤ 10 ^ 6 := Nat.pow_le_pow_right (by decide) (by omega)
        have hpp : 10 ^ (k + 1) = 10 ^ k * 10 := Nat.pow_succ ..
        have hcl := c.toNat_lt
        have hlt' : decide ((k : Int) < s.size) = true := decide_eq_true (by omega)
        by_cases hcc : 48 ≤ c.toNat ∧ c.toNat ≤ 57
        · have HD := Lib.hid ((digs_yes hc hcc a).symm.trans hd)
          have c1 : decide ((c.toNat : Int) < 48) = false := decide_eq_false (by omega)
          have c2 : decide (57 < (c.toNat : Int)) = false := decide_eq_false (by omega)
          have b1 : 10 * a + (c.toNat - 48) < 10 ^ (k + 1) := by omega
          have b2 : 10 * a + (c.toNat - 48) < 1000000 := Nat.lt_of_lt_of_le b1 hp
          have HB1 := Lib.hid b1
          have HN : Hid ((10 : Int) * a + ((c.toNat : Int) - 48) = ((10 * a + (c.toNat - 48) : Nat) : Int)) := Lib.hid (by omega)
          clear hd hc ha hp hpp b1
          go_wp2
          go_round
          case rel => exact ⟨k + 1, _, by omega, by go_num, by rw [HN.out], HB1.out, HD.out⟩
          case measure => simp [intOf]; omega
        · have HR := Lib.hid (rdN_none ((digs_no hc hcc a).symm.trans hd).symm)
          clear hd hc ha hp hpp
          rcases Nat.lt_or_ge c.toNat 48 with h5 | h5
          · have c1 : decide ((c.toNat : Int) < 48) = true := decide_eq_true (by omega)
            clear hcc
            go_wp2
            go_ret2
            exact ⟨ret_ib (by rw [HR.out]; rfl) (by rw [HR.out]), rfl⟩
          · have c1 : decide ((c.toNat : Int) < 48) = false := decide_eq_false (by omega)
            have c2 : decide (57 < (c.toNat : Int)) = true := decide_eq_true (by omega)
            clear hcc
            go_wp2
            go_ret2
            exact ⟨ret_ib (by rw [HR.out]; rfl) (by rw [HR.out]), rfl⟩
      · have hlt' : decide ((k : Int) < s.size) = false := decide_eq_false (by omega)
        have hkl : k = s.size := by omega
        have hnil : s.data.toList.drop k = [] := List.drop_eq_nil_of_le (by rw [hkl]; simp)
        rw [hnil] at hd
        have HR := Lib.hid (rdN_some HO.out hd.symm)
        clear hd hkl hnil ha
        go_wp2
        go_ret2
        exact ⟨ret_ib (by rw [HR.out]) (by rw [HR.out]), rfl⟩
end Go.Proofs.YtjgmgaccmcepdaaGreatDoor
