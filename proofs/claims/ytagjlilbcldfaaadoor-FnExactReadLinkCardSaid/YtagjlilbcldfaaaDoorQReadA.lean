/- Words of a step's text: the rule of a word, the first word of a text. The first word of a text, and what follows the space after it. The model's readNumber. The model's splitAt at a space. Mathematics: joined words are cut at the spaces into the words. The words of a plain step: none holds a space; each is read back. -/
import Derived.Test.YtagjlilbcldfaaaDoorQStepH
import Derived.Laws.RangeString
import Derived.Laws.RangeAny
import Derived.Lib.OthersKept
import Derived.Lib.DecodeN
import Derived.Lib.QuoteLoop
import Derived.Lib.SpaceUEq
import Derived.BigQuiet
namespace Go.Proofs.YtagjlilbcldfaaaDoor
set_option linter.unusedSimpArgs false
set_option linter.unusedVariables false
section
open Go.ChangeAt Go.ChangeShapes Go.RowKit Go.WideShapes
end
section
open Go.ChangeAt Go.ChangeShapes Go.RowKit Go.WideShapes

theorem ret_ss {a b c d : ByteArray} (h : a = b) (h2 : c = d) : Ending.returned (.tuple #[.string a, .string c]) = .returned (.tuple #[.string b, .string d]) := by rw [h, h2]
/-- The bytes ahead of pos hold no space. -/
def NoSp (s : ByteArray) (pos : Nat) : Prop := pos ≤ s.size ∧ ∀ j, j < pos → (s.get! j).toNat ≠ 32
/-- Where the first space is, or the size. -/
def spA (s : ByteArray) : Nat := ((List.range s.size).find? fun k => (s.get! k).toNat == 32).getD s.size
def cwA (s : ByteArray) : ByteArray := if spA s < s.size then s.extract 0 (spA s) else s
def cwB (s : ByteArray) : ByteArray := if spA s < s.size then s.extract (spA s + 1) s.size else ⟨#[]⟩
theorem spA_at {s : ByteArray} {k : Nat} (hk : k < s.size) (h : (s.get! k).toNat = 32) (hn : NoSp s k) : spA s = k := by
  have e : (List.range s.size).find? (fun k => (s.get! k).toNat == 32) = some k := List.find?_range_eq_some.2 ⟨by rw [h]; rfl, List.mem_range.2 hk, fun j hj => by simp [hn.2 j hj]⟩
  unfold spA
  rw [e]; rfl
theorem spA_none {s : ByteArray} (hn : NoSp s s.size) : spA s = s.size := by
  have e : (List.range s.size).find? (fun k => (s.get! k).toNat == 32) = none := List.find?_range_eq_none.2 fun j hj => by simp [hn.2 j hj]
  unfold spA
  rw [e]; rfl
theorem cw_at {s : ByteArray} {k : Nat} (hk : k < s.size) (h : (s.get! k).toNat = 32) (hn : NoSp s k) : cwA s = s.extract 0 k ∧ cwB s = s.extract (k + 1) s.size := by
  unfold cwA cwB
  rw [spA_at hk h hn, if_pos hk, if_pos hk]
  exact ⟨rfl, rfl⟩
theorem cw_none {s : ByteArray} (hn : NoSp s s.size) : cwA s = s ∧ cwB s = ⟨#[]⟩ := by
  unfold cwA cwB
  rw [spA_none hn, if_neg (by omega), if_neg (by omega)]
  exact ⟨rfl, rfl⟩
/-- A rune is the space, or none of its bytes is one. -/
theorem rune_sp {s : ByteArray} {pos : Nat} (h : pos < s.size) (hn : NoSp s pos) :
    ((Utf8.decode s pos).1 = 32 ∧ (s.get! pos).toNat = 32) ∨ ((Utf8.decode s pos).1 ≠ 32 ∧ 1 ≤ (Utf8.decode s pos).2 ∧ NoSp s (pos + (Utf8.decode s pos).2)) := by
  have e0 : s.get! pos = s[pos]'h := get_at s pos h
  by_cases ha : (s.get! pos).toNat < 128
  · rw [decode_ascii s pos h (by rw [← e0]; exact ha), ← e0]
    by_cases h32 : (s.get! pos).toNat = 32
    · exact .inl ⟨h32, h32⟩
    · refine .inr ⟨h32, Nat.le_refl _, by show pos + 1 ≤ s.size; omega, fun j hj => ?_⟩
      have hj' : j < pos + 1 := hj
      rcases Nat.lt_or_ge j pos with hl | hl
      · exact hn.2 j hl
      · obtain rfl : j = pos := by omega
        exact h32
  · have hh := decode_high s pos h (by rw [← e0]; omega)
    have hc := Lib.decodeN_conts (s.size - pos) (s.get! pos).toNat (s.get! (pos + 1)).toNat (s.get! (pos + 2)).toNat (s.get! (pos + 3)).toNat
    have hw := Lib.decodeN_width_le (s.size - pos) (s.get! pos).toNat (s.get! (pos + 1)).toNat (s.get! (pos + 2)).toNat (s.get! (pos + 3)).toNat (by omega)
    rw [← Lib.decode_at] at hc hw
    obtain ⟨c2, c3, c4, c5⟩ := hc
    refine .inr ⟨by omega, hh.2, by omega, fun j hj => ?_⟩
    rcases Nat.lt_or_ge j pos with hl | hl
    · exact hn.2 j hl
    · obtain ⟨d, rfl⟩ : ∃ d, j = pos + d := ⟨j - pos, by omega⟩
      have hd : d < (Utf8.decode s pos).2 := by omega
      match d, hd with
      | 0, _ => simp only [Nat.add_zero]; omega
      | 1, hd => have := (c2 (by omega)).1; omega
      | 2, hd => have := (c3 (by omega)).1; omega
      | 3, hd => have := (c4 (by omega)).1; omega
      | d + 4, hd => omega

set_option maxRecDepth 100000 in
set_option maxHeartbeats 2000000 in
theorem cutWord_any (s : ByteArray) (w : World) (hs : s.size ≤ maxLen) :
    Calls Tryd.prog 54 #[.string s] w fun e w' => e = .returned (.tuple #[.string (cwA s), .string (cwB s)]) ∧ Below w.heap.size w w' := by
  unfold maxLen at hs
  go_enter Tryd.func54, Tryd.ntmps54
  go_wp2
  go_loopw [] (fun wr => ∃ pos : Nat, wr = w.iter s pos ∧ NoSp s pos) (fun wr => s.size - wr.iterPos w.heap.size)
  case atStart => exact ⟨0, rfl, Nat.zero_le _, fun j hj => absurd hj (by omega)⟩
  case round =>
    obtain ⟨pos, rfl, hn⟩ := hrel
    have HB := Lib.hid ((Below.refl w.heap.size w).alloc (Nat.le_refl _) (.stringIter s pos))
    by_cases hp : pos < s.size
    · have hnx : ∀ ty, (Instr.next (.pointer (some ⟨w.heap.size, 0, none⟩)) true ty).run Tryd.prog (w.iter s pos) = _ := fun ty => run_next_any w s pos ty hp
      rcases rune_sp hp hn with ⟨h1, h2⟩ | ⟨h1, h2, h3⟩
      · obtain ⟨ea, eb⟩ := cw_at hp h2 hn
        have HA := Lib.hid ea.symm; have HBb := Lib.hid eb.symm
        clear ea eb h2 hn
        rw [h1] at hnx
        go_wp2_with (fail)
        go_quiet (fail)
        go_wp2
        go_ret2
        exact ⟨ret_ss HA.out HBb.out, below_drewN ((Below.refl w.heap.size w).alloc (Nat.le_refl _) _) _⟩
      · have H3 := Lib.hid h3
        have hb : decide (((Utf8.decode s pos).1 : Int) = 32) = false := decide_eq_false (by omega)
        clear hn
        go_wp2
        go_roundw
        case rel => exact ⟨_, rfl, H3.out⟩
        case measure => simp; omega
    · have hnx : ∀ ty, (Instr.next (.pointer (some ⟨w.heap.size, 0, none⟩)) true ty).run Tryd.prog (w.iter s pos) = _ := fun ty => run_next_end w s pos ty hp
      have hpe : pos = s.size := Nat.le_antisymm hn.1 (by omega)
      subst hpe
      obtain ⟨ea, eb⟩ := cw_none hn
      have HA := Lib.hid ea.symm; have HBb := Lib.hid eb.symm
      clear ea eb hn
      go_wp2
      go_ret2
      exact ⟨ret_ss HA.out HBb.out, HB.out⟩
end
section
open Go.ChangeAt Go.ChangeShapes Go.RowKit Go.WideShapes

def digs : List UInt8 → Nat → Option Nat
  | [], a => some a
  | c :: l, a => if 48 ≤ c.toNat ∧ c.toNat ≤ 57 then digs l (10 * a + (c.toNat - 48)) else none
theorem digs_yes {l : List UInt8} {k : Nat} {c : UInt8} (h : l[k]? = some c) (hc : 48 ≤ c.toNat ∧ c.toNat ≤ 57) (a : Nat) : digs (l.drop k) a = digs (l.drop (k + 1)) (10 * a + (c.toNat - 48)) := by
  obtain ⟨hk, rfl⟩ := List.getElem?_eq_some_iff.1 h
  rw [List.drop_eq_getElem_cons hk]
  show (if _ then _ else _) = _
  rw [if_pos hc]
theorem digs_no {l : List UInt8} {k : Nat} {c : UInt8} (h : l[k]? = some c) (hc : ¬ (48 ≤ c.toNat ∧ c.toNat ≤ 57)) (a : Nat) : digs (l.drop k) a = none := by
  obtain ⟨hk, rfl⟩ := List.getElem?_eq_some_iff.1 h
  rw [List.drop_eq_getElem_cons hk]
  show (if _ then _ else _) = _
  rw [if_neg hc]
/-- No more than six digits, and no zero ahead of others. -/
def rnOk (s : ByteArray) : Bool := decide (1 ≤ s.size) && decide (s.size ≤ 6) && (decide (s.size ≤ 1) || !(s.data.toList[0]? == some 48))
def rdN (s : ByteArray) : Nat × Bool := if rnOk s then (match digs s.data.toList 0 with | some a => (a, true) | none => (0, false)) else (0, false)
theorem rdN_bad {s : ByteArray} (h : rnOk s = false) : rdN s = (0, false) := by unfold rdN; rw [h]; rfl
theorem rdN_none {s : ByteArray} (h : digs s.data.toList 0 = none) : rdN s = (0, false) := by unfold rdN; rw [h]; split <;> rfl
theorem rdN_some {s : ByteArray} {a : Nat} (h : rnOk s = true) (hd : digs s.data.toList 0 = some a) : rdN s = (a, true) := by unfold rdN; rw [h, hd]; rfl
theorem byte_of {s : ByteArray} {k : Nat} (hk : k < s.size) : ∃ c : UInt8, s.data.toList[k]? = some c ∧
    ∀ w : World, (Instr.index 9 (.string s) (.int .i64 (k : Int))).run Tryd.prog w = .ok (.int .u8 (c.toNat : Int)) w := by
  have hk' : k < s.data.toList.length := by simpa using hk
  refine ⟨s.data.toList[k], List.getElem?_eq_getElem hk', fun w => ?_⟩
  rw [run_index_string w 9 s .i64 _ Tryd.underlying9, dif_pos ⟨by omega, by omega⟩]
  congr 2
theorem ret_ib {a b : Int} {c d : Bool} (h : a = b) (h2 : c = d) : Ending.returned (.tuple #[.int .i64 a, .bool c]) = .returned (.tuple #[.int .i64 b, .bool d]) := by rw [h, h2]

set_option maxRecDepth 100000 in
set_option maxHeartbeats 2000000 in
theorem readNumber_bad (s : ByteArray) (w : World) (hs : s.size ≤ maxLen) (ho : rnOk s = false) :
    Calls Tryd.prog 30 #[.string s] w fun e w' => e = .returned (.tuple #[.int .i64 ((rdN s).1 : Int), .bool (rdN s).2]) ∧ w = w' := by
  unfold maxLen at hs
  have HE := Lib.hid (rdN_bad ho)
  by_cases h1 : s.size < 1
  · have d1 : decide ((s.size : Int) < 1) = true := decide_eq_true (by omega)
    clear ho
    go_enter Tryd.func30, Tryd.ntmps30
    go_wp2
    go_ret2
    exact ⟨ret_ib (by rw [HE.out]; rfl) (by rw [HE.out]), rfl⟩
  have d1 : decide ((s.size : Int) < 1) = false := decide_eq_false (by omega)
  by_cases h6 : 6 < s.size
  · have d2 : decide (6 < (s.size : Int)) = true := decide_eq_true (by omega)
    clear ho
    go_enter Tryd.func30, Tryd.ntmps30
    go_wp2
    go_ret2
    exact ⟨ret_ib (by rw [HE.out]; rfl) (by rw [HE.out]), rfl⟩
  have d2 : decide (6 < (s.size : Int)) = false := decide_eq_false (by omega)
  obtain ⟨c0, hc0, hi0⟩ := byte_of (s := s) (k := 0) (by omega)
  unfold rnOk at ho
  rw [decide_eq_true (show 1 ≤ s.size by omega), decide_eq_true (show s.size ≤ 6 by omega), hc0] at ho
  simp only [Bool.true_and, Bool.or_eq_false_iff, decide_eq_false_iff_not] at ho
  obtain ⟨h2, h3⟩ := ho
  have e48 : c0 = 48 := by simpa using h3
  subst e48
  rw [show ((0 : Nat) : Int) = 0 from rfl, show ((UInt8.toNat 48 : Nat) : Int) = 48 from rfl] at hi0
  have d4 : decide (1 < (s.size : Int)) = true := decide_eq_true (by omega)
  clear h3 hc0
  go_enter Tryd.func30, Tryd.ntmps30
  go_wp2
  go_ret2
  exact ⟨ret_ib (by rw [HE.out]; rfl) (by rw [HE.out]), rfl⟩

set_option maxRecDepth 100000 in
set_option maxHeartbeats 2000000 in
theorem readNumber_any (s : ByteArray) (w : World) (hs : s.size ≤ maxLen) :
    Calls Tryd.prog 30 #[.string s] w fun e w' => e = .returned (.tuple #[.int .i64 ((rdN s).1 : Int), .bool (rdN s).2]) ∧ w = w' := by
  cases ho : rnOk s
  · exact readNumber_bad s w hs ho
  have ho' := ho
  unfold rnOk at ho'
  simp only [Bool.and_eq_true, Bool.or_eq_true, decide_eq_true_eq] at ho'
  obtain ⟨⟨h1, h6⟩, h0⟩ := ho'
  have d1 : decide ((s.size : Int) < 1) = false := decide_eq_false (by omega)
  have d2 : decide (6 < (s.size : Int)) = false := decide_eq_false (by omega)
  obtain ⟨c0, hc0, hi0⟩ := byte_of (s := s) (k := 0) (by omega)
  rw [show ((0 : Nat) : Int) = 0 from rfl] at hi0
  have HO := Lib.hid ho
  have h48 : 1 < s.size → ((c0.toNat : Int) == 48) = false := fun h => by
    rcases h0 with h0 | h0
    · omega
    · rw [hc0] at h0
      refine beq_eq_false_iff_ne.2 fun e => ?_
      have e2 : c0 = 48 := UInt8.toNat_inj.1 (by have : (48 : UInt8).toNat = 48 := rfl; omega)
      rw [e2] at h0
      simp at h0
  have d3 : decide (1 < (s.size : Int)) = false ∨ (decide (1 < (s.size : Int)) = true ∧ ((c0.toNat : Int) == 48) = false) := by
    by_cases h : 1 < s.size
    · exact .inr ⟨decide_eq_true (by omega), h48 h⟩
    · exact .inl (decide_eq_false (by omega))
  clear ho h0 hc0 h48
  go_enter Tryd.func30, Tryd.ntmps30
  rcases d3 with d3 | ⟨d3, d4⟩
  all_goals
    go_wp2
    clear d3
    go_loop [4, 5] (fun n i => ∃ k a : Nat, k ≤ s.size ∧ i = .int .i64 k ∧ n = .int .i64 a ∧ a < 10 ^ k ∧ digs (s.data.toList.drop k) a = digs s.data.toList 0) (fun _ i => s.size - (intOf i).toNat)
    case atStart => exact ⟨0, 0, Nat.zero_le _, rfl, rfl, by decide, rfl⟩
    case round =>
      obtain ⟨k, a, hk, rfl, rfl, ha, hd⟩ := hrel
      by_cases hlt : k < s.size
      · obtain ⟨c, hc, hi⟩ := byte_of (s := s) hlt
        have hp : 10 ^ (k + 1) ≤ 10 ^ 6 := Nat.pow_le_pow_right (by decide) (by omega)
        have hpp : 10 ^ (k + 1) = 10 ^ k * 10 := Nat.pow_succ ..
        have hcl := c.toNat_lt
        have hlt' : decide ((k : Int) < s.size) = true := decide_eq_true (by omega)
        by_cases hcc : 48 ≤ c.toNat ∧ c.toNat ≤ 57
        · have HD := Lib.hid ((digs_yes hc hcc a).symm.trans hd)
          have c1 : decide ((c.toNat : Int) < 48) = false := decide_eq_false (by omega)
          have c2 : decide (57 < (c.toNat : Int)) = false := decide_eq_false (by omega)
          have b1 : 10 * a + (c.toNat - 48) < 10 ^ (k + 1) := by omega
          have b2 : 10 * a + (c.toNat - 48) < 1000000 := Nat.lt_of_lt_of_le b1 hp
          have HB1 := Lib.hid b1
          have HN : Hid ((10 : Int) * a + ((c.toNat : Int) - 48) = ((10 * a + (c.toNat - 48) : Nat) : Int)) := Lib.hid (by omega)
          clear hd hc ha hp hpp b1
          go_wp2
          go_round
          case rel => exact ⟨k + 1, _, by omega, by go_num, by rw [HN.out], HB1.out, HD.out⟩
          case measure => simp [intOf]; omega
        · have HR := Lib.hid (rdN_none ((digs_no hc hcc a).symm.trans hd).symm)
          clear hd hc ha hp hpp
          rcases Nat.lt_or_ge c.toNat 48 with h5 | h5
          · have c1 : decide ((c.toNat : Int) < 48) = true := decide_eq_true (by omega)
            clear hcc
            go_wp2
            go_ret2
            exact ⟨ret_ib (by rw [HR.out]; rfl) (by rw [HR.out]), rfl⟩
          · have c1 : decide ((c.toNat : Int) < 48) = false := decide_eq_false (by omega)
            have c2 : decide (57 < (c.toNat : Int)) = true := decide_eq_true (by omega)
            clear hcc
            go_wp2
            go_ret2
            exact ⟨ret_ib (by rw [HR.out]; rfl) (by rw [HR.out]), rfl⟩
      · have hlt' : decide ((k : Int) < s.size) = false := decide_eq_false (by omega)
        have hkl : k = s.size := by omega
        have hnil : s.data.toList.drop k = [] := List.drop_eq_nil_of_le (by rw [hkl]; simp)
        rw [hnil] at hd
        have HR := Lib.hid (rdN_some HO.out hd.symm)
        clear hd hkl hnil ha
        go_wp2
        go_ret2
        exact ⟨ret_ib (by rw [HR.out]) (by rw [HR.out]), rfl⟩
end
section
open Go.ChangeAt Go.ChangeShapes Go.RowKit Go.WideShapes

/-- The pieces behind fr, when d bytes are still to look at. -/
def splG (s : ByteArray) : Nat → Nat → List ByteArray
  | 0, fr => [s.extract fr s.size]
  | d + 1, fr => if s.data.toList[s.size - (d + 1)]? = some 32 then s.extract fr (s.size - (d + 1)) :: splG s d (s.size - (d + 1) + 1) else splG s d fr
def spl (s : ByteArray) : List ByteArray := splG s s.size 0
theorem splG_yes {s : ByteArray} {k : Nat} (hk : k < s.size) (h : s.data.toList[k]? = some 32) (fr : Nat) : splG s (s.size - k) fr = s.extract fr k :: splG s (s.size - (k + 1)) (k + 1) := by
  obtain ⟨d, hd⟩ : ∃ d, s.size - k = d + 1 := ⟨s.size - k - 1, by omega⟩
  have e1 : s.size - (d + 1) = k := by omega
  have e2 : s.size - (k + 1) = d := by omega
  rw [hd, e2]
  show (if _ then _ else _) = _
  rw [e1, if_pos h]
theorem splG_no {s : ByteArray} {k : Nat} (hk : k < s.size) (h : ¬ s.data.toList[k]? = some 32) (fr : Nat) : splG s (s.size - k) fr = splG s (s.size - (k + 1)) fr := by
  obtain ⟨d, hd⟩ : ∃ d, s.size - k = d + 1 := ⟨s.size - k - 1, by omega⟩
  have e1 : s.size - (d + 1) = k := by omega
  have e2 : s.size - (k + 1) = d := by omega
  rw [hd, e2]
  show (if _ then _ else _) = _
  rw [e1, if_neg h]
theorem splG_end {s : ByteArray} (fr : Nat) : splG s (s.size - s.size) fr = [s.extract fr s.size] := by rw [Nat.sub_self]; rfl
theorem str_zero (w : World) : (w.alloc (.cells #[] 9)).ownsRow w.heap.size 9 1 (.slice (some ⟨w.heap.size, 0, none⟩) 0 0) 0 [] :=
  ⟨by simp, .inr ⟨w.heap.size, 0, #[], rfl, Nat.le_refl _, heap_alloc_new w _, Nat.le_refl _, by simp [maxLen], rfl, by simp⟩⟩

set_option maxRecDepth 100000 in
set_option maxHeartbeats 4000000 in
theorem splitAt_any (s : ByteArray) (w : World) (hs : s.size ≤ 1048576) :
    Calls Tryd.prog 29 #[.string s, .int .u8 32] w fun e w' => ∃ (A : Option Addr) (c : Nat), e = .returned (.slice A (spl s).length c) ∧ w'.ownsRow w.heap.size 9 1 (.slice A (spl s).length c) (spl s).length ((spl s).map Value.string) ∧ Below w.heap.size w w' := by
  obtain ⟨i0, hi0, hz0, hz1, hz2⟩ := info_parts_str
  have HI := Lib.hid hi0; have HZ0 := Lib.hid hz0; have HZ1 := Lib.hid hz1; have HZ2 := Lib.hid hz2
  clear hi0 hz0 hz1 hz2
  go_enter Tryd.func29, Tryd.ntmps29
  go_wp2
  go_loopw [5, 6, 7] (fun o f i wr => ∃ (k fr : Nat) (T : List ByteArray) (A : Option Addr) (c : Nat), k ≤ s.size + 1 ∧ fr ≤ k ∧ T.length ≤ k ∧ i = .int .i64 k ∧ f = .int .i64 fr ∧ o = .slice A T.length c ∧ wr.ownsRow w.heap.size 9 1 (.slice A T.length c) T.length (T.map Value.string) ∧ Below w.heap.size w wr ∧ (k ≤ s.size → T ++ splG s (s.size - k) fr = spl s) ∧ (k = s.size + 1 → T = spl s)) (fun _ _ i _ => s.size + 1 - (intOf i).toNat)
  case atStart => exact ⟨0, 0, [], some ⟨w.heap.size, 0, none⟩, 0, Nat.zero_le _, Nat.le_refl _, Nat.le_refl _, rfl, rfl, rfl, str_zero w, (Below.refl _ _).alloc (Nat.le_refl _) _, fun _ => rfl, fun h => by omega⟩
  case round =>
    obtain ⟨k, fr, T, A, c, hk, hf, hT, rfl, rfl, rfl, ho, hb, h1, h2⟩ := hrel
    have HO := Lib.hid ho; have HB := Lib.hid hb
    clear ho hb
    have hbs := HB.out.size
    rcases Nat.lt_trichotomy k s.size with hlt | heq | hgt
    · obtain ⟨c0, hc, hi⟩ := byte_of (s := s) hlt
      have d1 : decide ((k : Int) ≤ s.size) = true := decide_eq_true (by omega)
      have d2 : ((k : Int) == (s.size : Int)) = false := beq_eq_false_iff_ne.2 (by omega)
      by_cases h32 : c0 = 32
      · subst h32
        have HN := Lib.hid (splG_yes hlt hc fr ▸ h1 (by omega))
        rw [show ((UInt8.toNat 32 : Nat) : Int) = 32 from rfl] at hi
        have EL : (T ++ [s.extract fr k]).length = T.length + 1 := by simp
        clear h1 h2 hc
        go_wp2_with (at_builtin; refine wpList_append_lies _ rfl _ _ _ rfl w.heap.size 9 i0 (.string ⟨#[]⟩) 1 16 Tryd.underlying48 HI.out HZ0.out HZ1.out HZ2.out rfl (by decide) _ _ _ rfl (HO.out.alloc _) ⟨wr.heap.size, 0, none⟩ 1 1 [.string (s.extract fr k)] rfl rfl (str_new wr _) (by simp [Value.oneCell']) (by decide) (by simp only [maxLen]; omega) (by omega) (by simp; omega) _ rfl ?_; intro g7 cap7 w7 hown7 hgrow7 hat7 hlt7; obtain ⟨F1, F2⟩ := str_push HB.out (by omega) HO.out hown7 hgrow7; have G1 := Lib.hid F1; have G2 := Lib.hid F2; clear hown7 hgrow7 hat7 F1 F2)
        go_roundw
        case rel => exact ⟨k + 1, k + 1, T ++ [s.extract fr k], some ⟨g7, 0, none⟩, cap7, by omega, by omega, by rw [EL]; omega, by go_num, by go_num, by rw [EL], G2.out, G1.out, fun _ => by rw [List.append_assoc]; exact HN.out, fun h => by omega⟩
        case measure => simp [intOf]; omega
      · have d3 : ((c0.toNat : Int) == 32) = false := beq_eq_false_iff_ne.2 fun e => h32 (UInt8.toNat_inj.1 (by have : (32 : UInt8).toNat = 32 := rfl; omega))
        have HN := Lib.hid ((splG_no hlt (by rw [hc]; intro e; exact h32 (Option.some.inj e)) fr) ▸ h1 (by omega))
        clear h1 h2 hc
        go_wp2
        go_roundw
        case rel => exact ⟨k + 1, fr, T, A, c, by omega, by omega, by omega, by go_num, rfl, rfl, HO.out, HB.out, fun _ => HN.out, fun h => by omega⟩
        case measure => simp [intOf]; omega
    · subst heq
      have d1 : decide ((s.size : Int) ≤ s.size) = true := decide_eq_true (by omega)
      have HN := Lib.hid (splG_end (s := s) fr ▸ h1 (by omega))
      have EL : (T ++ [s.extract fr s.size]).length = T.length + 1 := by simp
      clear h1 h2
      go_wp2_with (at_builtin; refine wpList_append_lies _ rfl _ _ _ rfl w.heap.size 9 i0 (.string ⟨#[]⟩) 1 16 Tryd.underlying48 HI.out HZ0.out HZ1.out HZ2.out rfl (by decide) _ _ _ rfl (HO.out.alloc _) ⟨wr.heap.size, 0, none⟩ 1 1 [.string (s.extract fr s.size)] rfl rfl (str_new wr _) (by simp [Value.oneCell']) (by decide) (by simp only [maxLen]; omega) (by omega) (by simp; omega) _ rfl ?_; intro g7 cap7 w7 hown7 hgrow7 hat7 hlt7; obtain ⟨F1, F2⟩ := str_push HB.out (by omega) HO.out hown7 hgrow7; have G1 := Lib.hid F1; have G2 := Lib.hid F2; clear hown7 hgrow7 hat7 F1 F2)
      go_roundw
      case rel => exact ⟨s.size + 1, s.size + 1, T ++ [s.extract fr s.size], some ⟨g7, 0, none⟩, cap7, by omega, by omega, by rw [EL]; omega, by go_num, by go_num, by rw [EL], G2.out, G1.out, fun h => by omega, fun _ => HN.out⟩
      case measure => simp [intOf]
    · have d1 : decide ((k : Int) ≤ s.size) = false := decide_eq_false (by omega)
      obtain rfl := h2 (by omega)
      clear h1 h2
      go_wp2
      go_ret
      exact ⟨_, _, rfl, HO.out, HB.out⟩
end
section
open Go.ChangeAt Go.ChangeShapes Go.RowKit Go.WideShapes
end
section
open Go.ChangeAt Go.ChangeShapes Go.RowKit Go.WideShapes

theorem dec_cases {x : Int} (h : inR x = true) : (∃ k : Fin 10, decB x = ⟨#[UInt8.ofNat (48 + k.1)]⟩ ∧ x = (k.1 : Int)) ∨ ∃ k : Fin 30, decB x = ⟨#[UInt8.ofNat (48 + (k.1 + 10) / 10), UInt8.ofNat (48 + (k.1 + 10) % 10)]⟩ ∧ x = ((k.1 + 10 : Nat) : Int) := by
  obtain ⟨h0, h1⟩ := inR_iff h
  obtain ⟨k, rfl⟩ : ∃ k : Nat, x = k := ⟨x.toNat, by omega⟩
  by_cases hk : k < 10
  · exact .inl ⟨⟨k, hk⟩, by unfold decB; rw [Int.toNat_natCast, dec_small hk], rfl⟩
  · have e : k - 10 + 10 = k := by omega
    refine .inr ⟨⟨k - 10, by omega⟩, ?_, by show (k : Int) = ((k - 10 + 10 : Nat) : Int); rw [e]⟩
    unfold decB
    rw [Int.toNat_natCast, dec_two hk (by omega)]
    show _ = (⟨#[UInt8.ofNat (48 + (k - 10 + 10) / 10), UInt8.ofNat (48 + (k - 10 + 10) % 10)]⟩ : ByteArray)
    rw [e]
end
end Go.Proofs.YtagjlilbcldfaaaDoor
