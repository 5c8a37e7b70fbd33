/- The first word of a text, and what follows the space after it. -/
import Derived.Test.YtjgmgaccmcepdaaGreatDoorReadA
import Derived.Laws.RangeAny
import Derived.Lib.OthersKept
import Derived.Lib.DecodeN
import Derived.Lib.QuoteLoop
import Derived.Lib.SpaceUEq
import Derived.BigQuiet
namespace Go.Proofs.YtjgmgaccmcepdaaGreatDoor
open Go.ChangeAt Go.ChangeShapes Go.RowKit Go.WideShapes

theorem ret_ss {a b c d : ByteArray} (h : a = b) (h2 : c = d) : Ending.returned (.tuple #[.string a, .string c]) = .returned (.tuple #[.string b, .string d]) := by rw [h, h2]
/-- The bytes ahead of pos hold no space. -/
def NoSp (s : ByteArray) (pos : Nat) : Prop := pos ≤ s.size ∧ ∀ j, j < pos → (s.get! j).toNat ≠ 32
/-- Where the first space is, or the size. -/
def spA (s : ByteArray) : Nat := ((List.range s.size).find? fun k => (s.get! k).toNat == 32).getD s.size
def cwA (s : ByteArray) : ByteArray := if spA s < s.size then s.extract 0 (spA s) else s
def cwB (s : ByteArray) : ByteArray := if spA s < s.size then s.extract (spA s + 1) s.size else ⟨#[]⟩
theorem spA_at {s : ByteArray} {k : Nat} (hk : k < s.size) (h : (s.get! k).toNat = 32) (hn : NoSp s k) : spA s = k := by
  have e : (List.range s.size).find? (fun k => (s.get! k).toNat == 32) = some k := List.find?_range_eq_some.2 ⟨by rw [h]; rfl, List.mem_range.2 hk, fun j hj => by simp [hn.2 j hj]⟩
  unfold spA
  rw [e]; rfl
theorem spA_none {s : ByteArray} (hn : NoSp s s.size) : spA s = s.size := by
  have e : (List.range s.size).find? (fun k => (s.get! k).toNat == 32) = none := List.find?_range_eq_none.2 fun j hj => by simp [hn.2 j hj]
  unfold spA
  rw [e]; rfl
theorem cw_at {s : ByteArray} {k : Nat} (hk : k < s.size) (h : (s.get! k).toNat = 32) (hn : NoSp s k) : cwA s = s.extract 0 k ∧ cwB s = s.extract (k + 1) s.size := by
  unfold cwA cwB
  rw [spA_at hk h hn, if_pos hk, if_pos hk]
  exact ⟨rfl, rfl⟩
theorem cw_none {s : ByteArray} (hn : NoSp s s.size) : cwA s = s ∧ cwB s = ⟨#[]⟩ := by
  unfold cwA cwB
  rw [spA_none hn, if_neg (by omega), if_neg (by omega)]
  exact ⟨rfl, rfl⟩
/-- A rune is the space, or none of its bytes is one. -/
theorem rune_sp {s : ByteArray} {pos : Nat} (h : pos < s.size) (hn : NoSp s pos) :
    ((Utf8.decode s pos).1 = 32 ∧ (s.get! pos).toNat = 32) ∨ ((Utf8.decode s pos).1 ≠ 32 ∧ 1 ≤ (Utf8.decode s pos).2 ∧ NoSp s (pos + (Utf8.decode s pos).2)) := by
  have e0 : s.get! pos = s[pos]'h := get_at s pos h
  by_cases ha : (s.get! pos).toNat < 128
  · rw [decode_ascii s pos h (by rw [← e0]; exact ha), ← e0]
    by_cases h32 : (s.get! pos).toNat = 32
    · exact .inl ⟨h32, h32⟩
    · refine .inr ⟨h32, Nat.le_refl _, by show pos + 1 ≤ s.size; omega, fun j hj => ?_⟩
      have hj' : j < pos + 1 := hj
      rcases Nat.lt_or_ge j pos with hl | hl
      · exact hn.2 j hl
      · obtain rfl : j = pos := by omega
        exact h32
  · have hh := decode_high s pos h (by rw [← e0]; omega)
    have hc := Lib.decodeN_conts (s.size - pos) (s.get! pos).toNat (s.get! (pos + 1)).toNat (s.get! (pos + 2)).toNat (s.get! (pos + 3)).toNat
    have hw := Lib.decodeN_width_le (s.size - pos) (s.get! pos).toNat (s.get! (pos + 1)).toNat (s.get! (pos + 2)).toNat (s.get! (pos + 3)).toNat (by omega)
    rw [← Lib.decode_at] at hc hw
    obtain ⟨c2, c3, c4, c5⟩ := hc
    refine .inr ⟨by omega, hh.2, by omega, fun j hj => ?_⟩
    rcases Nat.lt_or_ge j pos with hl | hl
    · exact hn.2 j hl
    · obtain ⟨d, rfl⟩ : ∃ d, j = pos + d := ⟨j - pos, by omega⟩
      have hd : d < (Utf8.decode s pos).2 := by omega
      match d, hd with
      | 0, _ => simp only [Nat.add_zero]; omega
      | 1, hd => have := (c2 (by omega)).1; omega
      | 2, hd => have := (c3 (by omega)).1; omega
      | 3, hd => have := (c4 (by omega)).1; omega
      | d + 4, hd => omega

set_option maxRecDepth 100000 in
set_option maxHeartbeats 2000000 in
theorem cutWord_any (s : ByteArray) (w : World) (hs : s.size ≤ maxLen) :
    Calls Tryz.prog 169 #[.string s] w fun e w' => e = .returned (.tuple #[.string (cwA s), .string (cwB s)]) ∧ Below w.heap.size w w' := by
  unfold maxLen at hs
  go_enter Tryz.func169, Tryz.ntmps169
  go_wp2
  go_loopw [] (fun wr => ∃ pos : Nat, wr = w.iter s pos ∧ NoSp s pos) (fun wr => s.size - wr.iterPos w.heap.size)
  case atStart => exact ⟨0, rfl, Nat.zero_le _, fun j hj => absurd hj (by omega)⟩
  case round =>
    obtain ⟨pos, rfl, hn⟩ := hrel
    have HB := Lib.hid ((Below.refl w.heap.size w).alloc (Nat.le_refl _) (.stringIter s pos))
    by_cases hp : pos < s.size
    · have hnx : ∀ ty, (Instr.next (.pointer (some ⟨w.heap.size, 0, none⟩)) true ty).run Tryz.prog (w.iter s pos) = _ := fun ty => run_next_any w s pos ty hp
      rcases rune_sp hp hn with ⟨h1, h2⟩ | ⟨h1, h2, h3⟩
      · obtain ⟨ea, eb⟩ := cw_at hp h2 hn
        have HA := Lib.hid ea.symm; have HBb := Lib.hid eb.symm
        clear ea eb h2 hn
        rw [h1] at hnx
        go_wp2_with (fail)
        go_quiet (fail)
        go_wp2
        go_ret2
        exact ⟨ret_ss HA.out HBb.out, below_drewN ((Below.refl w.heap.size w).alloc (Nat.le_refl _) _) _⟩
      · have H3 := Lib.hid h3
        have hb : decide (((Utf8.decode s pos).1 : Int) = 32) = false := decide_eq_false (by omega)
        clear hn
        go_wp2
        go_roundw
        case rel => exact ⟨_, rfl, H3.out⟩
        case measure => simp; omega
    · have hnx : ∀ ty, (Instr.next (.pointer (some ⟨w.heap.size, 0, none⟩)) true ty).run Tryz.prog (w.iter s pos) = _ := fun ty => run_next_end w s pos ty hp
      have hpe : pos = s.size := Nat.le_antisymm hn.1 (by omega)
      subst hpe
      obtain ⟨ea, eb⟩ := cw_none hn
      have HA := Lib.hid ea.symm; have HBb := Lib.hid eb.symm
      clear ea eb hn
      go_wp2
      go_ret2
      exact ⟨ret_ss HA.out HBb.out, HB.out⟩
end Go.Proofs.YtjgmgaccmcepdaaGreatDoor
