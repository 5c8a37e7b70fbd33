/- The model's splitAt at a space. -/
import Derived.Test.YtjgmgaccmcepdaaGreatDoorReadC
namespace Go.Proofs.YtjgmgaccmcepdaaGreatDoor
open Go.ChangeAt Go.ChangeShapes Go.RowKit Go.WideShapes

/-- The pieces behind fr, when d bytes are still to look at. -/
def splG (s : ByteArray) : Nat → Nat → List ByteArray
  | 0, fr => [s.extract fr s.size]
  | d + 1, fr => if s.data.toList[s.size - (d + 1)]? = some 32 then s.extract fr (s.size - (d + 1)) :: splG s d (s.size - (d + 1) + 1) else splG s d fr
def spl (s : ByteArray) : List ByteArray := splG s s.size 0
theorem splG_yes {s : ByteArray} {k : Nat} (hk : k < s.size) (h : s.data.toList[k]? = some 32) (fr : Nat) : splG s (s.size - k) fr = s.extract fr k :: splG s (s.size - (k + 1)) (k + 1) := by
  obtain ⟨d, hd⟩ : ∃ d, s.size - k = d + 1 := ⟨s.size - k - 1, by omega⟩
  have e1 : s.size - (d + 1) = k := by omega
  have e2 : s.size - (k + 1) = d := by omega
  rw [hd, e2]
  show (if _ then _ else _) = _
  rw [e1, if_pos h]
theorem splG_no {s : ByteArray} {k : Nat} (hk : k < s.size) (h : ¬ s.data.toList[k]? = some 32) (fr : Nat) : splG s (s.size - k) fr = splG s (s.size - (k + 1)) fr := by
  obtain ⟨d, hd⟩ : ∃ d, s.size - k = d + 1 := ⟨s.size - k - 1, by omega⟩
  have e1 : s.size - (d + 1) = k := by omega
  have e2 : s.size - (k + 1) = d := by omega
  rw [hd, e2]
  show (if _ then _ else _) = _
  rw [e1, if_neg h]
theorem splG_end {s : ByteArray} (fr : Nat) : splG s (s.size - s.size) fr = [s.extract fr s.size] := by rw [Nat.sub_self]; rfl
theorem str_zero (w : World) : (w.alloc (.cells #[] 9)).ownsRow w.heap.size 9 1 (.slice (some ⟨w.heap.size, 0, none⟩) 0 0) 0 [] :=
  ⟨by simp, .inr ⟨w.heap.size, 0, #[], rfl, Nat.le_refl _, heap_alloc_new w _, Nat.le_refl _, by simp [maxLen], rfl, by simp⟩⟩

set_option maxRecDepth 100000 in
set_option maxHeartbeats 4000000 in
theorem splitAt_any (s : ByteArray) (w : World) (hs : s.size ≤ 1048576) :
    Calls Tryz.prog 119 #[.string s, .int .u8 32] w fun e w' => ∃ (A : Option Addr) (c : Nat), e = .returned (.slice A (spl s).length c) ∧ w'.ownsRow w.heap.size 9 1 (.slice A (spl s).length c) (spl s).length ((spl s).map Value.string) ∧ Below w.heap.size w w' := by
  obtain ⟨i0, hi0, hz0, hz1, hz2⟩ := info_parts_str
  have HI := Lib.hid hi0; have HZ0 := Lib.hid hz0; have HZ1 := Lib.hid hz1; have HZ2 := Lib.hid hz2
  clear hi0 hz0 hz1 hz2
  go_enter Tryz.func119, Tryz.ntmps119
  go_wp2
  go_loopw [5, 6, 7] (fun o f i wr => ∃ (k fr : Nat) (T : List ByteArray) (A : Option Addr) (c : Nat), k ≤ s.size + 1 ∧ fr ≤ k ∧ T.length ≤ k ∧ i = .int .i64 k ∧ f = .int .i64 fr ∧ o = .slice A T.length c ∧ wr.ownsRow w.heap.size 9 1 (.slice A T.length c) T.length (T.map Value.string) ∧ Below w.heap.size w wr ∧ (k ≤ s.size → T ++ splG s (s.size - k) fr = spl s) ∧ (k = s.size + 1 → T = spl s)) (fun _ _ i _ => s.size + 1 - (intOf i).toNat)
  case atStart => exact ⟨0, 0, [], some ⟨w.heap.size, 0, none⟩, 0, Nat.zero_le _, Nat.le_refl _, Nat.le_refl _, rfl, rfl, rfl, str_zero w, (Below.refl _ _).alloc (Nat.le_refl _) _, fun _ => rfl, fun h => by omega⟩
  case round =>
    obtain ⟨k, fr, T, A, c, hk, hf, hT, rfl, rfl, rfl, ho, hb, h1, h2⟩ := hrel
    have HO := Lib.hid ho; have HB := Lib.hid hb
    clear ho hb
    have hbs := HB.out.size
    rcases Nat.lt_trichotomy k s.size with hlt | heq | hgt
    · obtain ⟨c0, hc, hi⟩ := byte_of (s := s) hlt
      have d1 : decide ((k : Int) ≤ s.size) = true := decide_eq_true (by omega)
      have d2 : ((k : Int) == (s.size : Int)) = false := beq_eq_false_iff_ne.2 (by omega)
      by_cases h32 : c0 = 32
      · subst h32
        have HN := Lib.hid (splG_yes hlt hc fr ▸ h1 (by omega))
        rw [show ((UInt8.toNat 32 : Nat) : Int) = 32 from rfl] at hi
        have EL : (T ++ [s.extract fr k]).length = T.length + 1 := by simp
        clear h1 h2 hc
        go_wp2_with (at_builtin; refine wpList_append_lies _ rfl _ _ _ rfl w.heap.size 9 i0 (.string ⟨#[]⟩) 1 16 Tryz.underlying132 HI.out HZ0.out HZ1.out HZ2.out rfl (by decide) _ _ _ rfl (HO.out.alloc _) ⟨wr.heap.size, 0, none⟩ 1 1 [.string (s.extract fr k)] rfl rfl (str_new wr _) (by simp [Value.oneCell']) (by decide) (by simp only [maxLen]; omega) (by omega) (by simp; omega) _ rfl ?_; intro g7 cap7 w7 hown7 hgrow7 hat7 hlt7; obtain ⟨F1, F2⟩ := str_push HB.out (by omega) HO.out hown7 hgrow7; have G1 := Lib.hid F1; have G2 := Lib.hid F2; clear hown7 hgrow7 hat7 F1 F2)
        go_roundw
        case rel => exact ⟨k + 1, k + 1, T ++ [s.extract fr k], some ⟨g7, 0, none⟩, cap7, by omega, by omega, by rw [EL]; omega, by go_num, by go_num, by rw [EL], G2.out, G1.out, fun _ => by rw [List.append_assoc]; exact HN.out, fun h => by omega⟩
        case measure => simp [intOf]; omega
      · have d3 : ((c0.toNat : Int) == 32) = false := beq_eq_false_iff_ne.2 fun e => h32 (UInt8.toNat_inj.1 (by have : (32 : UInt8).toNat = 32 := rfl; omega))
        have HN := Lib.hid ((splG_no hlt (by rw [hc]; intro e; exact h32 (Option.some.inj e)) fr) ▸ h1 (by omega))
        clear h1 h2 hc
        go_wp2
        go_roundw
        case rel => exact ⟨k + 1, fr, T, A, c, by omega, by omega, by omega, by go_num, rfl, rfl, HO.out, HB.out, fun _ => HN.out, fun h => by omega⟩
        case measure => simp [intOf]; omega
    · subst heq
      have d1 : decide ((s.size : Int) ≤ s.size) = true := decide_eq_true (by omega)
      have HN := Lib.hid (splG_end (s := s) fr ▸ h1 (by omega))
      have EL : (T ++ [s.extract fr s.size]).length = T.length + 1 := by simp
      clear h1 h2
      go_wp2_with (at_builtin; refine wpList_append_lies _ rfl _ _ _ rfl w.heap.size 9 i0 (.string ⟨#[]⟩) 1 16 Tryz.underlying132 HI.out HZ0.out HZ1.out HZ2.out rfl (by decide) _ _ _ rfl (HO.out.alloc _) ⟨wr.heap.size, 0, none⟩ 1 1 [.string (s.extract fr s.size)] rfl rfl (str_new wr _) (by simp [Value.oneCell']) (by decide) (by simp only [maxLen]; omega) (by omega) (by simp; omega) _ rfl ?_; intro g7 cap7 w7 hown7 hgrow7 hat7 hlt7; obtain ⟨F1, F2⟩ := str_push HB.out (by omega) HO.out hown7 hgrow7; have G1 := Lib.hid F1; have G2 := Lib.hid F2; clear hown7 hgrow7 hat7 F1 F2)
      go_roundw
      case rel => exact ⟨s.size + 1, s.size + 1, T ++ [s.extract fr s.size], some ⟨g7, 0, none⟩, cap7, by omega, by omega, by rw [EL]; omega, by go_num, by go_num, by rw [EL], G2.out, G1.out, fun h => by omega, fun _ => HN.out⟩
      case measure => simp [intOf]
    · have d1 : decide ((k : Int) ≤ s.size) = false := decide_eq_false (by omega)
      obtain rfl := h2 (by omega)
      clear h1 h2
      go_wp2
      go_ret
      exact ⟨_, _, rfl, HO.out, HB.out⟩
end Go.Proofs.YtjgmgaccmcepdaaGreatDoor
