/- ParseForm of the model. -/
import Derived.Test.YtjekibknembcgaaDoorPairS
namespace Go.Proofs.YtjekibknembcgaaDoor
open Go.RowKit

theorem pos_drop (s : ByteArray) {p : Nat} (hp : p ≤ s.size) : pos s ((bl s).drop p) = p := by
  unfold pos; rw [List.length_drop, bl_len]; omega
theorem sskip_some (s : ByteArray) (pb p : Nat) (bad : Int) (w : World) (h : QS s pb w p bad) :
    Calls Tryd.prog 75 #[.pointer (some ⟨pb, 0, none⟩)] w fun e w' => e = .returned (.tuple #[]) ∧ (∃ p', QS s pb w' p' bad) ∧ But w.heap.size pb w w' := by
  by_cases hp : s.size ≤ p
  · exact (sskip_past s pb p bad w hp h).mono fun e w' ⟨h1, h2, h3⟩ => ⟨h1, ⟨_, h2⟩, h3⟩
  · have h' : QS s pb w (pos s ((bl s).drop p)) bad := by rw [pos_drop s (by omega)]; exact h
    exact (sskip_any s pb ((bl s).drop p) bad w (List.drop_suffix _ _) h').mono fun e w' ⟨h1, h2, h3⟩ => ⟨h1, ⟨_, h2⟩, h3⟩

theorem ret_min {a b : Int} (h : a ≤ b) : Ending.returned (.tuple #[.slice none 0 0, .int .i64 (min a b)]) = Ending.returned (.tuple #[.slice none 0 0, .int .i64 a]) := by rw [Int.min_eq_left h]

theorem sparse_start (s : ByteArray) (w : World) (hs : s.size ≤ 1048576) :
    QS s w.heap.size (w.alloc (.cells #[.string s, .int .i64 0, .int .i64 (-1)] 75)) (pos s (bl s)) (-1) ∧
    But (w.alloc (.cells #[.string s, .int .i64 0, .int .i64 (-1)] 75)).heap.size w.heap.size w (w.alloc (.cells #[.string s, .int .i64 0, .int .i64 (-1)] 75)) := by
  have hb : Below w.heap.size w (w.alloc (.cells #[.string s, .int .i64 0, .int .i64 (-1)] 75)) := (Below.refl _ _).alloc (Nat.le_refl _) _
  have h0 : pos s (bl s) = 0 := by unfold pos; rw [bl_len]; omega
  rw [h0]
  refine ⟨⟨by simp, by simp, by simp, by simp, by simp [go_sem], by simp [go_sem], hs, by omega⟩, ?_⟩
  refine ⟨hb.os, hb.tape, hb.output, hb.size, fun k hk hn => hb.block k ?_⟩
  simp at hk
  omega

set_option maxRecDepth 100000 in
set_option maxHeartbeats 4000000 in
theorem sParseForm_any (s : ByteArray) (w : World) (hs : s.size ≤ 1048576) :
    Calls Tryd.prog 41 #[.string s] w (GivesZ w (pfL (bl s)) (pfZ (bl s))) := by
  by_cases h200 : s.size ≤ 200
  · have hd : decide (200 < (s.size : Int)) = false := decide_eq_false (by omega)
    obtain ⟨hqs, hbu⟩ := sparse_start s w (by omega)
    have HF := Lib.hid (forms_any s w.heap.size h200 ((bl s).length + 1) (bl s) _ (List.suffix_refl _) hqs (by omega))
    have HBU := Lib.hid hbu
    have hsz := pz_suf ((bl s).length + 1) (bl s)
    generalize hR : pz ((bl s).length + 1) (bl s) = R at hsz
    have HR := Lib.hid hR
    clear hqs hbu hR
    go_enter Tryd.func41, Tryd.ntmps41
    go_wp2_with (fail)
    refine HF.out.mono ?_
    rw [HR.out]
    rcases hsz with ⟨f, r, rfl, hf1, hf2, hf3, hf4⟩ | ⟨r, rfl, hr⟩
    · rintro e w2 ⟨hb2, A2, c2, rfl, o2, hq2⟩
      have hB2 := HBU.out.trans hb2
      have hsk := sskip_any s w.heap.size r (-1) w2 hf3 hq2
      rw [bl_len] at hf2
      have HPB : Hid (w.heap.size < (w.alloc (.cells #[.string s, .int .i64 0, .int .i64 (-1)] 75)).heap.size) := Lib.hid (by simp)
      have HS2 := Lib.hid hb2.size
      have HB2 := Lib.hid hB2
      have HO2 := Lib.hid o2
      have HSF := Lib.hid hf3
      clear hb2 o2 hq2 hf4 hf3 hB2
      go_wp2_with (fail)
      refine hsk.mono ?_
      rintro e w3 ⟨rfl, hq3, hb3⟩
      have HO3 := Lib.hid (own_more (own_but HO2.out hb3 (Nat.le_refl _) HPB.out) (Nat.le_of_lt HPB.out))
      have HB3 := Lib.hid (HB2.out.trans (hb3.mono HS2.out))
      have hcap := (own_cap HO3.out).1
      have HS3 := Lib.hid (Nat.le_trans HS2.out hb3.size)
      clear hb3 hsk
      cases hx : skS r with
      | nil =>
        rw [hx, pos_nil] at hq3
        have c1 := hq3.c1
        have c2' := hq3.c2
        obtain ⟨e1, e2⟩ := pfL_ok (L := bl s) (by rw [bl_len]; exact h200) HR.out hx
        rw [bl_len] at e2
        have HE1 := Lib.hid e1; have HE2 := Lib.hid e2
        have hlt : decide (s.size < s.size) = false := decide_eq_false (by omega)
        clear hq3 hx e1 e2
        by_cases h24 : f.length ≤ 24
        · have hd2 : decide (24 < (f.length : Int)) = false := decide_eq_false (by omega)
          have HL : Hid (pfL (bl s) = f) := Lib.hid (by rw [HE1.out, if_pos h24])
          have HZ : Hid (pfZ (bl s) = -1) := Lib.hid (by rw [HE2.out, if_pos h24])
          clear HE1 HE2
          go_wp2
          go_ret2
          refine ⟨A2, c2, ?_, by rw [HL.out]; exact HO3.out, HB3.out.below (Nat.le_of_lt HPB.out)⟩
          rw [HL.out, HZ.out]; rfl
        · have hd2 : decide (24 < (f.length : Int)) = true := decide_eq_true (by omega)
          have HL : Hid (pfL (bl s) = []) := Lib.hid (by rw [HE1.out, if_neg h24])
          have HZ : Hid (pfZ (bl s) = (s.size : Int)) := Lib.hid (by rw [HE2.out, if_neg h24])
          clear HE1 HE2
          go_wp2
          go_ret2
          refine ⟨none, 0, ?_, by rw [HL.out]; exact World.ownsRow_nil _ _ _ _, HB3.out.below (Nat.le_of_lt HPB.out)⟩
          rw [HL.out, HZ.out]; rfl
      | cons c r' =>
        rw [hx] at hq3
        have hsuf : (c :: r') <:+ bl s := (hx ▸ skS_suf r : (c :: r') <:+ r).trans HSF.out
        obtain ⟨_, hplt⟩ := pos_cons hsuf
        have hwz := wholeZ_more HR.out hx
        have hwz' : WholeZ (bl s) = ((pos s (c :: r') : Nat) : Int) := by rw [hwz, bl_len]; rfl
        obtain ⟨e1, e2⟩ := pfL_no (L := bl s) (by rw [bl_len]; exact h200) (by rw [hwz']; omega)
        rw [hwz'] at e2
        generalize pos s (c :: r') = p at hq3 hplt e2
        have c1 := hq3.c1
        have HL := Lib.hid e1; have HZ := Lib.hid e2
        have HFL := Lib.hid (fail_first s w.heap.size p (p : Int) _ hq3)
        have hlt : decide (p < s.size) = true := decide_eq_true hplt
        clear hq3 hx e1 e2 hwz hwz' hsuf
        go_wp2_with (fail)
        refine HFL.out.mono ?_
        rintro e w4 ⟨rfl, hq4, hb4⟩
        have c24 := hq4.c2
        have HB4 := Lib.hid (HB3.out.trans (hb4.mono HS3.out))
        go_wp2
        go_quiet (fail)
        go_wp2
        go_ret2
        refine ⟨none, 0, ?_, by rw [HL.out]; exact World.ownsRow_nil _ _ _ _, (HB4.out.drewN _).below (Nat.le_of_lt HPB.out)⟩
        rw [HL.out, HZ.out]
        exact ret_min (by omega)
    · rintro e w2 ⟨hb2, A2, c2, rfl, p2, hq2⟩
      have hB2 := HBU.out.trans hb2
      have hsk := sskip_some s w.heap.size p2 _ w2 hq2
      have hrl := hr.length_le
      rw [bl_len] at hrl
      have hwz := wholeZ_no HR.out
      have hwz' : WholeZ (bl s) = ((pos s r : Nat) : Int) := by rw [hwz, bl_len]; rfl
      obtain ⟨e1, e2⟩ := pfL_no (L := bl s) (by rw [bl_len]; exact h200) (by rw [hwz']; omega)
      rw [hwz'] at e2
      have hple : pos s r ≤ s.size := by unfold pos; omega
      generalize pos s r = bad at hq2 hsk e2 hple
      have HL := Lib.hid e1; have HZ := Lib.hid e2
      have HS2 := Lib.hid hb2.size
      have HB2 := Lib.hid hB2
      have HPB : Hid (w.heap.size ≤ (w.alloc (.cells #[.string s, .int .i64 0, .int .i64 (-1)] 75)).heap.size) := Lib.hid (by simp)
      clear hb2 hq2 hB2 e1 e2 hwz hwz' hrl hr
      go_wp2_with (fail)
      refine hsk.mono ?_
      rintro e w3 ⟨rfl, ⟨p3, hq3⟩, hb3⟩
      have c1 := hq3.c1
      have c2' := hq3.c2
      have c0' := hq3.c0
      have HB3 := Lib.hid (HB2.out.trans (hb3.mono HS2.out))
      have HFL := Lib.hid (fail_more s w.heap.size p3 (bad : Int) (p3 : Int) _ (by omega) hq3)
      clear hb3 hsk hq3
      by_cases hlt3 : p3 < s.size
      · have hlt : decide (p3 < s.size) = true := decide_eq_true hlt3
        go_wp2_with (go_at_call 76; refine HFL.out.mono ?_; rintro e w' ⟨rfl, rfl⟩)
        go_quiet (fail)
        go_wp2
        go_ret2
        refine ⟨none, 0, ?_, by rw [HL.out]; exact World.ownsRow_nil _ _ _ _, (HB3.out.drewN _).below HPB.out⟩
        rw [HL.out, HZ.out]
        exact ret_min (by omega)
      · have hlt : decide (p3 < s.size) = false := decide_eq_false hlt3
        go_wp2
        go_quiet (fail)
        go_wp2
        go_ret2
        refine ⟨none, 0, ?_, by rw [HL.out]; exact World.ownsRow_nil _ _ _ _, (HB3.out.drewN _).below HPB.out⟩
        rw [HL.out, HZ.out]
        exact ret_min (by omega)
  · have hd : decide (200 < (s.size : Int)) = true := decide_eq_true (by omega)
    obtain ⟨e1, e2⟩ := pfL_big (L := bl s) (by rw [bl_len]; exact h200)
    rw [e1, e2]
    go_enter Tryd.func41, Tryd.ntmps41
    go_wp2
    go_ret2
    exact ⟨_, _, rfl, World.ownsRow_nil _ _ _ _, Below.refl _ _⟩
end Go.Proofs.YtjekibknembcgaaDoor
