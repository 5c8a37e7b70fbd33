/- The model's RenamingOf. -/
import Derived.Test.YtoniekjchabjlaaRenA
namespace Go.Proofs.Ytoniekjchabjlaa
open Go.ChangeAt Go.ChangeShapes Go.RowKit Go.WideShapes

set_option maxRecDepth 100000 in
set_option maxHeartbeats 4000000 in
theorem sRenaming_any (A : Option Addr) (n c : Nat) (xs : List Int) (w : World) (h : RdI w w.heap.size A n xs) :
    Calls Try.prog 4 #[.slice A n c] w (GivesSSB w (rnL xs) (rnB xs)) := by
  obtain ⟨i0, hi0, hz0, hz1, hz2⟩ := info_parts_s
  have hl := h.len
  by_cases h8 : n = 8
  · subst h8
    obtain ⟨b, off, rfl, hbb, hcells⟩ := h.2 (by omega)
    have HL := Lib.hid hl
    have HC := Lib.hid hcells
    have HI := Lib.hid hi0; have HZ0 := Lib.hid hz0; have HZ1 := Lib.hid hz1; have HZ2 := Lib.hid hz2
    have H0 := Lib.hid (OwnQ.made w (fun _ => (none, 0)))
    have HB0 := Lib.hid ((Below.refl w.heap.size w).alloc (Nat.le_refl _) (.cells #[] 22))
    clear h hl hcells hi0 hz0 hz1 hz2
    go_enter Try.func4, Try.ntmps4
    go_wp2
    go_loopw [4, 5] (fun o i wr => ∃ (k : Nat) (hs : Nat → Option Addr × Nat) (g c : Nat), k ≤ 8 ∧ i = .int .i64 k ∧ o = .slice (some ⟨g, 0, none⟩) k c ∧ OwnQ wr w.heap.size wr.heap.size (.slice (some ⟨g, 0, none⟩) k c) hs ((xs.take k).map sing) ∧ Below w.heap.size w wr ∧ (xs.take k).all leafB = true) (fun _ i _ => 8 - (intOf i).toNat)
    case atStart => exact ⟨0, _, _, _, by omega, rfl, rfl, H0.out, HB0.out, by simp⟩
    case round =>
      obtain ⟨k, hs, g, c', hk, rfl, rfl, hown, hb, hall⟩ := hrel
      have hsz := hb.size
      have HO := Lib.hid hown; have HB := Lib.hid hb; have HALL := Lib.hid hall
      clear hown hall
      by_cases hlt : k < 8
      · have hlt' : decide ((k : Int) < 8) = true := decide_eq_true (by omega)
        have hkl : k < xs.length := by have := HL.out; omega
        have hc := (hb.cell (p := ⟨b, off + k, none⟩) hbb).trans (HC.out k hlt)
        have HBAD := Lib.hid (@rnB_bad xs k hkl)
        have HSTP := Lib.hid (rn_step hkl HALL.out)
        have HTK := Lib.hid (rn_take hkl)
        have HLT : Hid (((xs.take k).map sing).length = k) := Lib.hid (by rw [List.length_map, List.length_take]; omega)
        generalize xs.getD k 0 = x at *
        clear hb hkl
        cases hleaf : leafB x with
        | false =>
          have hbad := HBAD.out hleaf
          have HN := Lib.hid (And.intro (rnL_no hbad) hbad)
          clear hbad
          go_wp2_with (go_at_call 12; refine (isAtom_any x _).mono ?_; rintro e w' ⟨rfl, rfl⟩; rw [hleaf])
          go_ret2
          rw [HN.out.1, HN.out.2]
          exact gSSB_nil _ _ HB.out
        | true =>
          have HA := Lib.hid (HSTP.out hleaf)
          have be6 : Below wr.heap.size wr (wr.alloc (.cells #[Value.int .i64 x] 2)) := (Below.refl _ _).alloc (Nat.le_refl _) _
          have BE6 := Lib.hid be6
          have hpi := push_in (A6 := some ⟨wr.heap.size, 0, none⟩) (c6 := 1) (dq := [x]) HO.out HLT.out hsz be6
          have O6 := Lib.hid hpi.1
          have N6 := Lib.hid hpi.2.1
          have BS6 := Lib.hid hpi.2.2
          have es : (wr.alloc (.cells #[Value.int .i64 x] 2)).heap.size = wr.heap.size + 1 := by simp
          have OW6 := Lib.hid (rowOne wr x)
          rw [es] at N6
          clear be6 es hpi
          go_wp2_with (first
            | (go_at_call 12; refine (isAtom_any x _).mono ?_; rintro e w' ⟨rfl, rfl⟩; rw [hleaf])
            | (at_builtin; refine wpList_append_lies _ rfl _ _ _ rfl w.heap.size 22 i0 (.slice none 0 0) 1 24 Try.underlying23 HI.out HZ0.out HZ1.out HZ2.out rfl (by decide) _ _ _ rfl O6.out ⟨wr.heap.size + 1, 0, none⟩ 1 1 [.slice (some ⟨wr.heap.size, 0, none⟩) 1 1] rfl rfl N6.out (by simp [Value.oneCell']) (by decide) (by simp only [maxLen]; omega) (by omega) BS6.out _ rfl ?_; intro g7 cap7 w7 hown7 hgrow7 hat7 hlt7))
          obtain ⟨G1, G2⟩ := push_own (A6 := some ⟨wr.heap.size, 0, none⟩) (c6 := 1) (dq := [x]) HO.out HLT.out hsz BE6.out OW6.out hown7 hgrow7 hat7
          rw [HTK.out] at G1
          have J1 := Lib.hid G1; have J2 := Lib.hid (HB.out.trans (G2.mono (Nat.le_refl _)))
          clear hown7 hgrow7 hat7 G1 G2
          go_roundw
          case rel => exact ⟨k + 1, _, _, _, by omega, by go_num, rfl, J1.out, J2.out, HA.out⟩
          case measure => simp [intOf]; omega
      · have hk8 : k = 8 := by omega
        subst hk8
        have hyes := rnB_end HL.out HALL.out
        have HN := Lib.hid (And.intro (rnL_yes hyes) hyes)
        have HLM : Hid ((xs.map sing).length = 8) := Lib.hid (by rw [List.length_map]; exact HL.out)
        have ho := HO.out
        rw [List.take_of_length_le (by have := HL.out; omega)] at ho
        have HO9 := Lib.hid ho
        clear hyes hb ho
        go_wp2
        go_ret2
        exact gSSB_mk HLM.out HO9.out HB.out HN.out.1.symm HN.out.2.symm
  · have hne : ((n : Int) != 8) = true := by simp; omega
    have hbad := rnB_len (xs := xs) (by omega)
    rw [rnL_no hbad, hbad]
    go_enter Try.func4, Try.ntmps4
    go_wp2
    go_ret2
    exact gSSB_nil _ _ (Below.refl _ _)
end Go.Proofs.Ytoniekjchabjlaa
