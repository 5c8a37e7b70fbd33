/- The model's emptyBinding, RenamingOf. -/
import Derived.Test.YtoniekjchabjlaaDoorSubB
namespace Go.Proofs.YtoniekjchabjlaaDoor
open Go.ChangeAt Go.ChangeShapes Go.RowKit Go.WideShapes

theorem ints_madeR (w : World) : (w.alloc (.cells #[] 2)).ownsRow w.heap.size 2 1 (.slice (some ⟨w.heap.size, 0, none⟩) 0 0) 0 [] := World.ownsRow_made w #[] 0 (Nat.le_refl _) (by simp [maxLen]) rfl
theorem rep_snoc (k : Nat) : List.replicate k ([] : List Int) ++ [[]] = List.replicate (k + 1) [] := (List.replicate_succ' ..).symm
theorem rep_len (k : Nat) : (List.replicate k ([] : List Int)).length = k := List.length_replicate

set_option maxRecDepth 100000 in
set_option maxHeartbeats 4000000 in
theorem emptyBinding_any (w : World) : Calls Tryd.prog 60 #[] w fun e w' => ∃ hs g c, e = .returned (.slice (some ⟨g, 0, none⟩) 8 c) ∧ OwnQ w' w.heap.size w'.heap.size (.slice (some ⟨g, 0, none⟩) 8 c) hs (List.replicate 8 []) ∧ Below w.heap.size w w' := by
  obtain ⟨i0, hi0, hz0, hz1, hz2⟩ := info_parts_s
  have HI := Lib.hid hi0; have HZ0 := Lib.hid hz0; have HZ1 := Lib.hid hz1; have HZ2 := Lib.hid hz2
  have H0 := Lib.hid (OwnQ.made w (fun _ => (none, 0)))
  have HB0 := Lib.hid ((Below.refl w.heap.size w).alloc (Nat.le_refl _) (.cells #[] 24))
  clear hi0 hz0 hz1 hz2
  go_enter Tryd.func60, Tryd.ntmps60
  go_wp2
  go_loopw [1, 2] (fun o i wr => ∃ (k : Nat) (hs : Nat → Option Addr × Nat) (g c : Nat), k ≤ 8 ∧ i = .int .i64 k ∧ o = .slice (some ⟨g, 0, none⟩) k c ∧ OwnQ wr w.heap.size wr.heap.size (.slice (some ⟨g, 0, none⟩) k c) hs (List.replicate k []) ∧ Below w.heap.size w wr) (fun _ i _ => 8 - (intOf i).toNat)
  case atStart => exact ⟨0, _, _, _, by omega, rfl, rfl, H0.out, HB0.out⟩
  case round =>
    obtain ⟨k, hs, g, c, hk, rfl, rfl, hown, hb⟩ := hrel
    have hsz := hb.size
    have HO := Lib.hid hown; have HB := Lib.hid hb
    clear hown hb
    by_cases hlt : k < 8
    · have hlt' : decide ((k : Int) < 8) = true := decide_eq_true (by omega)
      have be6 : Below wr.heap.size wr (wr.alloc (.cells #[] 2)) := (Below.refl _ _).alloc (Nat.le_refl _) _
      have BE6 := Lib.hid be6
      have O6 : Hid (((wr.alloc (.cells #[] 2)).alloc (.cells #[Value.slice (some ⟨wr.heap.size, 0, none⟩) 0 0] 24)).ownsRow w.heap.size 24 1 (.slice (some ⟨g, 0, none⟩) k c) k (rowV hs (List.replicate k []))) := Lib.hid (push_in (A6 := some ⟨wr.heap.size, 0, none⟩) (c6 := 0) (dq := []) HO.out (rep_len k) hsz be6).1
      have N6 : Hid (∀ j u, [Value.slice (some ⟨wr.heap.size, 0, none⟩) 0 0][j]? = some u → ((wr.alloc (.cells #[] 2)).alloc (.cells #[Value.slice (some ⟨wr.heap.size, 0, none⟩) 0 0] 24)).cell? ((⟨(wr.alloc (.cells #[] 2)).heap.size, 0, none⟩ : Addr).add j) = some u) := Lib.hid (push_in (A6 := some ⟨wr.heap.size, 0, none⟩) (c6 := 0) (dq := []) HO.out (rep_len k) hsz be6).2.1
      have BS6 : Hid (w.heap.size ≤ ((wr.alloc (.cells #[] 2)).alloc (.cells #[Value.slice (some ⟨wr.heap.size, 0, none⟩) 0 0] 24)).heap.size) := Lib.hid (push_in (A6 := some ⟨wr.heap.size, 0, none⟩) (c6 := 0) (dq := []) HO.out (rep_len k) hsz be6).2.2
      have es : (wr.alloc (.cells #[] 2)).heap.size = wr.heap.size + 1 := by simp
      have OW6 := Lib.hid (ints_madeR wr)
      rw [es] at N6
      clear be6 es
      go_wp2_with (at_builtin; refine wpList_append_lies _ rfl _ _ _ rfl w.heap.size 24 i0 (.slice none 0 0) 1 24 Tryd.underlying25 HI.out HZ0.out HZ1.out HZ2.out rfl (by decide) _ _ _ rfl O6.out ⟨wr.heap.size + 1, 0, none⟩ 1 1 [.slice (some ⟨wr.heap.size, 0, none⟩) 0 0] rfl rfl N6.out (by simp [Value.oneCell']) (by decide) (by simp only [maxLen]; omega) (by omega) BS6.out _ rfl ?_; intro g7 cap7 w7 hown7 hgrow7 hat7 hlt7)
      obtain ⟨G1, G2⟩ := push_own (A6 := some ⟨wr.heap.size, 0, none⟩) (c6 := 0) (dq := []) HO.out (rep_len k) hsz BE6.out OW6.out hown7 hgrow7 hat7
      rw [rep_snoc] at G1
      have J1 := Lib.hid G1; have J2 := Lib.hid (HB.out.trans (G2.mono (Nat.le_refl _)))
      clear hown7 hgrow7 hat7 G1 G2
      go_roundw
      case rel => exact ⟨k + 1, _, _, _, by omega, by go_num, rfl, J1.out, J2.out⟩
      case measure => simp [intOf]; omega
    · have hk8 : k = 8 := by omega
      subst hk8
      go_wp2
      go_ret
      exact ⟨_, _, _, rfl, HO.out, HB.out⟩
end Go.Proofs.YtoniekjchabjlaaDoor
