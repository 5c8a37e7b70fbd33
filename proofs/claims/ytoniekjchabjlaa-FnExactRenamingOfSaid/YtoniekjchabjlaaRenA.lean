/- RenamingOf of model and program. -/
import Derived.Test.YtoniekjchabjlaaExa
namespace Go.Proofs.Ytoniekjchabjlaa
open Go.ChangeAt Go.ChangeShapes Go.RowKit Go.WideShapes

def sing (x : Int) : List Int := [x]
def rnB (xs : List Int) : Bool := decide (xs.length = 8) && xs.all leafB
def rnL (xs : List Int) : List (List Int) := if rnB xs = true then xs.map sing else []
theorem rnB_len {xs : List Int} (h : ¬ xs.length = 8) : rnB xs = false := by unfold rnB; rw [decide_eq_false h, Bool.false_and]
theorem rnB_bad {xs : List Int} {k : Nat} (hk : k < xs.length) (h : leafB (xs.getD k 0) = false) : rnB xs = false := by
  unfold rnB
  rw [List.all_eq_false.2 ⟨xs.getD k 0, by simp [List.getD, hk], by rw [h]; simp⟩, Bool.and_false]
theorem rnB_end {xs : List Int} (h8 : xs.length = 8) (h : (xs.take 8).all leafB = true) : rnB xs = true := by
  rw [List.take_of_length_le (by omega)] at h
  unfold rnB
  rw [decide_eq_true h8, h]; rfl
theorem rn_step {xs : List Int} {k : Nat} (hk : k < xs.length) (h : (xs.take k).all leafB = true) (hl : leafB (xs.getD k 0) = true) : (xs.take (k + 1)).all leafB = true := by
  rw [List.take_succ_eq_append_getElem hk, List.all_append, h, Bool.true_and, List.all_cons, List.all_nil, Bool.and_true]
  simpa [List.getD, hk] using hl
theorem rn_take {xs : List Int} {k : Nat} (hk : k < xs.length) : (xs.take k).map sing ++ [[xs.getD k 0]] = (xs.take (k + 1)).map sing := by
  rw [List.take_succ_eq_append_getElem hk, List.map_append]
  simp [List.getD, hk, sing]
theorem rn_get {xs : List Int} {k : Nat} (hk : k < xs.length) : (xs.map sing).getD k [] = [xs.getD k 0] := by simp [List.getD, hk, sing]
theorem rnL_no {xs : List Int} (h : rnB xs = false) : rnL xs = [] := by unfold rnL; rw [h]; rfl
theorem rnL_yes {xs : List Int} (h : rnB xs = true) : rnL xs = xs.map sing := by unfold rnL; rw [if_pos h]
theorem rnL_small (xs : List Int) : (rnL xs).length ≤ 1048576 ∧ total (rnL xs) ≤ 1048576 := by
  cases h : rnB xs with
  | false => rw [rnL_no h]; exact ⟨Nat.zero_le _, by simp [total]⟩
  | true =>
    have h8 : xs.length = 8 := by
      unfold rnB at h
      simp only [Bool.and_eq_true, decide_eq_true_eq] at h
      exact h.1
    have hl : (xs.map sing).length = 8 := by rw [List.length_map]; exact h8
    have ht := total_small (qs := xs.map sing) fun q hq => by
      obtain ⟨x, _, rfl⟩ := List.mem_map.1 hq
      exact (by decide : 1 ≤ 24)
    rw [rnL_yes h]
    omega
theorem rowOne (w : World) (x : Int) : (w.alloc (.cells #[Value.int .i64 x] 2)).ownsRow w.heap.size 2 1 (.slice (some ⟨w.heap.size, 0, none⟩) 1 1) 1 ([x].map (Value.int .i64)) :=
  ⟨rfl, .inr ⟨w.heap.size, 1, #[Value.int .i64 x], rfl, Nat.le_refl _, heap_alloc_new _ _, Nat.le_refl _, by decide, rfl, rfl⟩⟩
theorem gSSB_mk {w w' : World} {V V' : List (List Int)} {b b' : Bool} {hs : Nat → Option Addr × Nat} {A : Option Addr} {c n : Nat} (h1 : V.length = n) (own : OwnQ w' w.heap.size w'.heap.size (.slice A n c) hs V) (bel : Below w.heap.size w w') (hV : V = V') (hb : b = b') :
    GivesSSB w V' b' (.returned (.tuple #[.slice A n c, .bool b])) w' := by
  subst hV; subst hb; subst h1
  exact ⟨hs, A, c, rfl, own, bel⟩
theorem gSSB_nil (w w' : World) (h : Below w.heap.size w w') : GivesSSB w [] false (.returned (.tuple #[.slice none 0 0, .bool false])) w' := ⟨fun _ => (none, 0), none, 0, rfl, OwnQ.nil w' _ _ _, h⟩

set_option maxRecDepth 100000 in
set_option maxHeartbeats 4000000 in
theorem renaming_impl (A : Option Addr) (n c : Nat) (xs : List Int) (w : World) (h : RdI w w.heap.size A n xs) :
    Calls Try.prog 6 #[.slice A n c] w (GivesSSB w (rnL xs) (rnB xs)) := by
  obtain ⟨i0, hi0, hz0, hz1, hz2⟩ := info_parts_s
  have hl := h.len
  by_cases h8 : n = 8
  · subst h8
    obtain ⟨b, off, rfl, hbb, hcells⟩ := h.2 (by omega)
    have HL := Lib.hid hl
    have HC := Lib.hid hcells
    have HLM : Hid ((xs.map sing).length = 8) := Lib.hid (by rw [List.length_map]; exact hl)
    have b2 : i0.bytes * 8 ≤ 281474976710656 := by rw [hz2]; omega
    have b3 : 8 ≤ maxLen := by unfold maxLen; omega
    clear h hl hcells
    go_enter Try.func6, Try.ntmps6
    go_wp2_with (at_make; refine wpList_make_full _ rfl _ _ _ rfl w.heap.size 22 i0 (.slice none 0 0) 1 Try.underlying23 hi0 hz0 hz1 _ _ _ _ 8 rfl rfl rfl rfl b2 b3 (Nat.le_refl _) ?_; intro w4 hown hg)
    have hbel : Below w.heap.size w w4 := (Below.refl _ _).grown hg (Nat.le_refl _) (by intro k hk; cases hk)
    have hown0 : w4.ownsRow w.heap.size 22 1 (.slice (some ⟨w.heap.size, 0, none⟩) 8 8) 8 (List.replicate 8 (.slice none 0 0)) := by
      rw [← toList_madeCells_one]; simpa [Value.cells] using hown
    have hlt1 : w.heap.size < w4.heap.size := (hown0.lt _ rfl).2
    have HO4 : Hid (OwnQ w4 w.heap.size w4.heap.size (.slice (some ⟨w.heap.size, 0, none⟩) 8 8) (fun _ => (none, 0)) (cpq (xs.map sing) 0)) := Lib.hid (by
      rw [← cpq_zero, HLM.out]; exact OwnQ.fresh hown0 _ (fun _ => rfl) _ hlt1)
    have HB4 := Lib.hid hbel
    clear hg hown hown0 hlt1 b2 b3 hi0 hz0 hz1 hz2 hbel
    go_loopw [13] (fun i wr => ∃ (k : Nat) (hs : Nat → Option Addr × Nat), k ≤ 8 ∧ i = .int .i64 k ∧ OwnQ wr w.heap.size wr.heap.size (.slice (some ⟨w.heap.size, 0, none⟩) 8 8) hs (cpq (xs.map sing) k) ∧ Below w.heap.size w wr ∧ (xs.take k).all leafB = true) (fun i _ => 8 - (intOf i).toNat)
    case atStart => exact ⟨0, _, by omega, rfl, HO4.out, HB4.out, by simp⟩
    case round =>
      obtain ⟨k, hs, hk, rfl, hown, hb, hall⟩ := hrel
      have hsz := hb.size
      have hgg : w.heap.size < wr.heap.size := hown.top0 _ rfl
      have HO := Lib.hid hown; have HB := Lib.hid hb; have HALL := Lib.hid hall
      clear hown hall
      by_cases hlt : k < 8
      · have hd8 : decide ((k : Int) < 8) = true := decide_eq_true (by omega)
        have hkl : k < xs.length := by have := HL.out; omega
        have hc := (hb.cell (p := ⟨b, off + k, none⟩) hbb).trans (HC.out k hlt)
        have HBAD := Lib.hid (@rnB_bad xs k hkl)
        have HSTP := Lib.hid (rn_step hkl HALL.out)
        have hst := cpq_step (qs := xs.map sing) (k := k) (by rw [HLM.out]; exact hlt)
        rw [rn_get hkl] at hst
        have HST := Lib.hid hst
        have HL2 := Lib.hid ((cpq_len (qs := xs.map sing) (k := k) (by rw [HLM.out]; omega)).trans HLM.out)
        generalize xs.getD k 0 = x at *
        clear hb hkl hst
        cases hleaf : leafB x with
        | false =>
          have hbad := HBAD.out hleaf
          have HN := Lib.hid (And.intro (rnL_no hbad) hbad)
          clear hbad
          go_wp2_with (go_at_call 13; refine (isLeaf_any x _).mono ?_; rintro e w' ⟨rfl, rfl⟩; rw [hleaf])
          go_ret2
          rw [HN.out.1, HN.out.2]
          exact gSSB_nil _ _ HB.out
        | true =>
          obtain ⟨hF, hFb⟩ := HO.out.fill HL2.out hlt rfl HB.out (rowOne wr x) ((Below.refl _ _).alloc (Nat.le_refl _) _)
          rw [HST.out] at hF
          rw [World.setCell_alloc_past _ _ _ _ hgg] at hF hFb
          have hO2 := HO.out.below ((Below.refl wr.heap.size wr).alloc (Nat.le_refl _) (.cells #[Value.int .i64 x] 2))
          obtain ⟨hf, ho⟩ := hO2.at HL2.out hlt
          obtain ⟨o, hoo⟩ : ∃ o, hv hs (cpq (xs.map sing) k) k = o := ⟨_, rfl⟩
          rw [hoo] at ho
          have HF := Lib.hid hF; have HFB := Lib.hid hFb; have HA := Lib.hid (HSTP.out hleaf)
          clear hF hFb hoo hO2
          go_wp2_with (go_at_call 13; refine (isLeaf_any x _).mono ?_; rintro e w' ⟨rfl, rfl⟩; rw [hleaf])
          go_roundw
          case rel => exact ⟨k + 1, _, by omega, by go_num, HF.out, HFB.out, HA.out⟩
          case measure => simp [intOf]; omega
      · have hk8 : k = 8 := by omega
        subst hk8
        have hyes := rnB_end HL.out HALL.out
        have HN := Lib.hid (And.intro (rnL_yes hyes) hyes)
        have e8 := cpq_all (xs.map sing)
        rw [HLM.out] at e8
        have ho := HO.out
        rw [e8] at ho
        have HO9 := Lib.hid ho
        clear hyes hb e8 ho
        go_wp2
        go_ret2
        exact gSSB_mk HLM.out HO9.out HB.out HN.out.1.symm HN.out.2.symm
  · have hne : ((n : Int) != 8) = true := by simp; omega
    have hbad := rnB_len (xs := xs) (by omega)
    rw [rnL_no hbad, hbad]
    go_enter Try.func6, Try.ntmps6
    go_wp2
    go_ret2
    exact gSSB_nil _ _ (Below.refl _ _)
end Go.Proofs.Ytoniekjchabjlaa
