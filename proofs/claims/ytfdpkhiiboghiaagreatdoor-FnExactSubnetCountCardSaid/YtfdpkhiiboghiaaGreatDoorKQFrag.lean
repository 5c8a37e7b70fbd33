/- FragmentOf: of the program and of the model. Valid nets: plain mathematics. The laws' helpers at links and nets: sizes, copies. -/
import Derived.Test.YtfdpkhiiboghiaaGreatDoorKQDual
import Derived.Test.YtfdpkhiiboghiaaGreatDoorKQSeqV
namespace Go.Proofs.YtfdpkhiiboghiaaGreatDoor
set_option linter.unusedSimpArgs false
set_option linter.unusedVariables false
section
open Go.RowKit

/-- What a symbol adds to the fragment. -/
def bitZ (n : Int) : Int := if n = 11 ∨ n = 12 then 1 else if n = 13 ∨ n = 14 then 2 else if n = 15 ∨ n = 16 then 4 else if n = 17 ∨ n = 18 then 8 else 0
theorem bitZ_other {n : Int} (h : ¬ (11 ≤ n ∧ n ≤ 18)) : bitZ n = 0 := by
  unfold bitZ
  rw [if_neg (by omega), if_neg (by omega), if_neg (by omega), if_neg (by omega)]
theorem bitZ_cases (n : Int) : bitZ n = 0 ∨ bitZ n = 1 ∨ bitZ n = 2 ∨ bitZ n = 4 ∨ bitZ n = 8 := by
  unfold bitZ
  split
  · simp
  · split
    · simp
    · split
      · simp
      · split <;> simp
/-- Does a symbol with this bit occur among the first k? -/
def occ (f : List Int) (v : Int) (k : Nat) : Bool := (f.take k).any fun n => bitZ n == v
theorem occ_zero (f : List Int) (v : Int) : occ f v 0 = false := by simp [occ]
theorem occ_step {f : List Int} {k : Nat} (v : Int) (h : k < f.length) : occ f v (k + 1) = (occ f v k || (bitZ (f.getD k 0) == v)) := by
  unfold occ
  rw [List.take_succ_eq_append_getElem h, List.any_append]
  simp [List.getD, h]
/-- A bit as a number. -/
def bz (b : Bool) : Int := if b then 1 else 0
def sumB (p q r s : Bool) : Int := bz p + 2 * bz q + 4 * bz r + 8 * bz s
/-- The fragment of the first k symbols. -/
def fragK (f : List Int) (k : Nat) : Int := sumB (occ f 1 k) (occ f 2 k) (occ f 4 k) (occ f 8 k)
theorem fragK_zero (f : List Int) : fragK f 0 = 0 := by simp [fragK, occ_zero]; rfl
/-- FragmentOf. -/
def fragV (f : List Int) : Int := if validB f then fragK f f.length else -1
theorem fragV_yes {f : List Int} (h : validB f = true) : fragV f = fragK f f.length := by simp [fragV, h]
theorem fragV_no {f : List Int} (h : validB f = false) : fragV f = -1 := by simp [fragV, h]

theorem or_bits (p q r s : Bool) (b : Int) (hb : b = 0 ∨ b = 1 ∨ b = 2 ∨ b = 4 ∨ b = 8) : bits BinOp.or IntKind.i64 (sumB p q r s) b = sumB (p || (b == 1)) (q || (b == 2)) (r || (b == 4)) (s || (b == 8)) := by
  rcases hb with rfl | rfl | rfl | rfl | rfl <;> cases p <;> cases q <;> cases r <;> cases s <;> decide
theorem frag_step {f : List Int} {k : Nat} (h : k < f.length) : bits BinOp.or IntKind.i64 (fragK f k) (bitZ (f.getD k 0)) = fragK f (k + 1) := by
  unfold fragK
  rw [or_bits _ _ _ _ _ (bitZ_cases _), occ_step 1 h, occ_step 2 h, occ_step 4 h, occ_step 8 h]

set_option maxHeartbeats 1000000 in
theorem fragmentBit_any (n : Int) (w : World) : Calls Tryz.prog 194 #[.int .i64 n] w fun e w' => e = .returned (.int .i64 (bitZ n)) ∧ w = w' := by
  by_cases h : 11 ≤ n ∧ n ≤ 18
  · have : n = 11 ∨ n = 12 ∨ n = 13 ∨ n = 14 ∨ n = 15 ∨ n = 16 ∨ n = 17 ∨ n = 18 := by omega
    clear h
    rcases this with rfl | rfl | rfl | rfl | rfl | rfl | rfl | rfl
    all_goals
      go_enter Tryz.func194, Tryz.ntmps194
      go_wp2
      go_ret
      exact ⟨rfl, rfl⟩
  · rw [bitZ_other h]
    have e1 : (n == 11) = false := by simp; omega
    have e2 : (n == 12) = false := by simp; omega
    have e3 : (n == 13) = false := by simp; omega
    have e4 : (n == 14) = false := by simp; omega
    have e5 : (n == 15) = false := by simp; omega
    have e6 : (n == 16) = false := by simp; omega
    have e7 : (n == 17) = false := by simp; omega
    have e8 : (n == 18) = false := by simp; omega
    clear h
    go_enter Tryz.func194, Tryz.ntmps194
    go_wp2
    go_ret
    exact ⟨rfl, rfl⟩

set_option maxHeartbeats 1000000 in
theorem fragmentOf_impl (A : Option Addr) (n c : Nat) (f : List Int) (w : World) (h : RdI w w.heap.size A n f) (ht : Arit w) (hnc : n ≤ c) :
    Calls Tryz.prog 179 #[.slice A n c] w fun e w' => e = .returned (.int .i64 (fragV f)) ∧ w = w' := by
  have hl := h.len
  subst hl
  cases hv : validB f with
  | false =>
    rw [fragV_no hv]
    go_enter Tryz.func179, Tryz.ntmps179
    go_wp2_with (go_at_call 193; refine (validForm_impl _ _ _ f _ h ht hnc).mono ?_; rintro e w' ⟨rfl, rfl⟩)
    go_ret
    exact ⟨rfl, rfl⟩
  | true =>
    rw [fragV_yes hv]
    have l1 := valid_len hv
    have hl24 : f.length ≤ 24 := l1.2.1
    clear l1
    go_enter Tryz.func179, Tryz.ntmps179
    go_wp2_with (go_at_call 193; refine (validForm_impl _ _ _ f _ h ht hnc).mono ?_; rintro e w' ⟨rfl, rfl⟩)
    clear hv ht
    go_loop [3, 11] (fun v3 v11 => ∃ k : Nat, k ≤ f.length ∧ v11 = .int .i64 k ∧ v3 = .int .i64 (fragK f k)) (fun _ v11 => f.length - (intOf v11).toNat)
    case atStart => exact ⟨0, Nat.zero_le _, rfl, by rw [fragK_zero]⟩
    case round =>
      obtain ⟨k, hk, rfl, rfl⟩ := hrel
      by_cases hlt : k < f.length
      · obtain ⟨b, off, rfl, hbb, hcells⟩ := h.2 (by omega)
        have hc := hcells k hlt
        have HS := Lib.hid (frag_step hlt)
        generalize f.getD k 0 = x at hc HS
        clear hcells
        go_wp2_with (go_at_call 194; refine (fragmentBit_any x _).mono ?_; rintro e w' ⟨rfl, rfl⟩)
        go_round
        case rel => exact ⟨k + 1, by omega, by go_num, by rw [← HS.out]⟩
        case measure => simp [intOf]; omega
      · have hkl : k = f.length := by omega
        subst hkl
        go_wp2
        go_ret
        exact ⟨rfl, rfl⟩

/-- The four cells of the model's marks. -/
def four (f : List Int) (k : Nat) : Array Value := #[.int .i64 (bz (occ f 1 k)), .int .i64 (bz (occ f 2 k)), .int .i64 (bz (occ f 4 k)), .int .i64 (bz (occ f 8 k))]
theorem four_same {f : List Int} {k : Nat} (h : k < f.length) (hb : bitZ (f.getD k 0) = 0) : four f k = four f (k + 1) := by
  unfold four
  rw [occ_step 1 h, occ_step 2 h, occ_step 4 h, occ_step 8 h, hb]
  simp
theorem four_set {f : List Int} {k j : Nat} (h : k < f.length) (hb : bitZ (f.getD k 0) = 1 ∧ j = 0 ∨ bitZ (f.getD k 0) = 2 ∧ j = 1 ∨ bitZ (f.getD k 0) = 4 ∧ j = 2 ∨ bitZ (f.getD k 0) = 8 ∧ j = 3) : (four f k).setIfInBounds j (.int .i64 1) = four f (k + 1) := by
  unfold four
  rw [occ_step 1 h, occ_step 2 h, occ_step 4 h, occ_step 8 h]
  rcases hb with ⟨hb, rfl⟩ | ⟨hb, rfl⟩ | ⟨hb, rfl⟩ | ⟨hb, rfl⟩ <;> rw [hb] <;> simp <;> rfl

set_option maxHeartbeats 4000000 in
theorem sFragmentOf_in (A : Option Addr) (c : Nat) (f : List Int) (w : World) (h : RdI w w.heap.size A f.length f) (hv : validB f = true) :
    Calls Tryz.prog 167 #[.slice A f.length c] w fun e w' => e = .returned (.int .i64 (fragK f f.length)) ∧ Below w.heap.size w w' := by
  have l1 := valid_len hv
  have hl24 : f.length ≤ 24 := l1.2.1
  have HA := Lib.hid (fun k (hk : k < f.length) => valid_at hv hk)
  have H0 : Hid ((w.alloc (.cells #[.int .i64 0, .int .i64 0, .int .i64 0, .int .i64 0] 2)).heap[w.heap.size]? = some (.cells (four f 0) 2 (0, 0))) := by
    have e : four f 0 = #[.int .i64 0, .int .i64 0, .int .i64 0, .int .i64 0] := by simp [four, occ_zero, bz]
    rw [e]; exact heap_alloc_new w _
  have HB0 : Hid (Below w.heap.size w (w.alloc (.cells #[.int .i64 0, .int .i64 0, .int .i64 0, .int .i64 0] 2))) := Lib.hid ((Below.refl _ _).alloc (Nat.le_refl _) _)
  clear l1
  go_enter Tryz.func167, Tryz.ntmps167
  go_wp2_with (go_at_call 189; refine (sValidForm_any _ _ _ f _ h).mono ?_; rintro e w' ⟨rfl, rfl⟩)
  clear hv
  go_loopw [4] (fun i wr => ∃ k : Nat, k ≤ f.length ∧ i = .int .i64 k ∧ wr.heap[w.heap.size]? = some (.cells (four f k) 2 (0, 0)) ∧ Below w.heap.size w wr) (fun i _ => f.length - (intOf i).toNat)
  case atStart => exact ⟨0, Nat.zero_le _, rfl, H0.out, HB0.out⟩
  case round =>
    obtain ⟨k, hk, rfl, hrow, hb⟩ := hrel
    clear H0 HB0
    by_cases hlt : k < f.length
    · obtain ⟨b, off, rfl, hbb, hcells⟩ := h.2 (by omega)
      have hc := (hb.cell (p := ⟨b, off + k, none⟩) hbb).trans (hcells k hlt)
      have hcase := HA.out k hlt
      have H4 := Lib.hid (fun (hb : bitZ (f.getD k 0) = 0) => four_same hlt hb)
      have H5 := Lib.hid (fun (j : Nat) (hb : bitZ (f.getD k 0) = 1 ∧ j = 0 ∨ bitZ (f.getD k 0) = 2 ∧ j = 1 ∨ bitZ (f.getD k 0) = 4 ∧ j = 2 ∨ bitZ (f.getD k 0) = 8 ∧ j = 3) => four_set hlt hb)
      have HC := Lib.hid (fun j => cell_of_row wr w.heap.size j _ _ (0, 0) hrow)
      have HFr := Lib.hid (fun j => frozen_of_row wr w.heap.size j _ _ hrow)
      have HSet := Lib.hid (fun j u => heap_setCell_same wr w.heap.size j _ _ u hrow)
      have HR := Lib.hid hrow
      have HB := Lib.hid hb
      clear hcells hrow hb
      generalize f.getD k 0 = x at hc hcase H4 H5
      rcases hcase with hleaf | ⟨_, hop⟩
      · have hx := leaf_iff.1 hleaf
        have hx1 : x ≤ 8 := by omega
        have HR2 : Hid (wr.heap[w.heap.size]? = some (.cells (four f (k + 1)) 2 (0, 0))) := by rw [← H4.out (bitZ_other (by omega))]; exact HR
        clear hx hleaf
        go_wp2
        go_roundw
        case rel => exact ⟨k + 1, by omega, by go_num, HR2.out, HB.out⟩
        case measure => simp [intOf]; omega
      · have hx := oper_iff.1 hop
        obtain ⟨j, hj4, hjx, hjb⟩ : ∃ j : Nat, j < 4 ∧ (x = 11 + 2 * (j : Int) ∨ x = 12 + 2 * (j : Int)) ∧ (bitZ x = 1 ∧ j = 0 ∨ bitZ x = 2 ∧ j = 1 ∨ bitZ x = 4 ∧ j = 2 ∨ bitZ x = 8 ∧ j = 3) := by
          have : x = 11 ∨ x = 12 ∨ x = 13 ∨ x = 14 ∨ x = 15 ∨ x = 16 ∨ x = 17 ∨ x = 18 := by omega
          rcases this with rfl | rfl | rfl | rfl | rfl | rfl | rfl | rfl
          · exact ⟨0, by decide, .inl rfl, .inl ⟨by decide, rfl⟩⟩
          · exact ⟨0, by decide, .inr rfl, .inl ⟨by decide, rfl⟩⟩
          · exact ⟨1, by decide, .inl rfl, .inr (.inl ⟨by decide, rfl⟩)⟩
          · exact ⟨1, by decide, .inr rfl, .inr (.inl ⟨by decide, rfl⟩)⟩
          · exact ⟨2, by decide, .inl rfl, .inr (.inr (.inl ⟨by decide, rfl⟩))⟩
          · exact ⟨2, by decide, .inr rfl, .inr (.inr (.inl ⟨by decide, rfl⟩))⟩
          · exact ⟨3, by decide, .inl rfl, .inr (.inr (.inr ⟨by decide, rfl⟩))⟩
          · exact ⟨3, by decide, .inr rfl, .inr (.inr (.inr ⟨by decide, rfl⟩))⟩
        have hcell := HC.out j
        obtain ⟨o, ho⟩ : ∃ o, (four f k)[j]? = some o := ⟨_, Array.getElem?_eq_getElem (by show j < 4; exact hj4)⟩
        rw [ho] at hcell
        have hfr := HFr.out j
        have HS := HSet.out j (.int .i64 1)
        rw [H5.out j hjb] at HS
        have HSS := Lib.hid HS
        have HBB := Lib.hid (HB.out.setCell (p := ⟨w.heap.size, j, none⟩) (Nat.le_refl _) (.int .i64 1))
        have hx11 : 11 ≤ x := by omega
        clear HS hjb ho hop hx
        have hmatch : j = 0 ∨ j = 1 ∨ j = 2 ∨ j = 3 := by omega
        rcases hmatch with rfl | rfl | rfl | rfl <;> rcases hjx with rfl | rfl
        all_goals
          go_wp2
          go_roundw
          case rel => exact ⟨k + 1, by omega, by go_num, HSS.out, HBB.out⟩
          case measure => simp [intOf]; omega
    · have hkl : k = f.length := by omega
      subst hkl
      have c0 : wr.cell? ⟨w.heap.size, 0, none⟩ = some (.int .i64 (bz (occ f 1 f.length))) := cell_of_row wr w.heap.size 0 _ _ (0, 0) hrow
      have c1 : wr.cell? ⟨w.heap.size, 1, none⟩ = some (.int .i64 (bz (occ f 2 f.length))) := cell_of_row wr w.heap.size 1 _ _ (0, 0) hrow
      have c2 : wr.cell? ⟨w.heap.size, 2, none⟩ = some (.int .i64 (bz (occ f 4 f.length))) := cell_of_row wr w.heap.size 2 _ _ (0, 0) hrow
      have c3 : wr.cell? ⟨w.heap.size, 3, none⟩ = some (.int .i64 (bz (occ f 8 f.length))) := cell_of_row wr w.heap.size 3 _ _ (0, 0) hrow
      have HV : Hid (fragK f f.length = bz (occ f 1 f.length) + 2 * bz (occ f 2 f.length) + 4 * bz (occ f 4 f.length) + 8 * bz (occ f 8 f.length)) := Lib.hid rfl
      have hbz : ∀ b : Bool, 0 ≤ bz b ∧ bz b ≤ 1 := fun b => by cases b <;> decide
      have b0 := hbz (occ f 1 f.length); have b1 := hbz (occ f 2 f.length); have b2 := hbz (occ f 4 f.length); have b3 := hbz (occ f 8 f.length)
      generalize bz (occ f 1 f.length) = p0 at *
      generalize bz (occ f 2 f.length) = p1 at *
      generalize bz (occ f 4 f.length) = p2 at *
      generalize bz (occ f 8 f.length) = p3 at *
      have HB := Lib.hid hb
      have e1 : IntKind.i64.wrap (2 * p1) = 2 * p1 := IntWalk.i64_in _ (by omega)
      have e2 : IntKind.i64.wrap (p0 + 2 * p1) = p0 + 2 * p1 := IntWalk.i64_in _ (by omega)
      have e3 : IntKind.i64.wrap (4 * p2) = 4 * p2 := IntWalk.i64_in _ (by omega)
      have e4 : IntKind.i64.wrap (p0 + 2 * p1 + 4 * p2) = p0 + 2 * p1 + 4 * p2 := IntWalk.i64_in _ (by omega)
      have e5 : IntKind.i64.wrap (8 * p3) = 8 * p3 := IntWalk.i64_in _ (by omega)
      have e6 : IntKind.i64.wrap (p0 + 2 * p1 + 4 * p2 + 8 * p3) = p0 + 2 * p1 + 4 * p2 + 8 * p3 := IntWalk.i64_in _ (by omega)
      clear hrow hb hbz HA
      go_wp2
      go_quiet (fail)
      go_wp2
      go_ret
      exact ⟨ret_i64 HV.out.symm, below_drewN HB.out _⟩

set_option maxHeartbeats 400000 in
theorem sFragmentOf_any (A : Option Addr) (n c : Nat) (f : List Int) (w : World) (h : RdI w w.heap.size A n f) :
    Calls Tryz.prog 167 #[.slice A n c] w fun e w' => e = .returned (.int .i64 (fragV f)) ∧ Below w.heap.size w w' := by
  have hl := h.len
  subst hl
  cases hv : validB f with
  | true => rw [fragV_yes hv]; exact sFragmentOf_in A c f w h hv
  | false =>
    rw [fragV_no hv]
    go_enter Tryz.func167, Tryz.ntmps167
    go_wp2_with (go_at_call 189; refine (sValidForm_any _ _ _ f _ h).mono ?_; rintro e w' ⟨rfl, rfl⟩)
    go_ret
    exact ⟨rfl, Below.refl _ _⟩
end
section
open Go.ChangeAt Go.ChangeShapes Go.RowKit Go.WideShapes

/-- A formula of a net. -/
def formN (q : List Int) : Bool := decide (0 ≤ fragV q ∧ fragV q ≤ 1)
theorem formN_valid {q : List Int} (h : formN q = true) : validB q = true := by
  cases hv : validB q with
  | true => rfl
  | false => unfold formN at h; rw [fragV_no hv] at h; simp at h
/-- A number below n. -/
def inW (n : Nat) (x : Int) : Bool := decide (0 ≤ x ∧ x ≤ (n : Int) - 1)
theorem inW_yes {n : Nat} {x : Int} (h : inW n x = true) : 0 ≤ x ∧ x.toNat < n ∧ x = (x.toNat : Nat) := by
  have := of_decide_eq_true h
  omega
/-- The formula of a wire. -/
def wAt (ws : List (List Int)) (x : Int) : List Int := ws.getD x.toNat []
theorem wAt_valid {ws : List (List Int)} {x : Int} (hf : ws.all formN = true) (h : inW ws.length x = true) : formN (wAt ws x) = true := by
  obtain ⟨_, h1, _⟩ := inW_yes h
  exact (List.all_eq_true.1 hf) _ (getD_mem h1)
/-- What the formulas of a link must be. -/
def rightN (ws : List (List Int)) (l : Lk) : Bool :=
  if l.k = 1 ∨ l.k = 2 then decide (l.c = 0) && decide (wAt ws l.b = (wAt ws l.a).map duZ)
  else if l.k = 3 then decide (wAt ws l.c = 11 :: (wAt ws l.a ++ wAt ws l.b))
  else if l.k = 4 then decide (wAt ws l.c = 12 :: (wAt ws l.a ++ wAt ws l.b)) else false
def fitsN (ws : List (List Int)) (l : Lk) : Bool := inW ws.length l.a && (inW ws.length l.b && (inW ws.length l.c && rightN ws l))
theorem fitsN_yes {ws : List (List Int)} {l : Lk} (h : fitsN ws l = true) : inW ws.length l.a = true ∧ inW ws.length l.b = true ∧ inW ws.length l.c = true ∧ rightN ws l = true := by
  simp only [fitsN, Bool.and_eq_true] at h
  exact h
theorem fitsN_kind {ws : List (List Int)} {l : Lk} (h : fitsN ws l = true) : l.k = 1 ∨ l.k = 2 ∨ l.k = 3 ∨ l.k = 4 := by
  have := (fitsN_yes h).2.2.2
  unfold rightN at this
  by_cases h1 : l.k = 1 ∨ l.k = 2
  · omega
  · rw [if_neg h1] at this
    by_cases h3 : l.k = 3
    · omega
    · rw [if_neg h3] at this
      by_cases h4 : l.k = 4
      · omega
      · rw [if_neg h4] at this; cases this
/-- One, if. -/
def one (p : Prop) [Decidable p] : Int := if p then 1 else 0
theorem one_le (p : Prop) [Decidable p] : 0 ≤ one p ∧ one p ≤ 1 := by unfold one; split <;> omega
/-- How often a link makes, or uses, a wire. -/
def mk1 (l : Lk) (x : Nat) : Int := if l.k = 1 then one (l.a.toNat = x) + one (l.b.toNat = x) else if l.k = 2 then 0 else one (l.c.toNat = x)
def us1 (l : Lk) (x : Nat) : Int := if l.k = 1 then 0 else one (l.a.toNat = x) + one (l.b.toNat = x)
theorem mk1_le (l : Lk) (x : Nat) : 0 ≤ mk1 l x ∧ mk1 l x ≤ 2 := by
  have h1 := one_le (l.a.toNat = x); have h2 := one_le (l.b.toNat = x); have h3 := one_le (l.c.toNat = x)
  unfold mk1; split
  · omega
  · split <;> omega
theorem us1_le (l : Lk) (x : Nat) : 0 ≤ us1 l x ∧ us1 l x ≤ 2 := by
  have h1 := one_le (l.a.toNat = x); have h2 := one_le (l.b.toNat = x)
  unfold us1; split <;> omega
def madeN (ls : List Lk) (x : Nat) : Int := (ls.map fun l => mk1 l x).sum
def usedN (ls : List Lk) (x : Nat) : Int := (ls.map fun l => us1 l x).sum
def concN (cs : List Int) (x : Nat) : Int := (cs.map fun c => one (c.toNat = x)).sum
theorem getL_mem {α : Type} {d : α} {l : List α} {k : Nat} (h : k < l.length) : l.getD k d ∈ l := by
  simp [List.getD, h]
theorem takeL_succ {α : Type} {d : α} {l : List α} {k : Nat} (h : k < l.length) : l.take (k + 1) = l.take k ++ [l.getD k d] := by
  rw [List.take_succ_eq_append_getElem h]
  simp [List.getD, h]
theorem madeN_step {ls : List Lk} {k : Nat} (h : k < ls.length) (x : Nat) : madeN (ls.take (k + 1)) x = madeN (ls.take k) x + mk1 (ls.getD k Lk.nil) x := by
  rw [takeL_succ (d := Lk.nil) h]; simp [madeN]
theorem usedN_step {ls : List Lk} {k : Nat} (h : k < ls.length) (x : Nat) : usedN (ls.take (k + 1)) x = usedN (ls.take k) x + us1 (ls.getD k Lk.nil) x := by
  rw [takeL_succ (d := Lk.nil) h]; simp [usedN]
theorem concN_step {cs : List Int} {k : Nat} (h : k < cs.length) (x : Nat) : concN (cs.take (k + 1)) x = concN (cs.take k) x + one ((cs.getD k 0).toNat = x) := by
  rw [takeL_succ (d := 0) h]; simp [concN]
theorem madeN_le (ls : List Lk) (x : Nat) : 0 ≤ madeN ls x ∧ madeN ls x ≤ 2 * (ls.length : Int) := by
  induction ls with
  | nil => simp [madeN]
  | cons l ls ih =>
    have := mk1_le l x
    simp only [madeN, List.map_cons, List.sum_cons, List.length_cons] at ih ⊢
    omega
theorem usedN_le (ls : List Lk) (x : Nat) : 0 ≤ usedN ls x ∧ usedN ls x ≤ 2 * (ls.length : Int) := by
  induction ls with
  | nil => simp [usedN]
  | cons l ls ih =>
    have := us1_le l x
    simp only [usedN, List.map_cons, List.sum_cons, List.length_cons] at ih ⊢
    omega
theorem concN_le (cs : List Int) (x : Nat) : 0 ≤ concN cs x ∧ concN cs x ≤ (cs.length : Int) := by
  induction cs with
  | nil => simp [concN]
  | cons c cs ih =>
    have := one_le (c.toNat = x)
    simp only [concN, List.map_cons, List.sum_cons, List.length_cons] at ih ⊢
    omega
/-- A row of counts. -/
def cnts (n : Nat) (f : Nat → Int) : List Int := (List.range n).map f
theorem cnts_len (n : Nat) (f : Nat → Int) : (cnts n f).length = n := by simp [cnts]
theorem cnts_at {n : Nat} {f : Nat → Int} {i : Nat} (h : i < n) : (cnts n f).getD i 0 = f i := by simp [cnts, List.getD, h]
theorem cnts_ext {n : Nat} {f g : Nat → Int} (h : ∀ x, x < n → f x = g x) : cnts n f = cnts n g := by
  apply List.map_congr_left
  intro x hx
  exact h x (List.mem_range.1 hx)
theorem cnts_zero (n : Nat) : List.replicate n (0 : Int) = cnts n fun _ => 0 := by
  apply List.ext_getElem?
  intro i
  by_cases h : i < n <;> simp [cnts, h]
theorem cnts_bump {n : Nat} {f : Nat → Int} {i : Nat} (h : i < n) : (cnts n f).set i (f i + 1) = cnts n fun x => f x + one (i = x) := by
  apply List.ext_getElem?
  intro j
  by_cases hj : j < n
  · by_cases e : i = j
    · subst e
      rw [List.getElem?_set_self (by rw [cnts_len]; exact hj)]
      simp [cnts, one, h]
    · rw [List.getElem?_set_ne e]
      simp [cnts, one, hj, e]
  · rw [List.getElem?_eq_none (by rw [List.length_set, cnts_len]; omega), List.getElem?_eq_none (by rw [cnts_len]; omega)]
/-- The net is valid. -/
def evenN (N : Nt) : Bool := (List.range N.w.length).all fun x => decide (madeN N.l x = 1 ∧ usedN N.l x + concN N.c x = 1)
def valN (N : Nt) : Bool := decide (N.w.length ≤ 48 ∧ N.l.length ≤ 48) && (N.w.all formN && (N.l.all (fitsN N.w) && (N.c.all (inW N.w.length) && evenN N)))
section
variable {N : Nt}
theorem valN_size (h : valN N = true) : N.w.length ≤ 48 ∧ N.l.length ≤ 48 := by
  simp only [valN, Bool.and_eq_true] at h
  exact of_decide_eq_true h.1
theorem valN_forms (h : valN N = true) : N.w.all formN = true := by simp only [valN, Bool.and_eq_true] at h; exact h.2.1
theorem valN_fits (h : valN N = true) : N.l.all (fitsN N.w) = true := by simp only [valN, Bool.and_eq_true] at h; exact h.2.2.1
theorem valN_even (h : valN N = true) : evenN N = true := by simp only [valN, Bool.and_eq_true] at h; exact h.2.2.2.2
theorem valN_great (h : 48 < N.w.length ∨ 48 < N.l.length) : valN N = false := by unfold valN; rw [decide_eq_false (by omega)]; rfl
theorem all_bad {α : Type} {p : α → Bool} {l : List α} {k : Nat} {d : α} (h : k < l.length) (hb : p (l.getD k d) = false) : l.all p = false := by
  rw [List.all_eq_false]
  exact ⟨_, getL_mem h, by rw [hb]; decide⟩
theorem all_step {α : Type} {p : α → Bool} {l : List α} {k : Nat} {d : α} (h : k < l.length) (ha : (l.take k).all p = true) (hb : p (l.getD k d) = true) : (l.take (k + 1)).all p = true := by
  rw [takeL_succ (d := d) h, List.all_append, ha, List.all_cons, hb]; rfl
theorem all_at {α : Type} {p : α → Bool} {l : List α} {k : Nat} {d : α} (ha : l.all p = true) (h : k < l.length) : p (l.getD k d) = true := (List.all_eq_true.1 ha) _ (getL_mem h)
theorem valN_badw {k : Nat} (h : k < N.w.length) (hb : formN (N.w.getD k []) = false) : valN N = false := by unfold valN; rw [all_bad h hb]; simp
theorem valN_badl {k : Nat} (h : k < N.l.length) (hb : fitsN N.w (N.l.getD k Lk.nil) = false) : valN N = false := by unfold valN; rw [all_bad h hb]; simp
theorem valN_badc {k : Nat} (h : k < N.c.length) (hb : inW N.w.length (N.c.getD k 0) = false) : valN N = false := by unfold valN; rw [all_bad h hb]; simp
theorem valN_uneven {x : Nat} (h : x < N.w.length) (hb : ¬ (madeN N.l x = 1 ∧ usedN N.l x + concN N.c x = 1)) : valN N = false := by
  have : evenN N = false := by
    unfold evenN
    rw [List.all_eq_false]
    exact ⟨x, List.mem_range.2 h, by simpa using hb⟩
  unfold valN; rw [this]; simp
theorem valN_yes (h1 : N.w.length ≤ 48 ∧ N.l.length ≤ 48) (h2 : N.w.all formN = true) (h3 : N.l.all (fitsN N.w) = true) (h4 : N.c.all (inW N.w.length) = true) (h5 : ∀ x, x < N.w.length → madeN N.l x = 1 ∧ usedN N.l x + concN N.c x = 1) : valN N = true := by
  have : evenN N = true := by
    unfold evenN
    rw [List.all_eq_true]
    intro x hx
    exact decide_eq_true (h5 x (List.mem_range.1 hx))
  unfold valN; rw [decide_eq_true h1, h2, h3, h4, this]; rfl
theorem valN_at (h : valN N = true) {x : Nat} (hx : x < N.w.length) : madeN N.l x = 1 ∧ usedN N.l x + concN N.c x = 1 := by
  have := (List.all_eq_true.1 (valN_even h)) x (List.mem_range.2 hx)
  exact of_decide_eq_true this
theorem sum_zero (n : Nat) : ((List.range n).map fun _ => (0 : Int)).sum = 0 := by
  induction n with
  | zero => rfl
  | succ n ih => rw [List.range_succ, List.map_append, List.sum_append, ih]; rfl
theorem sum_one {n a : Nat} (h : a < n) : ((List.range n).map fun x => one (a = x)).sum = 1 := by
  induction n with
  | zero => omega
  | succ n ih =>
    rw [List.range_succ, List.map_append, List.sum_append]
    by_cases e : a = n
    · subst e
      have : ((List.range a).map fun x => one (a = x)) = (List.range a).map fun _ => (0 : Int) := by
        apply List.map_congr_left
        intro x hx
        have := List.mem_range.1 hx
        unfold one; rw [if_neg (by omega)]
      rw [this, sum_zero]
      simp [one]
    · rw [ih (by omega)]
      simp [one, e]
end
end
section
open Go.ChangeAt Go.ChangeShapes Go.RowKit Go.WideShapes

theorem szL_any (A : Option Addr) (n c : Nat) (left : Int) (w : World) (hn : n ≤ maxLen) (h0 : 0 ≤ left) (h1 : left ≤ 1073741824) :
    Calls Tryz.prog 43 #[.slice A n c, .int .i64 left] w fun e w' => e = .returned (.int .i64 (szR left n)) ∧ w = w' := by
  unfold maxLen at hn
  by_cases hc : left - n < 0
  · have HE : Hid ((-1 : Int) = szR left n) := Lib.hid (szR_neg (by omega)).symm
    have hd : decide (left - (n : Int) < 0) = true := decide_eq_true hc
    go_enter Tryz.func43, Tryz.ntmps43
    go_wp2
    go_ret
    exact ⟨ret_i64 HE.out, rfl⟩
  · have HE : Hid (left - (n : Int) = szR left n) := Lib.hid (szR_pos (by omega)).symm
    have hd : decide (left - (n : Int) < 0) = false := decide_eq_false hc
    go_enter Tryz.func43, Tryz.ntmps43
    go_wp2
    go_ret
    exact ⟨ret_i64 HE.out, rfl⟩
theorem szI_any (A : Option Addr) (n c : Nat) (left : Int) (w : World) (hn : n ≤ maxLen) (h0 : 0 ≤ left) (h1 : left ≤ 1073741824) :
    Calls Tryz.prog 44 #[.slice A n c, .int .i64 left] w fun e w' => e = .returned (.int .i64 (szR left n)) ∧ w = w' := by
  unfold maxLen at hn
  by_cases hc : left - n < 0
  · have HE : Hid ((-1 : Int) = szR left n) := Lib.hid (szR_neg (by omega)).symm
    have hd : decide (left - (n : Int) < 0) = true := decide_eq_true hc
    go_enter Tryz.func44, Tryz.ntmps44
    go_wp2
    go_ret
    exact ⟨ret_i64 HE.out, rfl⟩
  · have HE : Hid (left - (n : Int) = szR left n) := Lib.hid (szR_pos (by omega)).symm
    have hd : decide (left - (n : Int) < 0) = false := decide_eq_false hc
    go_enter Tryz.func44, Tryz.ntmps44
    go_wp2
    go_ret
    exact ⟨ret_i64 HE.out, rfl⟩
/-- The size of a net. -/
def nsz (N : Nt) : Nat := N.w.length + total N.w + N.l.length + N.c.length
theorem box3_any (w : World) (a b c : Value) (t : TypeId) : Below w.heap.size w (w.alloc (.cells #[a, b, c] t)) ∧ (w.alloc (.cells #[a, b, c] t)).heap[w.heap.size]? = some (.cells #[a, b, c] t (0, 0)) ∧ (w.alloc (.cells #[a, b, c] t)).heap.size = w.heap.size + 1 :=
  ⟨(Below.refl _ _).alloc (Nat.le_refl _) _, heap_alloc_new _ _, by simp⟩
/-- The three cells of a net. -/
theorem three_cells {w : World} {b : Nat} {a0 a1 a2 : Value} {t : TypeId} (h : w.heap[b]? = some (.cells #[a0, a1, a2] t (0, 0))) :
    w.cell? ⟨b, 0, none⟩ = some a0 ∧ w.cell? ⟨b, 1, none⟩ = some a1 ∧ w.cell? ⟨b, 2, none⟩ = some a2 :=
  ⟨cell_of_row _ _ 0 _ _ (0, 0) h, cell_of_row _ _ 1 _ _ (0, 0) h, cell_of_row _ _ 2 _ _ (0, 0) h⟩
set_option maxHeartbeats 1000000 in
theorem szN_any (h : NH) (N : Nt) (left : Int) (w : World) (r : RdN w w.heap.size h N) (hq : ∀ q ∈ N.w, q.length ≤ maxLen) (hn : N.w.length ≤ maxLen) (hl : N.l.length ≤ maxLen) (hc : N.c.length ≤ maxLen) (h0 : 0 ≤ left) (h1 : left ≤ 1073741824) :
    Calls Tryz.prog 13 #[.agg #[.slice h.A N.w.length h.c, .slice h.L N.l.length h.d, .slice h.C N.c.length h.e], .int .i64 left] w fun e w' => e = .returned (.int .i64 (szR left (nsz N))) ∧ Below w.heap.size w w' := by
  obtain ⟨A, c, hs, L, d, C, e0⟩ := h
  obtain ⟨ws, ls, cs⟩ := N
  obtain ⟨w0, hw0⟩ : ∃ w0, w0 = w.alloc (.cells #[.slice A ws.length c, .slice L ls.length d, .slice C cs.length e0] 26) := ⟨_, rfl⟩
  obtain ⟨hb, hh, hsz⟩ := box3_any w (.slice A ws.length c) (.slice L ls.length d) (.slice C cs.length e0) 26
  rw [← hw0] at hb hh hsz
  obtain ⟨y0, y1, y2⟩ := three_cells hh
  have HS := Lib.hid (szSS_any A ws.length c ws left w0 _ (r.1.below hb) hq hn h0 h1)
  have HB := Lib.hid hb
  have hez : nsz ⟨ws, ls, cs⟩ = ws.length + total ws + ls.length + cs.length := rfl
  have HEZ := Lib.hid hez
  clear r hb hh hq hsz hez
  dsimp only at hn hl hc ⊢
  rw [HEZ.out]
  generalize total ws = T at *
  by_cases c1 : left - (ws.length + T : Nat) < 0
  · rw [szR_neg c1] at HS
    have HE : Hid ((-1 : Int) = szR left (ws.length + T + ls.length + cs.length)) := Lib.hid (szR_neg (by omega)).symm
    clear c1
    go_enter Tryz.func13, Tryz.ntmps13
    go_wp2_with (fail)
    rw [← hw0]
    clear hw0
    refine HS.out.mono ?_
    rintro e w' ⟨rfl, rfl⟩
    go_wp2
    go_ret
    exact ⟨ret_i64 HE.out, HB.out⟩
  · rw [szR_pos c1] at HS
    obtain ⟨M, hM⟩ : ∃ M : Int, left - (ws.length + T : Nat) = M := ⟨_, rfl⟩
    rw [hM] at HS
    have HSL := Lib.hid (szL_any L ls.length d M w0 hl (by omega) (by omega))
    have hd1 : decide (M < 0) = false := decide_eq_false (by omega)
    by_cases c2 : M - ls.length < 0
    · rw [szR_neg c2] at HSL
      have HE : Hid ((-1 : Int) = szR left (ws.length + T + ls.length + cs.length)) := Lib.hid (szR_neg (by omega)).symm
      clear c1 c2 hM
      go_enter Tryz.func13, Tryz.ntmps13
      go_wp2_with (fail)
      rw [← hw0]
      clear hw0
      refine HS.out.mono ?_
      rintro e w' ⟨rfl, rfl⟩
      go_wp2_with (fail)
      refine HSL.out.mono ?_
      rintro e w' ⟨rfl, rfl⟩
      go_wp2
      go_ret
      exact ⟨ret_i64 HE.out, HB.out⟩
    · rw [szR_pos c2] at HSL
      obtain ⟨M2, hM2⟩ : ∃ M2 : Int, M - ls.length = M2 := ⟨_, rfl⟩
      rw [hM2] at HSL
      have HSI := Lib.hid (szI_any C cs.length e0 M2 w0 hc (by omega) (by omega))
      have hd2 : decide (M2 < 0) = false := decide_eq_false (by omega)
      have HE : Hid (szR M2 cs.length = szR left (ws.length + T + ls.length + cs.length)) := Lib.hid (by
        unfold szR
        rw [show left - ((ws.length + T + ls.length + cs.length : Nat) : Int) = M2 - (cs.length : Nat) by omega])
      clear c1 c2 hM hM2
      generalize szR M2 cs.length = R at *
      by_cases c3 : R < 0
      · have hd3 : decide (R < 0) = true := decide_eq_true c3
        have HR : Hid ((-1 : Int) = R) := Lib.hid (by
          have := HE.out
          unfold szR at this
          by_cases h5 : left - (ws.length + T + ls.length + cs.length : Nat) < 0
          · rw [if_pos h5] at this; exact this.symm
          · rw [if_neg h5] at this; omega)
        clear c3
        go_enter Tryz.func13, Tryz.ntmps13
        go_wp2_with (fail)
        rw [← hw0]
        clear hw0
        refine HS.out.mono ?_
        rintro e w' ⟨rfl, rfl⟩
        go_wp2_with (fail)
        refine HSL.out.mono ?_
        rintro e w' ⟨rfl, rfl⟩
        go_wp2_with (fail)
        refine HSI.out.mono ?_
        rintro e w' ⟨rfl, rfl⟩
        go_wp2
        go_ret
        exact ⟨ret_i64 (HR.out.trans HE.out), HB.out⟩
      · have hd3 : decide (R < 0) = false := decide_eq_false c3
        clear c3
        go_enter Tryz.func13, Tryz.ntmps13
        go_wp2_with (fail)
        rw [← hw0]
        clear hw0
        refine HS.out.mono ?_
        rintro e w' ⟨rfl, rfl⟩
        go_wp2_with (fail)
        refine HSL.out.mono ?_
        rintro e w' ⟨rfl, rfl⟩
        go_wp2_with (fail)
        refine HSI.out.mono ?_
        rintro e w' ⟨rfl, rfl⟩
        go_wp2
        go_ret
        exact ⟨ret_i64 HE.out, HB.out⟩
/-- A link copied. -/
theorem set4_at {w : World} {b : Nat} {c0 c1 c2 c3 : Value} {t : TypeId} (h : w.heap[b]? = some (.cells #[c0, c1, c2, c3] t (0, 0))) (v0 v1 v2 v3 : Value) :
    ((((w.setCell ⟨b, 0, none⟩ v0).setCell ⟨b, 1, none⟩ v1).setCell ⟨b, 2, none⟩ v2).setCell ⟨b, 3, none⟩ v3).heap[b]? = some (.cells #[v0, v1, v2, v3] t (0, 0)) := by
  have h0 := heap_setCell_same w b 0 _ t v0 h
  have h1 := heap_setCell_same _ b 1 _ t v1 h0
  have h2 := heap_setCell_same _ b 2 _ t v2 h1
  have h3 := heap_setCell_same _ b 3 _ t v3 h2
  simpa using h3
theorem set4_below {w0 w : World} {B b : Nat} (h : Below B w0 w) (hb : B ≤ b) (v0 v1 v2 v3 : Value) : Below B w0 ((((w.setCell ⟨b, 0, none⟩ v0).setCell ⟨b, 1, none⟩ v1).setCell ⟨b, 2, none⟩ v2).setCell ⟨b, 3, none⟩ v3) :=
  (((h.setCell (p := ⟨b, 0, none⟩) hb v0).setCell (p := ⟨b, 1, none⟩) hb v1).setCell (p := ⟨b, 2, none⟩) hb v2).setCell (p := ⟨b, 3, none⟩) hb v3
theorem toLk_any (x : Lk) (w : World) :
    Calls Tryz.prog 101 #[.agg #[.int .i64 x.k, .int .i64 x.a, .int .i64 x.b, .int .i64 x.c]] w fun e w' => e = .returned (.agg #[.int .i64 x.k, .int .i64 x.a, .int .i64 x.b, .int .i64 x.c]) ∧ Below w.heap.size w w' := by
  obtain ⟨k, a, b, c⟩ := x
  dsimp only
  go_enter Tryz.func101, Tryz.ntmps101
  go_wp2
  (try simp only [Exit.inBlock, Exit.then])
  refine bodyPost_ret (results_cell_row rfl _ _ (w.heap.size + 1) _ _ (0, 0) _ rfl (heap_two _ _ _ _) Tryz.underlying103 rfl (by kernel_rfl)) rfl ?_
  exact ⟨rfl, (((Below.refl _ _).alloc (Nat.le_refl _) _).alloc (by simp) _).alloc (by simp; omega) _⟩
/-- Four cells of a row stored, one after another. -/
def fourW (w : World) (b o : Nat) (v0 v1 v2 v3 : Value) : World := (((w.setCell ⟨b, o, none⟩ v0).setCell ⟨b, o + 1, none⟩ v1).setCell ⟨b, o + 2, none⟩ v2).setCell ⟨b, o + 3, none⟩ v3
def put4 (xs : List Value) (o : Nat) (v0 v1 v2 v3 : Value) : List Value := (((xs.set o v0).set (o + 1) v1).set (o + 2) v2).set (o + 3) v3
theorem put4_len (xs : List Value) (o : Nat) (v0 v1 v2 v3 : Value) : (put4 xs o v0 v1 v2 v3).length = xs.length := by simp [put4]
theorem put4_at {xs : List Value} {o : Nat} (h : o + 4 ≤ xs.length) (v0 v1 v2 v3 : Value) : (put4 xs o v0 v1 v2 v3)[o]? = some v0 ∧ (put4 xs o v0 v1 v2 v3)[o + 1]? = some v1 ∧ (put4 xs o v0 v1 v2 v3)[o + 2]? = some v2 ∧ (put4 xs o v0 v1 v2 v3)[o + 3]? = some v3 := by
  unfold put4
  refine ⟨?_, ?_, ?_, ?_⟩
  · rw [List.getElem?_set_ne (by omega), List.getElem?_set_ne (by omega), List.getElem?_set_ne (by omega), List.getElem?_set_self (by omega)]
  · rw [List.getElem?_set_ne (by omega), List.getElem?_set_ne (by omega), List.getElem?_set_self (by simp; omega)]
  · rw [List.getElem?_set_ne (by omega), List.getElem?_set_self (by simp; omega)]
  · rw [List.getElem?_set_self (by simp; omega)]
theorem put4_far {xs : List Value} {o j : Nat} (h : j < o ∨ o + 4 ≤ j) (v0 v1 v2 v3 : Value) : (put4 xs o v0 v1 v2 v3)[j]? = xs[j]? := by
  unfold put4
  rw [List.getElem?_set_ne (by omega), List.getElem?_set_ne (by omega), List.getElem?_set_ne (by omega), List.getElem?_set_ne (by omega)]
theorem four_own {w : World} {base g n cap o : Nat} {e : TypeId} {xs : List Value} (h : w.ownsRow base e 4 (.slice (some ⟨g, 0, none⟩) n cap) n xs) (v0 v1 v2 v3 : Value) :
    (fourW w g o v0 v1 v2 v3).ownsRow base e 4 (.slice (some ⟨g, 0, none⟩) n cap) n (put4 xs o v0 v1 v2 v3) ∧ w.grownBy (fourW w g o v0 v1 v2 v3) (some g) := by
  have h0 := h.stored o v0
  have h1 := h0.1.stored (o + 1) v1
  have h2 := h1.1.stored (o + 2) v2
  have h3 := h2.1.stored (o + 3) v3
  exact ⟨h3.1, grownBy_trans (grownBy_trans (grownBy_trans h0.2 h1.2) h2.2) h3.2⟩
/-- The first k links of a row that is being filled. -/
def Upto4 (xs : List Value) (ls : List Lk) (k : Nat) : Prop := xs.length = ls.length * 4 ∧ ∀ j, j < k * 4 → xs[j]? = some (.int .i64 ((flL ls).getD j 0))
theorem Upto4.step {xs : List Value} {ls : List Lk} {k : Nat} (h : Upto4 xs ls k) (hk : k < ls.length) : Upto4 (put4 xs (k * 4) (.int .i64 (ls.getD k Lk.nil).k) (.int .i64 (ls.getD k Lk.nil).a) (.int .i64 (ls.getD k Lk.nil).b) (.int .i64 (ls.getD k Lk.nil).c)) ls (k + 1) := by
  obtain ⟨hl, hc⟩ := h
  refine ⟨by rw [put4_len]; exact hl, fun j hj => ?_⟩
  obtain ⟨f0, f1, f2, f3⟩ := flL_at ls k hk
  obtain ⟨p0, p1, p2, p3⟩ := put4_at (xs := xs) (o := k * 4) (by omega) (.int .i64 (ls.getD k Lk.nil).k) (.int .i64 (ls.getD k Lk.nil).a) (.int .i64 (ls.getD k Lk.nil).b) (.int .i64 (ls.getD k Lk.nil).c)
  by_cases e : j < k * 4
  · rw [put4_far (.inl e)]; exact hc j e
  · have : j = k * 4 ∨ j = k * 4 + 1 ∨ j = k * 4 + 2 ∨ j = k * 4 + 3 := by omega
    rcases this with rfl | rfl | rfl | rfl
    · rw [p0, f0]
    · rw [p1, f1]
    · rw [p2, f2]
    · rw [p3, f3]
theorem Upto4.done {xs : List Value} {ls : List Lk} (h : Upto4 xs ls ls.length) : xs = (flL ls).map (Value.int .i64) := by
  obtain ⟨hl, hc⟩ := h
  apply List.ext_getElem?
  intro j
  by_cases e : j < ls.length * 4
  · rw [hc j e]
    simp [List.getD, flL_len, e]
  · rw [List.getElem?_eq_none (by omega), List.getElem?_eq_none (by rw [List.length_map, flL_len]; omega)]
theorem info_link : (Tryz.prog.info? 103).map (fun i => (i.zero, i.size, i.bytes)) = some (some (.agg #[.int .i64 0, .int .i64 0, .int .i64 0, .int .i64 0]), 4, 32) := by kernel_rfl
theorem info_parts_link : ∃ i, Tryz.prog.info? 103 = some i ∧ i.zero = some (.agg #[.int .i64 0, .int .i64 0, .int .i64 0, .int .i64 0]) ∧ i.size = 4 ∧ i.bytes = 32 := by
  obtain ⟨i, hi, he⟩ := Option.map_eq_some_iff.1 info_link
  simp only [Prod.mk.injEq] at he
  exact ⟨i, hi, he.1, he.2.1, he.2.2⟩
set_option maxHeartbeats 4000000 in
theorem toLS_any (A : Option Addr) (n c : Nat) (ls : List Lk) (w : World) (h : RdL w w.heap.size A n ls) (hn : n ≤ 1048576) :
    Calls Tryz.prog 48 #[.slice A n c] w fun e w' => e = .returned (.slice (some ⟨w.heap.size, 0, none⟩) n n) ∧ w'.ownsRow w.heap.size 103 4 (.slice (some ⟨w.heap.size, 0, none⟩) n n) n ((flL ls).map (Value.int .i64)) ∧ Below w.heap.size w w' := by
  obtain ⟨i0, hi0, hz0, hz1, hz2⟩ := info_parts_link
  have hl := h.len
  subst hl
  have b2 : i0.bytes * ls.length ≤ 281474976710656 := by rw [hz2]; omega
  have b3 : ls.length ≤ maxLen := by unfold maxLen; omega
  go_enter Tryz.func48, Tryz.ntmps48
  go_wp2_with (at_make; refine wpList_make_full _ rfl _ _ _ rfl w.heap.size 103 i0 (.agg #[.int .i64 0, .int .i64 0, .int .i64 0, .int .i64 0]) 4 Tryz.underlying28 hi0 hz0 hz1 _ _ _ _ ls.length rfl rfl rfl rfl b2 b3 (Nat.le_refl _) ?_; intro w1 hown hg)
  have hbel : Below w.heap.size w w1 := (Below.refl _ _).grown hg (Nat.le_refl _) (by intro k hk; cases hk)
  obtain ⟨xs, hxs, hxl⟩ : ∃ xs : List Value, w1.ownsRow w.heap.size 103 4 (.slice (some ⟨w.heap.size, 0, none⟩) ls.length ls.length) ls.length xs ∧ xs.length = ls.length * 4 := ⟨_, hown, hown.1⟩
  have HO := Lib.hid hxs
  have HU : Hid (Upto4 xs ls 0) := Lib.hid ⟨hxl, fun j hj => absurd hj (by omega)⟩
  have HB := Lib.hid hbel
  have HR := Lib.hid h
  clear hg hown b2 b3 hi0 hz0 hz1 hz2 hbel hxs hxl h
  go_loopw [4] (fun i wr => ∃ (k : Nat) (xs : List Value), k ≤ ls.length ∧ i = .int .i64 k ∧ Upto4 xs ls k ∧ wr.ownsRow w.heap.size 103 4 (.slice (some ⟨w.heap.size, 0, none⟩) ls.length ls.length) ls.length xs ∧ Below w.heap.size w wr) (fun i _ => ls.length - (intOf i).toNat)
  case atStart => exact ⟨0, xs, Nat.zero_le _, rfl, HU.out, HO.out, HB.out⟩
  case round =>
    obtain ⟨k, ys, hk, rfl, hU, hO, hB⟩ := hrel
    clear HU HO HB
    by_cases hlt : k < ls.length
    · obtain ⟨b, off, rfl, hbb, hcells⟩ := HR.out.at (by omega)
      obtain ⟨x0, x1, x2, x3⟩ := hcells k hlt
      have hblt := hbb
      replace x0 := (hB.cell (p := ⟨b, off + k * 4, none⟩) hbb).trans x0
      replace x1 := (hB.cell (p := ⟨b, off + k * 4 + 1, none⟩) hbb).trans x1
      replace x2 := (hB.cell (p := ⟨b, off + k * 4 + 2, none⟩) hbb).trans x2
      replace x3 := (hB.cell (p := ⟨b, off + k * 4 + 3, none⟩) hbb).trans x3
      have HT := Lib.hid (toLk_any (ls.getD k Lk.nil) wr)
      have HS := Lib.hid (hU.step hlt)
      have HO := Lib.hid hO; have HB := Lib.hid hB
      have hyl := hU.1
      clear hcells hU hO hB
      generalize (ls.getD k Lk.nil).k = sk at *; generalize (ls.getD k Lk.nil).a = sa at *; generalize (ls.getD k Lk.nil).b = sb at *; generalize (ls.getD k Lk.nil).c = sc at *
      go_wp2_with (fail)
      refine HT.out.mono ?_
      rintro e w2 ⟨rfl, bel⟩
      have o2 := own_below HO.out bel (Nat.le_refl _)
      have B2 := Lib.hid (HB.out.trans (bel.mono HB.out.size))
      obtain ⟨q1, q2⟩ := four_own (o := k * 4) o2 (.int .i64 sk) (.int .i64 sa) (.int .i64 sb) (.int .i64 sc)
      have HQ1 := Lib.hid q1
      have HQ2 := Lib.hid (B2.out.grown q2 B2.out.size (by intro r hr; injection hr with hr; omega))
      have cl := fun t (ht : t < 4) => o2.cellAt (g := w.heap.size) (k * 4 + t) (by omega)
      have fr := fun t => o2.frozenAt (g := w.heap.size) (k * 4 + t)
      obtain ⟨d0, e0⟩ : ∃ u, w2.cell? ⟨w.heap.size, k * 4, none⟩ = some u := ⟨_, (cl 0 (by omega)).trans (List.getElem?_eq_getElem (show k * 4 + 0 < ys.length by omega))⟩
      obtain ⟨d1, e1⟩ : ∃ u, w2.cell? ⟨w.heap.size, k * 4 + 1, none⟩ = some u := ⟨_, (cl 1 (by omega)).trans (List.getElem?_eq_getElem (show k * 4 + 1 < ys.length by omega))⟩
      obtain ⟨d2, e2⟩ : ∃ u, w2.cell? ⟨w.heap.size, k * 4 + 2, none⟩ = some u := ⟨_, (cl 2 (by omega)).trans (List.getElem?_eq_getElem (show k * 4 + 2 < ys.length by omega))⟩
      obtain ⟨d3, e3⟩ : ∃ u, w2.cell? ⟨w.heap.size, k * 4 + 3, none⟩ = some u := ⟨_, (cl 3 (by omega)).trans (List.getElem?_eq_getElem (show k * 4 + 3 < ys.length by omega))⟩
      have fr0 : w2.frozen? ⟨w.heap.size, k * 4, none⟩ = false := fr 0
      have fr1 := fr 1; have fr2 := fr 2; have fr3 := fr 3
      clear cl fr o2 bel q1 q2 HT x0 x1 x2 x3 HO HB hyl
      go_wp2
      go_roundw
      case rel => exact ⟨k + 1, _, by omega, by go_num, HS.out, HQ1.out, HQ2.out⟩
      case measure => simp [intOf]; omega
    · have hkl : k = ls.length := by omega
      subst hkl
      have hd := hU.done
      subst hd
      have HO := Lib.hid hO; have HB := Lib.hid hB
      clear hU hO hB
      go_wp2
      go_ret
      exact ⟨rfl, HO.out, HB.out⟩
end
end Go.Proofs.YtfdpkhiiboghiaaGreatDoor
