/- Steps of a law: copied into memory of their own. Steps of a law: marked. Steps of a law: held. A sequent that came in, opened. The laws' helpers at lists and rows, in one form: copies, comparison, marks (for the exact laws' walks that genex.py writes). -/
import Derived.Test.YthbkcpacgnmcfaaGreatDoorQStepRow
import Derived.Test.YthbkcpacgnmcfaaGreatDoorQMath
import Derived.Test.YthbkcpacgnmcfaaGreatDoorSeqV
import Derived.Deep.Matrix
import Derived.Deep.RegionWith
import Derived.Deep.DeepCutAuto
import Derived.Test.YthbkcpacgnmcfaaGreatDoorQCopyS
import Derived.Test.YthbkcpacgnmcfaaGreatDoorQMark
namespace Go.Proofs.YthbkcpacgnmcfaaGreatDoor
set_option linter.unusedSimpArgs false
set_option linter.unusedVariables false
section
open Go.ChangeAt Go.ChangeShapes Go.RowKit Go.WideShapes

/-- The first k steps, then zero steps. -/
def tkP (ss : List Stp) (n k : Nat) : List Stp := ss.take k ++ List.replicate (n - k) Stp.nil
theorem tkP_len {ss : List Stp} {n k : Nat} (hl : ss.length = n) (hk : k ≤ n) : (tkP ss n k).length = n := by
  simp only [tkP, List.length_append, List.length_take, List.length_replicate]; omega
theorem tkP_all {ss : List Stp} {n : Nat} (hl : ss.length = n) : tkP ss n n = ss := by
  simp [tkP, ← hl]
theorem tkP_set {ss : List Stp} {n k : Nat} (hl : ss.length = n) (hk : k < n) : (tkP ss n k).set k (ss.getD k Stp.nil) = tkP ss n (k + 1) := by
  have hk' : k < ss.length := by omega
  have e1 : n - k = (n - (k + 1)) + 1 := by omega
  unfold tkP
  rw [List.set_append_right _ _ (by simp; omega), e1, List.replicate_succ, List.length_take, show k - min k ss.length = 0 by omega, List.set_cons_zero, List.take_add_one, List.append_assoc]
  simp [List.getD, hk']
theorem tkP_step {w1 wr : World} {g g1 n k : Nat} {hs : Nat → Option Addr × Nat} {ss : List Stp} (h : OwnP wr g wr.heap.size (.slice (some ⟨g, 0, none⟩) n n) hs (tkP ss n k) k) (hl : ss.length = n) (hk : k < n) (hsz : g ≤ wr.heap.size) (bel : Below wr.heap.size wr w1)
    (own : w1.ownsRow wr.heap.size 2 1 (.slice (some ⟨g1, 0, none⟩) (ss.getD k Stp.nil).f.length (ss.getD k Stp.nil).f.length) (ss.getD k Stp.nil).f.length ((ss.getD k Stp.nil).f.map (Value.int .i64))) :
    OwnP (six w1 g (k * 6) (.int .i64 (ss.getD k Stp.nil).r) (.int .i64 (ss.getD k Stp.nil).a) (.int .i64 (ss.getD k Stp.nil).b) (.int .i64 (ss.getD k Stp.nil).i) (.int .i64 (ss.getD k Stp.nil).j) (.slice (some ⟨g1, 0, none⟩) (ss.getD k Stp.nil).f.length (ss.getD k Stp.nil).f.length)) g (six w1 g (k * 6) (.int .i64 (ss.getD k Stp.nil).r) (.int .i64 (ss.getD k Stp.nil).a) (.int .i64 (ss.getD k Stp.nil).b) (.int .i64 (ss.getD k Stp.nil).i) (.int .i64 (ss.getD k Stp.nil).j) (.slice (some ⟨g1, 0, none⟩) (ss.getD k Stp.nil).f.length (ss.getD k Stp.nil).f.length)).heap.size (.slice (some ⟨g, 0, none⟩) n n) (upd hs k (some ⟨g1, 0, none⟩, (ss.getD k Stp.nil).f.length)) (tkP ss n (k + 1)) (k + 1) := by
  rw [← tkP_set hl hk]
  have es : ∀ v0 v1 v2 v3 v4 v5, (six w1 g (k * 6) v0 v1 v2 v3 v4 v5).heap.size = w1.heap.size := fun v0 v1 v2 v3 v4 v5 => by simp [six]
  rw [es]
  exact (h.below bel).store6 (tkP_len hl (Nat.le_of_lt hk)) hk hk (fun i hi => by omega) (own.mono hsz) (fun b hb => own.lt b hb) bel.size

set_option maxHeartbeats 4000000 in
theorem toStepsP_any (A : Option Addr) (n c : Nat) (ss : List Stp) (w : World) (h : RdP w w.heap.size A n ss) (hn : n ≤ 1048576) (hq : ∀ q ∈ fsP ss, q.length ≤ 1048576) :
    Calls Tryz.prog 7 #[.slice A n c] w fun e w' => ∃ hs, e = .returned (.slice (some ⟨w.heap.size, 0, none⟩) n n) ∧ OwnP w' w.heap.size w'.heap.size (.slice (some ⟨w.heap.size, 0, none⟩) n n) hs ss n ∧ Below w.heap.size w w' := by
  obtain ⟨i0, hi0, hz0, hz1, hz2⟩ := info_parts_step
  have hl := h.len
  have b2 : i0.bytes * n ≤ 281474976710656 := by rw [hz2]; omega
  have b3 : n ≤ maxLen := by unfold maxLen; omega
  go_enter Tryz.func7, Tryz.ntmps7
  go_wp2_with (at_make; refine wpList_make_full _ rfl _ _ _ rfl w.heap.size 43 i0 (Value.agg #[Value.int .i64 0, Value.int .i64 0, Value.int .i64 0, Value.int .i64 0, Value.int .i64 0, Value.slice none 0 0]) 6 Tryz.underlying26 hi0 hz0 hz1 _ _ _ _ n rfl rfl rfl rfl b2 b3 (Nat.le_refl _) ?_; intro w1 hown hg)
  have hbel : Below w.heap.size w w1 := (Below.refl _ _).grown hg (Nat.le_refl _) (by intro k hk; cases hk)
  rw [made_row] at hown
  have hC0 : OwnP w1 w.heap.size w1.heap.size (.slice (some ⟨w.heap.size, 0, none⟩) n n) (fun _ => (none, 0)) (tkP ss n 0) 0 := by
    have := OwnP.fresh hown w1.heap.size (hown.lt _ rfl).2
    simpa [tkP] using this
  have HC0 := Lib.hid hC0
  have HB0 := Lib.hid hbel
  clear hg hown b2 b3 hi0 hz0 hz1 hz2 hC0 hbel
  have HR := Lib.hid h; have HQ := Lib.hid hq
  clear h hq
  go_loopw [4] (fun i wr => ∃ (k : Nat) (hs : Nat → Option Addr × Nat), k ≤ n ∧ i = .int .i64 k ∧ OwnP wr w.heap.size wr.heap.size (.slice (some ⟨w.heap.size, 0, none⟩) n n) hs (tkP ss n k) k ∧ Below w.heap.size w wr) (fun i _ => n - (intOf i).toNat)
  case atStart => exact ⟨0, _, Nat.zero_le _, rfl, HC0.out, HB0.out⟩
  case round =>
    obtain ⟨k, hs, hk, rfl, hC, hB⟩ := hrel
    have HC := Lib.hid hC
    by_cases hlt : k < n
    · obtain ⟨b, off, rfl, hbb, hcells⟩ := HR.out.2 (by omega)
      obtain ⟨A', c', hat⟩ := hcells k hlt
      have hm := HQ.out _ (getD_mem (show k < (fsP ss).length by rw [fsP_len]; omega))
      rw [fsP_getD ss k (by omega)] at hm
      obtain ⟨x0, x1, x2, x3, x4, x5, hx6, hx7⟩ := hat.keep (fun _ hp => hB.cell hp) hbb
      have HT := Lib.hid (toStep_any (ss.getD k Stp.nil).r (ss.getD k Stp.nil).a (ss.getD k Stp.nil).b (ss.getD k Stp.nil).i (ss.getD k Stp.nil).j A' (ss.getD k Stp.nil).f.length c' (ss.getD k Stp.nil).f wr (hx7.more hB.size) hm)
      have hS0 := hB.size
      have hST := Lib.hid (fun (w1 : World) (g1 : Nat) (bel : Below wr.heap.size wr w1) own => tkP_step (w1 := w1) (g1 := g1) HC.out hl hlt hS0 bel own)
      have HB := Lib.hid hB
      clear hcells hat hB hx7 HQ hS0 hC
      generalize (ss.getD k Stp.nil).f.length = M at *
      generalize (ss.getD k Stp.nil).r = sr at *; generalize (ss.getD k Stp.nil).a = sa at *; generalize (ss.getD k Stp.nil).b = sb at *; generalize (ss.getD k Stp.nil).i = si at *; generalize (ss.getD k Stp.nil).j = sj at *
      go_wp2_with (fail)
      refine HT.out.mono ?_
      rintro e w1 ⟨g1, rfl, own, bel⟩
      have HS := Lib.hid (hST.out w1 g1 bel own)
      have hO1 := HC.out.below bel
      have HBN := Lib.hid (HB.out.trans (bel.mono HB.out.size))
      obtain ⟨d0, e0⟩ : ∃ u, w1.cell? ⟨w.heap.size, k * 6, none⟩ = some u := ⟨_, (hO1.at (tkP_len hl hk) hlt 0 (by decide)).2⟩
      have fr0 : w1.frozen? ⟨w.heap.size, k * 6, none⟩ = false := (hO1.at (tkP_len hl hk) hlt 0 (by decide)).1
      obtain ⟨d1, e1⟩ : ∃ u, w1.cell? ⟨w.heap.size, k * 6 + 1, none⟩ = some u := ⟨_, (hO1.at (tkP_len hl hk) hlt 1 (by decide)).2⟩
      have fr1 : w1.frozen? ⟨w.heap.size, k * 6 + 1, none⟩ = false := (hO1.at (tkP_len hl hk) hlt 1 (by decide)).1
      obtain ⟨d2, e2⟩ : ∃ u, w1.cell? ⟨w.heap.size, k * 6 + 2, none⟩ = some u := ⟨_, (hO1.at (tkP_len hl hk) hlt 2 (by decide)).2⟩
      have fr2 : w1.frozen? ⟨w.heap.size, k * 6 + 2, none⟩ = false := (hO1.at (tkP_len hl hk) hlt 2 (by decide)).1
      obtain ⟨d3, e3⟩ : ∃ u, w1.cell? ⟨w.heap.size, k * 6 + 3, none⟩ = some u := ⟨_, (hO1.at (tkP_len hl hk) hlt 3 (by decide)).2⟩
      have fr3 : w1.frozen? ⟨w.heap.size, k * 6 + 3, none⟩ = false := (hO1.at (tkP_len hl hk) hlt 3 (by decide)).1
      obtain ⟨d4, e4⟩ : ∃ u, w1.cell? ⟨w.heap.size, k * 6 + 4, none⟩ = some u := ⟨_, (hO1.at (tkP_len hl hk) hlt 4 (by decide)).2⟩
      have fr4 : w1.frozen? ⟨w.heap.size, k * 6 + 4, none⟩ = false := (hO1.at (tkP_len hl hk) hlt 4 (by decide)).1
      obtain ⟨d5, e5⟩ : ∃ u, w1.cell? ⟨w.heap.size, k * 6 + 5, none⟩ = some u := ⟨_, (hO1.at (tkP_len hl hk) hlt 5 (by decide)).2⟩
      have fr5 : w1.frozen? ⟨w.heap.size, k * 6 + 5, none⟩ = false := (hO1.at (tkP_len hl hk) hlt 5 (by decide)).1
      clear own bel hST HT hO1 HC HB x0 x1 x2 x3 x4 x5
      go_wp2
      go_roundw
      case rel => exact ⟨k + 1, _, by omega, by go_num, HS.out, six_below HBN.out (Nat.le_refl _) _ _ _ _ _ _ _⟩
      case measure => simp [intOf]; omega
    · have hkl : k = n := by omega
      subst hkl
      have HD := Lib.hid (show OwnP wr w.heap.size wr.heap.size (.slice (some ⟨w.heap.size, 0, none⟩) k k) hs ss k from tkP_all hl ▸ HC.out)
      have HB := Lib.hid hB
      clear HC hB hC
      go_wp2
      go_ret
      exact ⟨_, rfl, HD.out, HB.out⟩
end
section
open Go.ChangeAt Go.ChangeShapes Go.RowKit Go.WideShapes

/-- Marked steps. -/
def mkS (k : Int) (s : Stp) : Stp := ⟨k, k + 1, k + 1 + 1, k + 1 + 1 + 1, k + 1 + 1 + 1 + 1, markL (k + 1 + 1 + 1 + 1 + 1) s.f.length⟩
def mkP : Int → List Stp → List Stp
  | _, [] => []
  | k, s :: ss => mkS k s :: mkP (k + 5 + s.f.length) ss
def totP (ss : List Stp) : Nat := (ss.map fun s => 5 + s.f.length).sum
theorem mkP_len : ∀ (k : Int) (ss : List Stp), (mkP k ss).length = ss.length
  | _, [] => rfl
  | k, s :: ss => by simp [mkP, mkP_len _ ss]
theorem mkP_app : ∀ (k : Int) (xs ys : List Stp), mkP k (xs ++ ys) = mkP k xs ++ mkP (k + (totP xs : Nat)) ys
  | k, [], ys => by simp [mkP, totP]
  | k, x :: xs, ys => by
    have e : k + 5 + (x.f.length : Int) + (totP xs : Nat) = k + (totP (x :: xs) : Nat) := by simp [totP]; omega
    rw [List.cons_append, mkP, mkP, mkP_app, e]; rfl
theorem getS_at {ss : List Stp} {j : Nat} (h : j < ss.length) : ss.getD j Stp.nil = ss[j] := by simp [List.getD, h]
theorem totP_app (xs ys : List Stp) : totP (xs ++ ys) = totP xs + totP ys := by unfold totP; rw [List.map_append, List.sum_append]
theorem totP_take {ss : List Stp} {j : Nat} (h : j < ss.length) : totP (ss.take (j + 1)) = totP (ss.take j) + (5 + (ss.getD j Stp.nil).f.length) := by
  rw [getS_at h, List.take_succ_eq_append_getElem h, totP_app]
  rfl
theorem totP_le {ss : List Stp} {j : Nat} (h : j < ss.length) : totP (ss.take j) + (5 + (ss.getD j Stp.nil).f.length) ≤ totP ss := by
  rw [← totP_take h]
  conv => rhs; rw [← List.take_append_drop (j + 1) ss, totP_app]
  omega
theorem mkP_at (k : Int) {ss : List Stp} {j : Nat} (h : j < ss.length) : (mkP k ss).getD j Stp.nil = mkS (k + totP (ss.take j)) (ss.getD j Stp.nil) := by
  have e : ss = ss.take j ++ (ss.getD j Stp.nil :: ss.drop (j + 1)) := by
    rw [getS_at h, List.getElem_cons_drop]
    exact (List.take_append_drop _ _).symm
  have hl : (mkP k (ss.take j)).length = j := by rw [mkP_len, List.length_take]; omega
  conv => lhs; rw [e, mkP_app]
  rw [List.getD_eq_getElem?_getD, List.getElem?_append_right (by omega), hl, Nat.sub_self]
  rfl
/-- How far the marking has come. -/
def mpq (ss : List Stp) (k : Int) (j : Nat) : List Stp := mkP k (ss.take j) ++ ss.drop j
theorem mpq_zero (ss : List Stp) (k : Int) : mpq ss k 0 = ss := by simp [mpq, mkP]
theorem mpq_all (ss : List Stp) (k : Int) : mpq ss k ss.length = mkP k ss := by simp [mpq]
theorem mpq_len (ss : List Stp) (k : Int) {j : Nat} (h : j ≤ ss.length) : (mpq ss k j).length = ss.length := by
  unfold mpq; rw [List.length_append, mkP_len, List.length_take, List.length_drop]; omega
theorem mpq_get (ss : List Stp) (k : Int) {j : Nat} (h : j < ss.length) : (mpq ss k j).getD j Stp.nil = ss.getD j Stp.nil := by
  have hl : (mkP k (ss.take j)).length = j := by rw [mkP_len, List.length_take]; omega
  unfold mpq
  rw [List.getD_eq_getElem?_getD, List.getElem?_append_right (by omega), hl, Nat.sub_self, List.getElem?_drop]
  simp [List.getD]
theorem mpq_step (ss : List Stp) (k : Int) {j : Nat} (h : j < ss.length) : (mpq ss k j).set j (mkS (k + totP (ss.take j)) (ss.getD j Stp.nil)) = mpq ss k (j + 1) := by
  have hl : (mkP k (ss.take j)).length = j := by rw [mkP_len, List.length_take]; omega
  unfold mpq
  rw [List.set_append_right _ _ (by omega), hl, Nat.sub_self, List.drop_eq_getElem_cons h, List.set_cons_zero, List.take_succ_eq_append_getElem h, mkP_app, List.append_assoc, getS_at h]
  rfl
theorem totP_all (ss : List Stp) : totP (ss.take ss.length) = totP ss := by rw [List.take_length]

/-- Five cells stored. -/
def five (w : World) (b o : Nat) (v0 v1 v2 v3 v4 : Value) : World := ((((w.setCell ⟨b, o, none⟩ v0).setCell ⟨b, o + 1, none⟩ v1).setCell ⟨b, o + 2, none⟩ v2).setCell ⟨b, o + 3, none⟩ v3).setCell ⟨b, o + 4, none⟩ v4
theorem five_row {hs : Nat → Option Addr × Nat} {ss : List Stp} {k : Nat} (s : Stp) (hk : k < ss.length) (hf : s.f.length = (ss.getD k Stp.nil).f.length) :
    (((((rowP hs ss).set (k * 6) (.int .i64 s.r)).set (k * 6 + 1) (.int .i64 s.a)).set (k * 6 + 2) (.int .i64 s.b)).set (k * 6 + 3) (.int .i64 s.i)).set (k * 6 + 4) (.int .i64 s.j) = rowP hs (ss.set k s) := by
  refine rowP_of (by simp [rowP_len]) fun m t hm ht => ?_
  rw [List.length_set] at hm
  by_cases e : m = k
  · subst e
    rw [getS_eq hk]
    have hl := rowP_len hs ss
    have c : t = 0 ∨ t = 1 ∨ t = 2 ∨ t = 3 ∨ t = 4 ∨ t = 5 := by omega
    rcases c with rfl | rfl | rfl | rfl | rfl | rfl
    · have e0 : m * 6 + 0 = m * 6 := rfl
      rw [e0, List.getElem?_set_ne (by omega), List.getElem?_set_ne (by omega), List.getElem?_set_ne (by omega), List.getElem?_set_ne (by omega), List.getElem?_set_self (by omega)]; rfl
    · rw [List.getElem?_set_ne (by omega), List.getElem?_set_ne (by omega), List.getElem?_set_ne (by omega), List.getElem?_set_self (by simp; omega)]; rfl
    · rw [List.getElem?_set_ne (by omega), List.getElem?_set_ne (by omega), List.getElem?_set_self (by simp; omega)]; rfl
    · rw [List.getElem?_set_ne (by omega), List.getElem?_set_self (by simp; omega)]; rfl
    · rw [List.getElem?_set_self (by simp; omega)]; rfl
    · rw [List.getElem?_set_ne (by omega), List.getElem?_set_ne (by omega), List.getElem?_set_ne (by omega), List.getElem?_set_ne (by omega), List.getElem?_set_ne (by omega), rowP_at hk (by omega)]
      show some (Value.slice _ (ss.getD m Stp.nil).f.length _) = some (Value.slice _ s.f.length _)
      rw [hf]
  · rw [getS_ne e, List.getElem?_set_ne (by omega), List.getElem?_set_ne (by omega), List.getElem?_set_ne (by omega), List.getElem?_set_ne (by omega), List.getElem?_set_ne (by omega)]
    exact rowP_at hm ht
theorem five_block {w : World} {g o b : Nat} {v0 v1 v2 v3 v4 : Value} (h : b ≠ g) : (five w g o v0 v1 v2 v3 v4).heap[b]? = w.heap[b]? := by
  unfold five
  rw [Below.heap_setCell _ _ _ _ (by exact h), Below.heap_setCell _ _ _ _ (by exact h), Below.heap_setCell _ _ _ _ (by exact h), Below.heap_setCell _ _ _ _ (by exact h), Below.heap_setCell _ _ _ _ (by exact h)]
theorem five_kept (w : World) {lo hi g o : Nat} {v0 v1 v2 v3 v4 : Value} (h1 : lo ≤ g) (h2 : g < hi) : Kept lo hi w (five w g o v0 v1 v2 v3 v4) :=
  have hb : Below g w (five w g o v0 v1 v2 v3 v4) := (((((Below.refl g w).setCell (p := ⟨g, o, none⟩) (Nat.le_refl g) v0).setCell (p := ⟨g, o + 1, none⟩) (Nat.le_refl g) v1).setCell (p := ⟨g, o + 2, none⟩) (Nat.le_refl g) v2).setCell (p := ⟨g, o + 3, none⟩) (Nat.le_refl g) v3).setCell (p := ⟨g, o + 4, none⟩) (Nat.le_refl g) v4
  ⟨hb.os, hb.tape, hb.output, hb.size, fun b _ hb => five_block (by omega)⟩
theorem fv_set {hs : Nat → Option Addr × Nat} {ss : List Stp} {k : Nat} {s : Stp} (hk : k < ss.length) (hf : s.f.length = (ss.getD k Stp.nil).f.length) (i : Nat) : fv hs (ss.set k s) i = fv hs ss i := by
  unfold fv
  by_cases e : i = k
  · subst e
    rw [getS_eq hk, hf]
  · rw [getS_ne e]
/-- Five numbers of step k stored, and its formula's cells replaced. -/
theorem OwnP.mark {w w' : World} {lo hi n c k g K : Nat} {hs : Nat → Option Addr × Nat} {ss : List Stp} {s : Stp} (h : OwnP w lo hi (.slice (some ⟨g, 0, none⟩) n c) hs ss K) (hn : ss.length = n) (hk : k < K) (hf : s.f.length = (ss.getD k Stp.nil).f.length)
    (hq : w'.ownsRow lo 2 1 (fv hs ss k) s.f.length (s.f.map (Value.int .i64))) (hg : (five w g (k * 6) (.int .i64 s.r) (.int .i64 s.a) (.int .i64 s.b) (.int .i64 s.i) (.int .i64 s.j)).grownBy w' (fv hs ss k).ownBlock) :
    OwnP w' lo hi (.slice (some ⟨g, 0, none⟩) n c) hs (ss.set k s) K := by
  subst hn
  have hkl : k < ss.length := Nat.lt_of_lt_of_le hk h.kle
  have hh := fv_set (hs := hs) hkl hf
  have hgk : ∀ b, (fv hs ss k).ownBlock = some b → b ≠ g := fun b hb e => by
    rcases h.apart0 k hk with h0 | h0
    · rw [h0] at hb; cases hb
    · rw [hb] at h0
      exact h0 (by rw [e]; rfl)
  refine ⟨by rw [List.length_set]; exact h.kle, ?_, fun i hi => ?_, fun i j hi hj hij => by rw [hh, hh]; exact h.apart i j hi hj hij, fun i hi => by rw [hh]; exact h.apart0 i hi, h.top0, fun i b hi e => by rw [hh] at e; exact h.top i b hi e⟩
  · rw [List.length_set, ← five_row s hkl hf]
    have ho := (((((h.outer.stored (k * 6) (.int .i64 s.r)).1.stored (k * 6 + 1) (.int .i64 s.a)).1.stored (k * 6 + 2) (.int .i64 s.b)).1.stored (k * 6 + 3) (.int .i64 s.i)).1.stored (k * 6 + 4) (.int .i64 s.j)).1
    refine World.ownsRow.kept ho hg ?_
    right
    intro e
    exact hgk g e.symm rfl
  · by_cases e : i = k
    · subst e
      rw [hh, getS_eq hkl]
      exact hq
    · rw [hh, getS_ne e]
      have hin := h.inner i hi
      have hig : ∀ b, (fv hs ss i).ownBlock = some b → b ≠ g := fun b hb e => by
        rcases h.apart0 i hi with h0 | h0
        · rw [h0] at hb; cases hb
        · rw [hb] at h0
          exact h0 (by rw [e]; rfl)
      have h5 := own_same (w' := five w g (k * 6) (.int .i64 s.r) (.int .i64 s.a) (.int .i64 s.b) (.int .i64 s.i) (.int .i64 s.j)) hin fun b hb => five_block (hig b hb)
      exact World.ownsRow.kept h5 hg (h.apart i k hi hk e)
set_option maxHeartbeats 4000000 in
theorem markStepS_any (A : Option Addr) (n c : Nat) (hs : Nat → Option Addr × Nat) (ss : List Stp) (k : Int) (w : World) (lo hi : Nat) (h : OwnP w lo hi (.slice A n c) hs ss n) (hn : ss.length = n) (hn1 : n ≤ 1048576) (ht : totP ss ≤ 8388608) (hq : ∀ q ∈ fsP ss, q.length ≤ 1048576) (hk0 : 0 ≤ k) (hk1 : k ≤ 536870912) :
    Calls Tryz.prog 12 #[.slice A n c, .int .i64 k] w fun e w' => e = .returned (.int .i64 (k + totP ss)) ∧ OwnP w' lo hi (.slice A n c) hs (mkP k ss) n ∧ Kept lo hi w w' := by
  subst hn
  go_enter Tryz.func12, Tryz.ntmps12
  go_wp2
  go_loopw [1, 5] (fun v i wr => ∃ j : Nat, j ≤ ss.length ∧ i = .int .i64 j ∧ v = .int .i64 (k + totP (ss.take j)) ∧ OwnP wr lo hi (.slice A ss.length c) hs (mpq ss k j) ss.length ∧ Kept lo hi w wr) (fun _ i _ => ss.length - (intOf i).toNat)
  case atStart => exact ⟨0, Nat.zero_le _, rfl, by simp [totP], by rw [mpq_zero]; exact h, Kept.refl _ _ _⟩
  case round =>
    obtain ⟨j, hj, rfl, rfl, hown, hkp⟩ := hrel
    clear h
    by_cases hlt : j < ss.length
    · have hml := mpq_len ss k hj
      have hstep := mpq_step ss k hlt
      have hget := mpq_get ss k hlt
      have htt := totP_take hlt
      have htl := totP_le hlt
      have hqq := hq _ (getD_mem (show j < (fsP ss).length by rw [fsP_len]; exact hlt))
      rw [fsP_getD ss j hlt] at hqq
      have hv' := hown.outer.form (by omega)
      rw [hml] at hv'
      obtain ⟨g, cap, hv', hlo, hgl⟩ := hv'
      have hA : A = some ⟨g, 0, none⟩ ∧ c = cap := by injection hv' with a b c'; exact ⟨a, c'⟩
      obtain ⟨rfl, rfl⟩ := hA
      have hgh := hown.top0 g rfl
      have hin := hown.inner j hlt
      have hvv : fv hs (mpq ss k j) j = .slice (hs j).1 (ss.getD j Stp.nil).f.length (hs j).2 := by unfold fv; rw [hget]
      have hgr : ∀ b, (fv hs (mpq ss k j) j).ownBlock = some b → lo ≤ b ∧ b < hi := fun b e => ⟨(hin.lt b e).1, hown.top j b hlt e⟩
      have hgne : ∀ b, (fv hs (mpq ss k j) j).ownBlock = some b → b ≠ g := fun b hb e => by
        rcases hown.apart0 j hlt with h0 | h0
        · rw [h0] at hb; cases hb
        · rw [hb] at h0
          exact h0 (by rw [e]; rfl)
      have hput := fun (w' : World) (a : _) (b : _) => hown.mark (w' := w') (s := mkS (k + totP (ss.take j)) (ss.getD j Stp.nil)) hml hlt (by rw [hget]; exact markL_len _ _) a b
      rw [hstep] at hput
      have c0 := hown.at hml hlt 0 (by decide)
      have c1 := hown.at hml hlt 1 (by decide)
      have c2 := hown.at hml hlt 2 (by decide)
      have c3 := hown.at hml hlt 3 (by decide)
      have c4 := hown.at hml hlt 4 (by decide)
      have c5 := hown.at hml hlt 5 (by decide)
      rw [hget] at hin c5
      rw [hvv] at hin hput hgr hgne
      obtain ⟨fr0, d0⟩ := c0
      obtain ⟨fr1, d1⟩ := c1
      obtain ⟨fr2, d2⟩ := c2
      obtain ⟨fr3, d3⟩ := c3
      obtain ⟨fr4, d4⟩ := c4
      have d5 : wr.cell? ⟨g, j * 6 + 5, none⟩ = some (.slice (hs j).1 (ss.getD j Stp.nil).f.length (hs j).2) := c5.2
      clear c5
      obtain ⟨u0, d0⟩ : ∃ u, wr.cell? ⟨g, j * 6, none⟩ = some u := ⟨_, d0⟩
      obtain ⟨u1, d1⟩ : ∃ u, wr.cell? ⟨g, j * 6 + 1, none⟩ = some u := ⟨_, d1⟩
      obtain ⟨u2, d2⟩ : ∃ u, wr.cell? ⟨g, j * 6 + 2, none⟩ = some u := ⟨_, d2⟩
      obtain ⟨u3, d3⟩ : ∃ u, wr.cell? ⟨g, j * 6 + 3, none⟩ = some u := ⟨_, d3⟩
      obtain ⟨u4, d4⟩ : ∃ u, wr.cell? ⟨g, j * 6 + 4, none⟩ = some u := ⟨_, d4⟩
      have fr0 : wr.frozen? ⟨g, j * 6, none⟩ = false := fr0
      have HM := Lib.hid (fun (x : Int) (hx : x = k + totP (ss.take j) + 5) (w5 : World) (h5 : ∀ b, b ≠ g → w5.heap[b]? = wr.heap[b]?) => show Calls Tryz.prog 30 #[.slice (hs j).1 (ss.getD j Stp.nil).f.length (hs j).2, .int .i64 x] w5 (Marked w5 lo (.slice (hs j).1 (ss.getD j Stp.nil).f.length (hs j).2) (ss.getD j Stp.nil).f.length x) from
        mark_any (hs j).1 (ss.getD j Stp.nil).f.length (hs j).2 (ss.getD j Stp.nil).f x w5 lo (own_same hin fun b hb => h5 b (hgne b hb)) (by omega) (by omega) (by omega))
      have HP := Lib.hid hput; have HG := Lib.hid hgr; have HK := Lib.hid hkp
      have HT : Hid (k + (totP (ss.take (j + 1)) : Nat) = k + totP (ss.take j) + 5 + (ss.getD j Stp.nil).f.length) := Lib.hid (by rw [htt]; omega)
      have hML : (mkS (k + totP (ss.take j)) (ss.getD j Stp.nil)).f.length = (ss.getD j Stp.nil).f.length := markL_len _ _
      have HML := Lib.hid hML
      have hMF : (mkS (k + totP (ss.take j)) (ss.getD j Stp.nil)).f = markL (k + totP (ss.take j) + 1 + 1 + 1 + 1 + 1) (ss.getD j Stp.nil).f.length := rfl
      have HMF := Lib.hid hMF
      have hz : 0 ≤ k + (totP (ss.take j) : Nat) ∧ k + (totP (ss.take j) : Nat) ≤ 545259520 := by omega
      clear hin hput hgr hkp hown hstep hget hvv htt hml hv' hq htl hgne hML hMF hqq
      generalize (ss.getD j Stp.nil).f.length = M at *
      generalize k + (totP (ss.take j) : Int) = z at *
      go_wp2_with (fail)
      refine (HM.out (z + 1 + 1 + 1 + 1 + 1) (by omega) (five wr g (j * 6) (.int .i64 z) (.int .i64 (z + 1)) (.int .i64 (z + 1 + 1)) (.int .i64 (z + 1 + 1 + 1)) (.int .i64 (z + 1 + 1 + 1 + 1))) (fun b hb => five_block hb)).mono ?_
      rintro e w2 ⟨rfl, own2, gr2⟩
      have HO2 := Lib.hid (HP.out w2 (by rw [HMF.out, markL_len]; exact own2) gr2)
      have HK2 := Lib.hid (HK.out.trans ((five_kept wr hlo hgh).trans (Kept.of_grown gr2 HG.out)))
      clear own2 gr2
      go_wp2
      go_roundw
      case rel => exact ⟨j + 1, by omega, by go_num, by congr 1; have := HT.out; omega, HO2.out, HK2.out⟩
      case measure => simp [intOf]; omega
    · have hkl : j = ss.length := by omega
      subst hkl
      rw [mpq_all] at hown
      rw [totP_all ss]
      have HS := Lib.hid hown; have HK := Lib.hid hkp
      clear hown hkp
      go_wp2
      go_ret
      exact ⟨rfl, HS.out, HK.out⟩
end
section
open Go.ChangeAt Go.ChangeShapes Go.RowKit Go.WideShapes

set_option maxHeartbeats 4000000 in
theorem heldStepS_any (A : Option Addr) (n c : Nat) (ss : List Stp) (k : Int) (w : World) (h : RdP w w.heap.size A n (mkP k ss)) (hn1 : n ≤ 1048576) (ht : totP ss ≤ 8388608) (hq : ∀ q ∈ fsP ss, q.length ≤ 1048576) (hk0 : 0 ≤ k) (hk1 : k ≤ 536870912) :
    Calls Tryz.prog 14 #[.slice A n c, .int .i64 k] w fun e w' => e = .returned (.int .i64 (k + totP ss)) ∧ w = w' := by
  have hl := h.len
  rw [mkP_len] at hl
  subst hl
  go_enter Tryz.func14, Tryz.ntmps14
  go_wp2
  go_loop [1, 5] (fun v i => ∃ j : Nat, j ≤ ss.length ∧ i = .int .i64 j ∧ v = .int .i64 (k + totP (ss.take j))) (fun _ i => ss.length - (intOf i).toNat)
  case atStart => exact ⟨0, Nat.zero_le _, rfl, by simp [totP]⟩
  case round =>
    obtain ⟨j, hj, rfl, rfl⟩ := hrel
    by_cases hlt : j < ss.length
    · obtain ⟨b, off, rfl, hbb, hcells⟩ := h.2 (by omega)
      obtain ⟨A', c', c0, c1, c2, c3, c4, c5, _, hrd⟩ := hcells j hlt
      have hqq := hq _ (getD_mem (show j < (fsP ss).length by rw [fsP_len]; exact hlt))
      rw [fsP_getD ss j hlt] at hqq
      rw [mkP_at k hlt] at c0 c1 c2 c3 c4 c5 hrd
      have hML : (mkS (k + totP (ss.take j)) (ss.getD j Stp.nil)).f = markL (k + totP (ss.take j) + 1 + 1 + 1 + 1 + 1) (ss.getD j Stp.nil).f.length := rfl
      rw [hML, markL_len] at c5 hrd
      have htt := totP_take hlt
      have htl := totP_le hlt
      have hHM := held_any A' (ss.getD j Stp.nil).f.length c' (k + totP (ss.take j) + 1 + 1 + 1 + 1 + 1) w hrd (by omega) (by omega) (by omega)
      have HM := Lib.hid hHM
      have HT : Hid (k + (totP (ss.take (j + 1)) : Nat) = k + totP (ss.take j) + 1 + 1 + 1 + 1 + 1 + (ss.getD j Stp.nil).f.length) := Lib.hid (by rw [htt]; omega)
      have hz : 0 ≤ k + (totP (ss.take j) : Nat) ∧ k + (totP (ss.take j) : Nat) ≤ 545259520 := by omega
      change w.cell? ⟨b, off + j * 6, none⟩ = some (.int .i64 (k + totP (ss.take j))) at c0
      change w.cell? ⟨b, off + j * 6 + 1, none⟩ = some (.int .i64 (k + totP (ss.take j) + 1)) at c1
      change w.cell? ⟨b, off + j * 6 + 2, none⟩ = some (.int .i64 (k + totP (ss.take j) + 1 + 1)) at c2
      change w.cell? ⟨b, off + j * 6 + 3, none⟩ = some (.int .i64 (k + totP (ss.take j) + 1 + 1 + 1)) at c3
      change w.cell? ⟨b, off + j * 6 + 4, none⟩ = some (.int .i64 (k + totP (ss.take j) + 1 + 1 + 1 + 1)) at c4
      clear hcells h hrd htt hq hML hHM htl
      generalize (ss.getD j Stp.nil).f.length = M at *
      generalize k + (totP (ss.take j) : Int) = z at *
      have ne0 : (z != z) = false := by simp
      have ne1 : (z + 1 != z + 1) = false := by simp
      have ne2 : (z + 1 + 1 != z + 1 + 1) = false := by simp
      have ne3 : (z + 1 + 1 + 1 != z + 1 + 1 + 1) = false := by simp
      have ne4 : (z + 1 + 1 + 1 + 1 != z + 1 + 1 + 1 + 1) = false := by simp
      have hd : decide (z + 1 + 1 + 1 + 1 + 1 + (M : Int) < 0) = false := decide_eq_false (by omega)
      go_wp2_with (fail)
      refine HM.out.mono ?_
      rintro e w' ⟨rfl, rfl⟩
      go_wp2
      go_round
      case rel => exact ⟨j + 1, by omega, by go_num, by rw [HT.out]⟩
      case measure => simp [intOf]; omega
    · have hkl : j = ss.length := by omega
      subst hkl
      rw [totP_all ss]
      clear h hq
      go_wp2
      go_ret
      exact ⟨rfl, rfl⟩
end
section
open Go.ChangeShapes Go.WideShapes Go.ChangeAt Go.RowKit

theorem spot_of {w : World} {b off : Nat} {s : Option Nat} {v : Value} (h : w.cell? ((⟨b, off, s⟩ : Addr).add 0) = some v) : s = none := by
  simpa [Addr.add] using World.cell?_spot h

/-- A slice of slices of 64-bit integers that came in reads as a list of lists. -/
theorem open_rows {H : Type} {enc : TypeId × Value → H} {W : World} {fuel : Nat} {v : Value} {x : DataW H × List MemPlace}
    (h : DataW.trod enc Tryz.prog W 0 (fun _ => true) true fuel 23 [v] = some x) :
    ∃ a n c qs, v = .slice a n c ∧ RdQ W W.heap.size a n qs ∧ n ≤ c ∧ n ≤ maxLen ∧ (∀ q ∈ qs, q.length ≤ maxLen) ∧ ∀ q ∈ qs, ∀ z ∈ q, (Lit.int .i64 z).wf = true := by
  rcases Go.Deep.open_int_rows Tryz.underlying23 Tryz.underlying36 Tryz.underlying2 (by kernel_rfl) (by kernel_rfl) h with ⟨hcs, _⟩ | ⟨a, len, cap, A, L, C, Z, hcs, _, hl, hm, _, hr⟩
  · obtain rfl : v = .slice none 0 0 := by simpa using hcs
    exact ⟨none, 0, 0, [], rfl, RdQ.nil _ _ _, Nat.le_refl _, Nat.zero_le _, by simp, by simp⟩
  · obtain rfl : v = .slice (some a) len cap := by simpa using hcs
    have hlen : ∀ j, j < len → ((Z j).take (L j)).length = L j := fun j hj => by
      obtain ⟨_, h1, _, h3, _⟩ := hr j (by omega)
      rw [List.length_take]; omega
    have hget : ∀ j, j < len → ((List.range len).map fun r => (Z r).take (L r)).getD j [] = (Z j).take (L j) := fun j hj => by simp [List.getD, hj]
    refine ⟨some a, len, cap, (List.range len).map fun r => (Z r).take (L r), rfl, ⟨by simp, fun hn => ?_⟩, hl, by omega, ?_, ?_⟩
    · obtain ⟨b, off, spot⟩ := a
      have hspot : spot = none := spot_of (hr 0 (by omega)).1
      subst hspot
      refine ⟨b, off, rfl, by have := World.block_lt_of_cell? W _ (hr 0 (by omega)).1; simpa [Addr.add] using this, fun j hj => ?_⟩
      obtain ⟨h0, h1, h2, h3, h4, h5, h6⟩ := hr j (by omega)
      rw [hget j hj, hlen j hj]
      refine ⟨A j, C j, ?_, h1, hlen j hj, fun hpos => ?_⟩
      · by_cases e : j = 0
        · subst e; simpa [Addr.add] using h0
        · simpa [Addr.add, e] using h0
      · cases hA : A j with
        | none => have := h5 hA; omega
        | some a' =>
          obtain ⟨b', off', spot'⟩ := a'
          obtain ⟨_, hc⟩ := h6 _ hA
          have hspot : spot' = none := spot_of (hc 0 (by omega))
          subst hspot
          refine ⟨b', off', rfl, by have := World.block_lt_of_cell? W _ (hc 0 (by omega)); simpa [Addr.add] using this, fun c hcl => ?_⟩
          have h7 := hc c (by omega)
          have e : ((Z j).take (L j)).getD c 0 = (Z j).getD c 0 := by simp [List.getD, hcl]
          rw [e]
          by_cases e0 : c = 0
          · subst e0; simpa [Addr.add] using h7
          · simpa [Addr.add, e0] using h7
    · intro q hq
      obtain ⟨j, hj, rfl⟩ := List.mem_map.1 hq
      have hj' := List.mem_range.1 hj
      obtain ⟨_, h1, h2, _⟩ := hr j (by omega)
      rw [hlen j hj']; omega
    · intro q hq z hz
      obtain ⟨j, hj, rfl⟩ := List.mem_map.1 hq
      have hj' := List.mem_range.1 hj
      exact (hr j (by omega)).2.2.2.2.1 z (List.mem_of_mem_take hz)

theorem mem_total {qs : List (List Int)} {q : List Int} (h : q ∈ qs) : q.length ≤ total qs := by
  induction qs with
  | nil => cases h
  | cons x xs ih =>
    have e : total (x :: xs) = x.length + total xs := by simp [total]
    rcases List.mem_cons.1 h with rfl | h
    · omega
    · have := ih h; omega
theorem sz_casesL (left : Int) (hl : left ≤ 1048576) (n : Nat) (qs : List (List Int)) : szR left (n + total qs) = -1 ∨ ∃ L, szR left (n + total qs) = L ∧ 0 ≤ L ∧ L ≤ 1048576 ∧ n ≤ 1048576 ∧ total qs ≤ 1048576 := by
  by_cases h : left - (n + total qs : Nat) < 0
  · exact .inl (szR_neg h)
  · exact .inr ⟨left - (n + total qs : Nat), szR_pos h, by omega, by omega, by omega, by omega⟩
end
section
open Go.ChangeAt Go.ChangeShapes Go.RowKit Go.WideShapes

set_option maxRecDepth 100000 in
/-- A row of lists that came in. -/
theorem open_q {H : Type} {enc : TypeId × Value → H} {W : World} {base : Nat} {v : Value} {d : DataW H} {p : List MemPlace} (hv : Value.okWide Tryz.prog W .any base 23 v) (h : DataW.Trod enc Tryz.prog W 0 (fun _ => true) true 23 v d p) :
    ∃ a n c qs, v = .slice a n c ∧ RdQ W W.heap.size a n qs ∧ n ≤ c ∧ n ≤ maxLen ∧ (∀ q ∈ qs, q.length ≤ maxLen) ∧ ∀ q ∈ qs, ∀ z ∈ q, (Lit.int .i64 z).wf = true := by
  obtain ⟨A, l, c, rfl⟩ := okWide_slice Tryz.underlying23 hv
  obtain ⟨fuel, hf⟩ := h
  exact open_rows (v := .slice A l c) (by simpa [Value.cells] using hf)

/-- A list of integers in memory of its own, its block in [lo, hi). -/
structure OwnI (w : World) (lo hi : Nat) (v : Value) (n : Nat) (xs : List Int) : Prop where
  outer : w.ownsRow lo 2 1 v n (xs.map (Value.int .i64))
  top : ∀ k, v.ownBlock = some k → k < hi
theorem OwnI.of_own {w : World} {lo n : Nat} {v : Value} {xs : List Int} (h : w.ownsRow lo 2 1 v n (xs.map (Value.int .i64))) : OwnI w lo w.heap.size v n xs := ⟨h, fun k hk => (h.lt k hk).2⟩
theorem OwnI.below {w w' : World} {lo hi n : Nat} {v : Value} {xs : List Int} (h : OwnI w lo hi v n xs) (hb : Below w.heap.size w w') : OwnI w' lo hi v n xs := ⟨own_below h.outer hb (Nat.le_refl _), h.top⟩
theorem OwnI.kept {w w' : World} {lo hi lo' hi' n : Nat} {v : Value} {xs : List Int} (h : OwnI w lo hi v n xs) (hk : Kept lo' hi' w w') (hd : hi ≤ lo' ∨ hi' ≤ lo) : OwnI w' lo hi v n xs :=
  ⟨own_same h.outer fun k e => hk.block k (h.outer.lt k e).2 (by have h1 := (h.outer.lt k e).1; have h2 := h.top k e; omega), h.top⟩
theorem OwnI.rd {w : World} {lo hi n c : Nat} {A : Option Addr} {xs : List Int} (h : OwnI w lo hi (.slice A n c) n xs) : RdI w w.heap.size A n xs := RdI.of_own h.outer
theorem OwnI.len {w : World} {lo hi n c : Nat} {A : Option Addr} {xs : List Int} (h : OwnI w lo hi (.slice A n c) n xs) : xs.length = n := by have := h.outer.1; simpa using this
theorem toQ_x (A : Option Addr) (n c : Nat) (qs : List (List Int)) (w : World) (h : RdQ w w.heap.size A n qs) (hq : ∀ q ∈ qs, q.length ≤ 1048576) (hn : n ≤ 1048576) :
    Calls Tryz.prog 8 #[.slice A n c] w fun e w' => ∃ hs g, e = .returned (.slice (some ⟨g, 0, none⟩) n n) ∧ OwnQ w' w.heap.size w'.heap.size (.slice (some ⟨g, 0, none⟩) n n) hs qs ∧ Below w.heap.size w w' :=
  (toSS_any A n c qs w h hq hn).mono fun _ _ ⟨hs, he, ho, hb⟩ => ⟨hs, _, he, ho, hb⟩
theorem eqQ_x (A B : Option Addr) (n c d : Nat) (qs : List (List Int)) (w : World) (h : RdQ w w.heap.size A n qs) (h' : RdQ w w.heap.size B n qs) (hn : n ≤ 1048576) (hq : ∀ q ∈ qs, q.length ≤ 1048576) :
    Calls Tryz.prog 11 #[.slice A n c, .slice B n d] w fun e w' => e = .returned (.bool true) ∧ Below w.heap.size w w' :=
  (eqSS_any A B n n c d qs qs w _ _ h h' hn hn hq hq).mono fun _ _ ⟨he, hd⟩ => ⟨by rw [he, decide_eq_true rfl], drewN_below hd _⟩
theorem markQ_x (A : Option Addr) (n c : Nat) (hs : Nat → Option Addr × Nat) (qs : List (List Int)) (k : Int) (w : World) (lo hi : Nat) (h : OwnQ w lo hi (.slice A n c) hs qs) (hn : qs.length = n) (hn1 : n ≤ 1048576) (ht : total qs ≤ 1048576) (hk0 : 0 ≤ k) (hk1 : k ≤ 536870912) :
    Calls Tryz.prog 13 #[.slice A n c, .int .i64 k] w fun e w' => e = .returned (.int .i64 (k + total qs)) ∧ OwnQ w' lo hi (.slice A n c) hs (mrkQ k qs) ∧ Kept lo hi w w' :=
  markSS_any A n c hs qs k w lo hi h hn hn1 ht hk0 hk1
theorem szQ_x (A : Option Addr) (n c : Nat) (qs : List (List Int)) (left : Int) (w : World) (h : RdQ w w.heap.size A n qs) (hq : ∀ q ∈ qs, q.length ≤ maxLen) (hn : n ≤ maxLen) (h0 : 0 ≤ left) (h1 : left ≤ 1073741824) :
    Calls Tryz.prog 5 #[.slice A n c, .int .i64 left] w fun e w' => e = .returned (.int .i64 (szR left (n + total qs))) ∧ Below w.heap.size w w' :=
  (szSS_any A n c qs left w _ h hq hn h0 h1).mono fun _ _ ⟨he, hw⟩ => ⟨he, hw ▸ Below.refl _ _⟩
end
end Go.Proofs.YthbkcpacgnmcfaaGreatDoor
