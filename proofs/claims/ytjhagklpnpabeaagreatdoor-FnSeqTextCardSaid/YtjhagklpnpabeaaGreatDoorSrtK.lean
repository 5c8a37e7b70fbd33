/- Sorting by insertion: its mathematics; sort.Sort at a row of at most ten formulas in the order of FormBefore (Len, Less and Swap of byFormBefore, sort.insertionSort, sort.pdqsort); SortedSeq of the program. The model's sortForms and SortedSeq. -/
import Derived.Test.YtjhagklpnpabeaaGreatDoorInsF
import Derived.Test.YtjhagklpnpabeaaGreatDoorSwap
import Derived.Test.YtjhagklpnpabeaaGreatDoorCmp
import Derived.Test.YtjhagklpnpabeaaGreatDoorAny
import Derived.Test.YtjhagklpnpabeaaGreatDoorCopyS
import Derived.StillTailTactics
namespace Go.Proofs.YtjhagklpnpabeaaGreatDoor
open Go.ChangeAt Go.ChangeShapes Go.RowKit Go.WideShapes

theorem cmpL_le_trans {a b c : List Int} (h : cmpL a b ≤ 0) (h' : cmpL b c ≤ 0) : cmpL a c ≤ 0 := by
  by_cases e : cmpL a b = 0
  · rw [cmpL_zero.1 e]; exact h'
  · by_cases e' : cmpL b c = 0
    · rw [← cmpL_zero.1 e']; exact h
    · have := cmpL_trans (a := a) (b := b) (c := c) (by omega) (by omega)
      omega
theorem cmpL_swap {a b : List Int} (h : ¬ cmpL a b < 0) : cmpL b a ≤ 0 := by
  have := cmpL_neg a b
  omega
theorem sol_same : ∀ {xs ys : List (List Int)}, xs.Perm ys → SoL xs → SoL ys → xs = ys
  | [], ys, h, _, _ => h.nil_eq
  | x :: xs, [], h, _, _ => absurd h.length_eq (by simp)
  | x :: xs, y :: ys, h, hx, hy => by
    obtain ⟨hx1, hx2⟩ := List.pairwise_cons.1 hx
    obtain ⟨hy1, hy2⟩ := List.pairwise_cons.1 hy
    have e : x = y := by
      have h1 : x ∈ y :: ys := h.mem_iff.1 (List.mem_cons_self ..)
      have h2 : y ∈ x :: xs := h.mem_iff.2 (List.mem_cons_self ..)
      rcases List.mem_cons.1 h1 with h1 | h1
      · exact h1
      · rcases List.mem_cons.1 h2 with h2 | h2
        · exact h2.symm
        · have a1 := hx1 y h2
          have a2 := hy1 x h1
          have a3 := cmpL_neg x y
          exact cmpL_zero.1 (by omega)
    subst e
    rw [sol_same (List.perm_cons x |>.1 h) hx2 hy2]
def insS (q : List Int) : List (List Int) → List (List Int)
  | [] => [q]
  | x :: xs => if cmpL q x ≤ 0 then q :: x :: xs else x :: insS q xs
/-- The formulas in the order of FormBefore. -/
def srtL : List (List Int) → List (List Int)
  | [] => []
  | q :: qs => insS q (srtL qs)
theorem insS_perm (q : List Int) : ∀ xs : List (List Int), (insS q xs).Perm (q :: xs)
  | [] => List.Perm.refl _
  | x :: xs => by
    unfold insS
    by_cases h : cmpL q x ≤ 0
    · rw [if_pos h]
    · rw [if_neg h]
      exact ((insS_perm q xs).cons x).trans (List.Perm.swap q x xs)
theorem insS_sol (q : List Int) : ∀ xs : List (List Int), SoL xs → SoL (insS q xs)
  | [], _ => by simp [insS, SoL]
  | x :: xs, hs => by
    obtain ⟨h1, h2⟩ := List.pairwise_cons.1 hs
    unfold insS
    by_cases h : cmpL q x ≤ 0
    · rw [if_pos h]
      refine List.pairwise_cons.2 ⟨fun z hz => ?_, hs⟩
      rcases List.mem_cons.1 hz with rfl | hz
      · exact h
      · exact cmpL_le_trans h (h1 z hz)
    · rw [if_neg h]
      refine List.pairwise_cons.2 ⟨fun z hz => ?_, insS_sol q xs h2⟩
      rcases List.mem_cons.1 ((insS_perm q xs).mem_iff.1 hz) with rfl | hz
      · exact cmpL_swap (by omega)
      · exact h1 z hz
theorem srtL_perm : ∀ qs : List (List Int), (srtL qs).Perm qs
  | [] => List.Perm.refl _
  | q :: qs => (insS_perm q _).trans ((srtL_perm qs).cons q)
theorem srtL_sol : ∀ qs : List (List Int), SoL (srtL qs)
  | [] => by simp [srtL, SoL]
  | q :: qs => insS_sol q _ (srtL_sol qs)
theorem srt_same {xs qs : List (List Int)} (hp : xs.Perm qs) (hs : SoL xs) : xs = srtL qs := sol_same (hp.trans (srtL_perm qs).symm) hs (srtL_sol qs)
theorem srtL_len (qs : List (List Int)) : (srtL qs).length = qs.length := (srtL_perm qs).length_eq

theorem swp_perm {qs : List (List Int)} {i j : Nat} (hi : i < qs.length) (hj : j < qs.length) : (swp qs i j).Perm qs := by
  rw [List.perm_iff_count]
  intro z
  have hI : qs.getD i [] = qs[i] := by simp [List.getD, hi]
  have hJ : qs.getD j [] = qs[j] := by simp [List.getD, hj]
  unfold swp
  rw [hI, hJ, List.count_set (by simpa using hj), List.count_set hi]
  simp only [List.getElem_set]
  have hc : (if qs[i] == z then 1 else 0) ≤ List.count z qs := by
    by_cases e : qs[i] == z
    · rw [if_pos e]
      have e' : qs[i] = z := eq_of_beq e
      exact List.count_pos_iff.2 (e' ▸ List.getElem_mem hi)
    · rw [if_neg e]; exact Nat.zero_le _
  by_cases e : i = j
  · subst e
    simp only [if_true]
    omega
  · rw [if_neg e]
    omega

/-- The first k are in order. -/
def UpTo (cur : List (List Int)) (k : Nat) : Prop := ∀ a b, a < b → b < k → cmpL (cur.getD a []) (cur.getD b []) ≤ 0
theorem UpTo.sol {cur : List (List Int)} (h : UpTo cur cur.length) : SoL cur := by
  unfold SoL
  rw [List.pairwise_iff_getElem]
  intro i j hi hj hij
  have := h i j hij hj
  simpa [List.getD, hi, hj] using this
theorem UpTo.of_sol {cur : List (List Int)} (h : SoL cur) : UpTo cur cur.length := by
  intro a b h1 h2
  have := List.pairwise_iff_getElem.1 h a b (by omega) h2 h1
  simpa [List.getD, h2, (show a < cur.length by omega)] using this
/-- The first i + 1 are in order but for the one at place j, which is no greater than what stands behind it. -/
def Ins1 (cur : List (List Int)) (i j : Nat) : Prop := (∀ a b, a < b → b ≤ i → a ≠ j → b ≠ j → cmpL (cur.getD a []) (cur.getD b []) ≤ 0) ∧ ∀ b, j < b → b ≤ i → cmpL (cur.getD j []) (cur.getD b []) ≤ 0
theorem Ins1.start {cur : List (List Int)} {i : Nat} (h : UpTo cur i) : Ins1 cur i i := ⟨fun a b h1 h2 _ h4 => h a b h1 (by omega), fun b h1 h2 => absurd h1 (by omega)⟩
theorem Ins1.stop {cur : List (List Int)} {i j : Nat} (h : Ins1 cur i j) (hx : j = 0 ∨ ¬ cmpL (cur.getD j []) (cur.getD (j - 1) []) < 0) : UpTo cur (i + 1) := by
  intro a b h1 h2
  by_cases ea : a = j
  · subst ea; exact h.2 b h1 (by omega)
  · by_cases eb : b = j
    · subst eb
      rcases hx with hx | hx
      · omega
      · have h3 := cmpL_swap hx
        by_cases e : a = b - 1
        · subst e; exact h3
        · exact cmpL_le_trans (h.1 a (b - 1) (by omega) (by omega) ea (by omega)) h3
    · exact h.1 a b h1 (by omega) ea eb
theorem Ins1.step {cur : List (List Int)} {i j : Nat} (h : Ins1 cur i j) (hj : 0 < j) (hji : j ≤ i) (hi : i < cur.length) (hx : cmpL (cur.getD j []) (cur.getD (j - 1) []) < 0) : Ins1 (swp cur j (j - 1)) i (j - 1) := by
  have g : ∀ k, (swp cur j (j - 1)).getD k [] = cur.getD (if k = j - 1 then j else if k = j then j - 1 else k) [] := fun k => swp_get (by omega) (by omega)
  refine ⟨fun a b h1 h2 h3 h4 => ?_, fun b h1 h2 => ?_⟩
  · rw [g, g, if_neg h3, if_neg h4]
    by_cases ea : a = j
    · rw [if_pos ea]
      rw [if_neg (by omega)]
      exact h.1 _ _ (by omega) h2 (by omega) (by omega)
    · rw [if_neg ea]
      by_cases eb : b = j
      · rw [if_pos eb]; exact h.1 _ _ (by omega) (by omega) ea (by omega)
      · rw [if_neg eb]; exact h.1 _ _ h1 h2 ea eb
  · rw [g, g, if_pos rfl, if_neg (by omega)]
    by_cases eb : b = j
    · rw [if_pos eb]; omega
    · rw [if_neg eb]; exact h.2 b (by omega) h2

/-- The place at which a formula is put in, found from the right. -/
theorem insAt_perm {qs : List (List Int)} {p : Nat} (q : List Int) (_hp : p ≤ qs.length) : (insAt qs p q).Perm (q :: qs) := by
  unfold insAt
  have h : (qs.take p ++ q :: qs.drop p).Perm (q :: (qs.take p ++ qs.drop p)) := List.perm_middle
  rwa [List.take_append_drop] at h
theorem insAt_sol {qs : List (List Int)} {p : Nat} {q : List Int} (hs : SoL qs) (hp : p ≤ qs.length) (h1 : ∀ b, p ≤ b → b < qs.length → cmpL q (qs.getD b []) < 0) (h2 : p = 0 ∨ ¬ cmpL q (qs.getD (p - 1) []) < 0) : SoL (insAt qs p q) := by
  apply UpTo.sol
  have hu := UpTo.of_sol hs
  rw [insAt_len hp]
  intro a b hab hb
  rw [insAt_get hp, insAt_get hp]
  by_cases ea : a < p
  · rw [if_pos ea]
    by_cases eb : b < p
    · rw [if_pos eb]; exact hu a b hab (by omega)
    · rw [if_neg eb]
      have h3 : cmpL (qs.getD (p - 1) []) q ≤ 0 := by rcases h2 with h2 | h2; omega; exact cmpL_swap h2
      have h4 : cmpL (qs.getD a []) q ≤ 0 := by
        by_cases e : a = p - 1
        · subst e; exact h3
        · exact cmpL_le_trans (hu a (p - 1) (by omega) (by omega)) h3
      by_cases eb' : b = p
      · rw [if_pos eb']; exact h4
      · rw [if_neg eb']; exact hu a (b - 1) (by omega) (by omega)
  · rw [if_neg ea, if_neg (by omega : ¬ b < p), if_neg (by omega : ¬ b = p)]
    by_cases ea' : a = p
    · rw [if_pos ea']
      have := h1 (b - 1) (by omega) (by omega)
      omega
    · rw [if_neg ea']; exact hu (a - 1) (b - 1) (by omega) (by omega)

theorem hv_is (hs : Nat → Option Addr × Nat) (qs : List (List Int)) (i : Nat) : hv hs qs i = .slice (hs i).1 (qs.getD i []).length (hs i).2 := rfl

set_option maxHeartbeats 1000000 in
theorem len_any (A : Option Addr) (n c : Nat) (w : World) : Calls Tryz.prog 251 #[.slice A n c] w fun e w' => e = .returned (.int .i64 n) ∧ w' = w := by
  go_enter Tryz.func251, Tryz.ntmps251
  go_wp2
  go_ret
  exact ⟨rfl, rfl⟩

set_option maxHeartbeats 1000000 in
theorem less_any (lo hi g n c i j : Nat) (hs : Nat → Option Addr × Nat) (cur : List (List Int)) (w : World) (ho : OwnQ w lo hi (.slice (some ⟨g, 0, none⟩) n c) hs cur) (hn : cur.length = n) (hi' : i < n) (hj' : j < n) (hv' : ∀ q ∈ cur, validB q = true) (ht : Arit w) :
    Calls Tryz.prog 252 #[.slice (some ⟨g, 0, none⟩) n c, .int .i64 i, .int .i64 j] w fun e w' => e = .returned (.bool (decide (cmpL (cur.getD i []) (cur.getD j []) < 0))) ∧ Below w.heap.size w w' := by
  subst hn
  have ci := (ho.at rfl hi').2
  have cj := (ho.at rfl hj').2
  have HF := Lib.hid (formBefore_impl (hs i).1 (hs j).1 _ _ (hs i).2 (hs j).2 _ _ w.drew (RdI.of_own (ho.inner i hi')) (RdI.of_own (ho.inner j hj')) ht (own_cap (ho.inner i hi')).1 (own_cap (ho.inner j hj')).1)
  rw [show befB (cur.getD i []) (cur.getD j []) = decide (cmpL (cur.getD i []) (cur.getD j []) < 0) from by unfold befB; rw [hv' _ (getD_mem hi'), hv' _ (getD_mem hj')]; rfl] at HF
  rw [hv_is] at ci cj
  have di : (i : Int) < (cur.length : Int) := by omega
  have dj : (j : Int) < (cur.length : Int) := by omega
  clear ho ht hv'
  generalize (cur.getD i []).length = li at *
  generalize (cur.getD j []).length = lj at *
  generalize decide (cmpL (cur.getD i []) (cur.getD j []) < 0) = R at *
  generalize cur.length = n at *
  generalize (hs i).1 = A1 at *; generalize (hs i).2 = c1 at *; generalize (hs j).1 = A2 at *; generalize (hs j).2 = c2 at *
  go_enter Tryz.func252, Tryz.ntmps252
  go_wp2_with (fail)
  go_region_with (go_at_call 254; refine HF.out.mono ?_; rintro e w' ⟨rfl, bel'⟩; have bel := undrew bel'; clear bel')
  all_goals go_wp2
  all_goals go_ret
  all_goals exact ⟨rfl, bel⟩

set_option maxHeartbeats 1000000 in
theorem swap_any (lo hi g n c i j : Nat) (hs : Nat → Option Addr × Nat) (cur : List (List Int)) (w : World) (ho : OwnQ w lo hi (.slice (some ⟨g, 0, none⟩) n c) hs cur) (hn : cur.length = n) (hi' : i < n) (hj' : j < n) :
    Calls Tryz.prog 253 #[.slice (some ⟨g, 0, none⟩) n c, .int .i64 i, .int .i64 j] w fun e w' => e = .returned (.tuple #[]) ∧ OwnQ w' lo hi (.slice (some ⟨g, 0, none⟩) n c) (swh hs i j) (swp cur i j) ∧ w.grownBy w' (some g) := by
  obtain ⟨fI, cI⟩ := ho.at hn hi'
  obtain ⟨fJ, cJ⟩ := ho.at hn hj'
  subst hn
  have hy : ∃ y, (w.setCell ⟨g, i, none⟩ (hv hs cur j)).cell? ⟨g, j, none⟩ = some y := by
    have := (ho.outer.stored i (hv hs cur j)).1.cellAt j (by omega)
    rw [this]
    exact ⟨_, List.getElem?_eq_getElem (by simp [rowV_len]; exact hj')⟩
  obtain ⟨y, hy⟩ := hy
  have hsw := Lib.hid (ho.swap rfl hi' hj')
  have hbl : Hid (w.grownBy ((w.setCell ⟨g, i, none⟩ (hv hs cur j)).setCell ⟨g, j, none⟩ (hv hs cur i)) (some g)) := Lib.hid ⟨rfl, rfl, rfl, by simp, fun k _ hne => (Below.heap_setCell _ _ _ _ (fun e => hne (by rw [e]))).trans (Below.heap_setCell _ _ _ _ (fun e => hne (by rw [e])))⟩
  have di : (i : Int) < (cur.length : Int) := by omega
  have dj : (j : Int) < (cur.length : Int) := by omega
  have EI : ∃ x y z, hv hs cur i = .slice x y z := ⟨_, _, _, rfl⟩
  have EJ : ∃ x y z, hv hs cur j = .slice x y z := ⟨_, _, _, rfl⟩
  clear ho
  generalize hv hs cur i = vI at *
  generalize hv hs cur j = vJ at *
  obtain ⟨xI, yI, zI, rfl⟩ := EI
  obtain ⟨xJ, yJ, zJ, rfl⟩ := EJ
  go_enter Tryz.func253, Tryz.ntmps253
  go_region
  all_goals go_wp2
  all_goals go_end0
  all_goals exact ⟨rfl, hsw.out.same (fun _ _ _ _ => rfl), grownBy_drewN hbl.out 1⟩

set_option maxRecDepth 1000000 in
theorem len64_any (k : Nat) (hk : k ≤ 10) (w : World) : Calls Tryz.prog 141 #[.int .u64 k] w fun e w' => (∃ r : Int, e = .returned (.int .i64 r)) ∧ w' = w := by
  have h : k = 0 ∨ k = 1 ∨ k = 2 ∨ k = 3 ∨ k = 4 ∨ k = 5 ∨ k = 6 ∨ k = 7 ∨ k = 8 ∨ k = 9 ∨ k = 10 := by omega
  rcases h with rfl | rfl | rfl | rfl | rfl | rfl | rfl | rfl | rfl | rfl | rfl
  all_goals
    go_enter Tryz.func141, Tryz.ntmps141
    go_wp2
    go_ret
    exact ⟨⟨_, rfl⟩, rfl⟩

theorem len_bits (k : Nat) (hk : k ≤ 10) (w : World) : Calls Tryz.prog 102 #[.int .u64 k] w fun e w' => (∃ r : Int, e = .returned (.int .i64 r)) ∧ w' = w := by
  have H := Lib.hid (len64_any k hk w)
  go_enter Tryz.func102, Tryz.ntmps102
  go_wp2_with (fail)
  refine H.out.mono ?_
  rintro e w' ⟨⟨r, rfl⟩, rfl⟩
  go_wp2
  go_ret
  exact ⟨⟨_, rfl⟩, rfl⟩

/-- The row while it is sorted. -/
def SrtQ (w : World) (lo g n c : Nat) (qs cur : List (List Int)) (wr : World) : Prop := (∃ hs, OwnQ wr lo wr.heap.size (.slice (some ⟨g, 0, none⟩) n c) hs cur) ∧ cur.Perm qs ∧ w.grownBy wr (some g) ∧ lo ≤ wr.heap.size

theorem SrtQ.below {w0 w w' : World} {lo g n c : Nat} {qs cur : List (List Int)} (h : SrtQ w0 lo g n c qs cur w) (hb : Below w.heap.size w w') : SrtQ w0 lo g n c qs cur w' := by
  obtain ⟨⟨hs, ho⟩, hp, hbl, hl⟩ := h
  exact ⟨⟨hs, (ho.below hb).more (Nat.le_refl _) hb.size⟩, hp, grown_below hbl hb, Nat.le_trans hl hb.size⟩
theorem SrtQ.swapped {w0 w w' : World} {lo g n c i j : Nat} {qs cur : List (List Int)} {hs : Nat → Option Addr × Nat} (h : SrtQ w0 lo g n c qs cur w) (hi : i < cur.length) (hj : j < cur.length) (ho : OwnQ w' lo w.heap.size (.slice (some ⟨g, 0, none⟩) n c) hs (swp cur i j)) (hb : w.grownBy w' (some g)) :
    SrtQ w0 lo g n c qs (swp cur i j) w' := by
  obtain ⟨_, hp, hbl, hl⟩ := h
  exact ⟨⟨hs, ho.more (Nat.le_refl _) hb.size⟩, (swp_perm hi hj).trans hp, grownBy_trans hbl hb, Nat.le_trans hl hb.size⟩
theorem SrtQ.arit {w0 w : World} {lo g n c : Nat} {qs cur : List (List Int)} (h : SrtQ w0 lo g n c qs cur w) (ht : Arit w0) (hlo : 1 < lo) : Arit w := by
  obtain ⟨⟨hs, ho⟩, _, hg, _⟩ := h
  have hlg : lo ≤ g := (ho.outer.lt g rfl).1
  exact ht.same fun i => World.cell?_of_block (hg.block _ ht.lt (fun e => by injection e with e; have e' : 1 = g := e; omega))

set_option maxHeartbeats 4000000 in
set_option maxRecDepth 100000 in
theorem insertionSort_any (lo g n c : Nat) (qs : List (List Int)) (w w0 : World) (h : SrtQ w0 lo g n c qs qs w) (hn : qs.length = n) (h2 : 2 ≤ n) (h10 : n ≤ 10) (hv : ∀ q ∈ qs, validB q = true) (ht : Arit w0) (hlo : 1 < lo) :
    Calls Tryz.prog 142 #[.iface 68 (.slice (some ⟨g, 0, none⟩) n c), .int .i64 0, .int .i64 n] w fun e w' => e = .returned (.tuple #[]) ∧ SrtQ w0 lo g n c qs (srtL qs) w' := by
  have mL : ∀ w, (method 426 68 (.slice (some ⟨g, 0, none⟩) n c) "Less").run Tryz.prog w = .ok (252, .slice (some ⟨g, 0, none⟩) n c) w := fun _ => by kernel_rfl
  have mS : ∀ w, (method 426 68 (.slice (some ⟨g, 0, none⟩) n c) "Swap").run Tryz.prog w = .ok (253, .slice (some ⟨g, 0, none⟩) n c) w := fun _ => by kernel_rfl
  have H := Lib.hid h; have HV := Lib.hid hv; have HT := Lib.hid ht; have HN := Lib.hid hn; have HLO := Lib.hid hlo
  clear h hv ht hn hlo
  go_enter Tryz.func142, Tryz.ntmps142
  go_wp2_with (fail)
  go_loopw [6] (fun i wr => ∃ (k : Nat) (cur : List (List Int)), 1 ≤ k ∧ k ≤ n ∧ i = .int .i64 k ∧ SrtQ w0 lo g n c qs cur wr ∧ UpTo cur k) (fun i _ => n - (intOf i).toNat)
  case atStart => exact ⟨1, qs, Nat.le_refl _, by omega, rfl, H.out, fun a b h1 h2 => absurd h2 (by omega)⟩
  case round =>
    obtain ⟨k, cur, hk1, hk2, rfl, hS, hU⟩ := hrel
    have HS := Lib.hid hS; have HU := Lib.hid hU
    clear hS hU
    by_cases hlt : k < n
    · go_wp2_with (fail)
      go_loopw [7] (fun j wx => ∃ (p : Nat) (cu : List (List Int)), p ≤ k ∧ j = .int .i64 p ∧ SrtQ w0 lo g n c qs cu wx ∧ Ins1 cu k p) (fun j _ => (intOf j).toNat)
      case atStart => exact ⟨k, cur, Nat.le_refl _, rfl, HS.out, Ins1.start HU.out⟩
      case round =>
        obtain ⟨p, cu, hp, rfl, hS2, hI⟩ := hrel
        have HS2 := Lib.hid hS2; have HI := Lib.hid hI
        clear hS2 hI HS HU
        have HLN : Hid (cu.length = n) := Lib.hid (HS2.out.2.1.length_eq.trans HN.out)
        by_cases hp0 : p = 0
        · subst hp0
          go_wp2
          go_roundw
          case rel => exact ⟨k + 1, cu, by omega, by omega, by go_num, HS2.out, HI.out.stop (.inl rfl)⟩
          case measure => simp [intOf]; omega
        · have hd : decide ((0 : Int) < (p : Int)) = true := decide_eq_true (by omega)
          obtain ⟨hs, ho⟩ := HS2.out.1
          have hLL := less_any lo _ g n c p (p - 1) hs cu wr ho HLN.out (by omega) (by omega) (fun q hq => HV.out q (HS2.out.2.1.mem_iff.1 hq)) (HS2.out.arit HT.out HLO.out)
          rw [show ((p - 1 : Nat) : Int) = (p : Int) - 1 by omega] at hLL
          by_cases hc : cmpL (cu.getD p []) (cu.getD (p - 1) []) < 0
          · rw [decide_eq_true hc] at hLL
            have HC := Lib.hid hc
            have HLL := Lib.hid hLL
            have HO := Lib.hid ho
            clear hLL hc ho
            go_wp2_with (fail)
            refine HLL.out.mono ?_
            rintro e wl ⟨rfl, bl⟩
            have HSL := Lib.hid (HS2.out.below bl)
            have hoL := (HO.out.below bl).more (Nat.le_refl lo) bl.size
            have hSW := swap_any lo _ g n c p (p - 1) hs cu wl hoL HLN.out (by omega) (by omega)
            rw [show ((p - 1 : Nat) : Int) = (p : Int) - 1 by omega] at hSW
            have HSW := Lib.hid hSW
            have HN1 := Lib.hid (Ins1.step HI.out (by omega) hp (by rw [HLN.out]; exact hlt) HC.out)
            clear hSW hoL bl HLL HC HI HO
            go_wp2_with (fail)
            refine HSW.out.mono ?_
            rintro e wm ⟨rfl, om, bm⟩
            have HSM := Lib.hid (HSL.out.swapped (by rw [HLN.out]; omega) (by rw [HLN.out]; omega) om bm)
            clear om bm HSW HSL
            go_wp2
            go_roundw
            case rel => exact ⟨p - 1, _, by omega, by rw [show ((p - 1 : Nat) : Int) = (p : Int) - 1 by omega], HSM.out, HN1.out⟩
            case measure => simp [intOf]; omega
          · rw [decide_eq_false hc] at hLL
            have HC := Lib.hid hc
            have HLL := Lib.hid hLL
            clear hLL hc ho
            go_wp2_with (fail)
            refine HLL.out.mono ?_
            rintro e wl ⟨rfl, bl⟩
            have HSL := Lib.hid (HS2.out.below bl)
            have HU1 := Lib.hid (HI.out.stop (.inr (by have := HC.out; omega)))
            clear bl HLL HC HI HS2
            go_wp2
            go_roundw
            case rel => exact ⟨k + 1, cu, by omega, by omega, by go_num, HSL.out, HU1.out⟩
            case measure => simp [intOf]; omega
    · have hkn : k = n := by omega
      subst hkn
      have HE : Hid (cur = srtL qs) := Lib.hid (by
        have hl : cur.length = k := HS.out.2.1.length_eq.trans HN.out
        exact srt_same HS.out.2.1 (UpTo.sol (by rw [hl]; exact HU.out)))
      go_wp2
      go_end0
      exact ⟨rfl, by rw [← HE.out]; exact HS.out⟩

set_option maxHeartbeats 2000000 in
theorem pdqsort_any (lo g n c : Nat) (lim : Int) (qs : List (List Int)) (w w0 : World) (h : SrtQ w0 lo g n c qs qs w) (hn : qs.length = n) (h2 : 2 ≤ n) (h10 : n ≤ 10) (hv : ∀ q ∈ qs, validB q = true) (ht : Arit w0) (hlo : 1 < lo) :
    Calls Tryz.prog 103 #[.iface 68 (.slice (some ⟨g, 0, none⟩) n c), .int .i64 0, .int .i64 n, .int .i64 lim] w fun e w' => e = .returned (.tuple #[]) ∧ SrtQ w0 lo g n c qs (srtL qs) w' := by
  have HI := Lib.hid (insertionSort_any lo g n c qs w w0 h hn h2 h10 hv ht hlo)
  have hd : decide ((n : Int) ≤ 12) = true := decide_eq_true (by omega)
  clear h hn hv ht hlo
  go_enter Tryz.func103, Tryz.ntmps103
  go_wp2_with (fail)
  go_loopw [1, 2, 3, 8, 9] (fun a b _ _ _ wr => a = .int .i64 0 ∧ b = .int .i64 n ∧ wr = w) (fun _ _ _ _ _ _ => 0)
  case atStart => exact ⟨rfl, rfl, rfl⟩
  case round =>
    obtain ⟨rfl, rfl, rfl⟩ := hrel
    go_wp2_with (fail)
    refine HI.out.mono ?_
    rintro e w' ⟨rfl, hq⟩
    go_wp2
    refine bodyPost_ret (results_none rfl _ _ _) rfl ?_
    exact ⟨rfl, hq⟩

set_option maxHeartbeats 2000000 in
theorem sort_any (lo g n c : Nat) (qs : List (List Int)) (w w0 : World) (h : SrtQ w0 lo g n c qs qs w) (hn : qs.length = n) (h2 : 2 ≤ n) (h10 : n ≤ 10) (hv : ∀ q ∈ qs, validB q = true) (ht : Arit w0) (hlo : 1 < lo) :
    Calls Tryz.prog 50 #[.iface 68 (.slice (some ⟨g, 0, none⟩) n c)] w fun e w' => e = .returned (.tuple #[]) ∧ SrtQ w0 lo g n c qs (srtL qs) w' := by
  have mN : ∀ w, (method 426 68 (.slice (some ⟨g, 0, none⟩) n c) "Len").run Tryz.prog w = .ok (251, .slice (some ⟨g, 0, none⟩) n c) w := fun _ => by kernel_rfl
  have HN := Lib.hid (len_any (some ⟨g, 0, none⟩) n c w)
  have hd : decide ((n : Int) ≤ 1) = false := decide_eq_false (by omega)
  have HB := Lib.hid (len_bits n h10 w)
  have HP := Lib.hid (fun lim => pdqsort_any lo g n c lim qs w w0 h hn h2 h10 hv ht hlo)
  clear h hn hv ht hlo
  go_enter Tryz.func50, Tryz.ntmps50
  go_wp2_with (fail)
  refine HN.out.mono ?_
  rintro e w' ⟨rfl, rfl⟩
  go_wp2_with (fail)
  refine HB.out.mono ?_
  rintro e w' ⟨⟨r, rfl⟩, rfl⟩
  go_wp2_with (fail)
  refine (HP.out r).mono ?_
  rintro e w' ⟨rfl, hq⟩
  go_wp2
  go_end0
  exact ⟨rfl, hq⟩

set_option maxHeartbeats 2000000 in
theorem sort_small (A : Option Addr) (n c : Nat) (w : World) (h2 : n ≤ 1) :
    Calls Tryz.prog 50 #[.iface 68 (.slice A n c)] w fun e w' => e = .returned (.tuple #[]) ∧ w' = w := by
  have mN : ∀ w, (method 426 68 (.slice A n c) "Len").run Tryz.prog w = .ok (251, .slice A n c) w := fun _ => by kernel_rfl
  have HN := Lib.hid (len_any A n c w)
  have hd : decide ((n : Int) ≤ 1) = true := decide_eq_true (by omega)
  go_enter Tryz.func50, Tryz.ntmps50
  go_wp2_with (fail)
  refine HN.out.mono ?_
  rintro e w' ⟨rfl, rfl⟩
  go_wp2
  refine bodyPost_ret (results_none rfl _ _ _) rfl ?_
  exact ⟨rfl, rfl⟩
theorem srt_tiny {qs : List (List Int)} (h : qs.length ≤ 1) : qs = srtL qs := srt_same (List.Perm.refl _) (by
  cases qs with
  | nil => simp [SoL]
  | cons x xs =>
    cases xs with
    | nil => simp [SoL]
    | cons y ys => simp at h)
/-- sort.Sort at a row of one's own; another block stays as it was. -/
theorem sort_own (A : Option Addr) (n c lo b : Nat) (hs : Nat → Option Addr × Nat) (qs : List (List Int)) (w : World) (ho : OwnQ w lo w.heap.size (.slice A n c) hs qs) (hn : qs.length = n) (h10 : n ≤ 10) (hv : ∀ q ∈ qs, validB q = true) (ht : Arit w) (hlo : 1 < lo)
    (hl : lo ≤ w.heap.size) (hb : b < w.heap.size) (hbo : ∀ k, (Value.slice A n c).ownBlock = some k → k ≠ b) :
    Calls Tryz.prog 50 #[.iface 68 (.slice A n c)] w fun e w' => e = .returned (.tuple #[]) ∧ (∃ hs', OwnQ w' lo w'.heap.size (.slice A n c) hs' (srtL qs)) ∧ Below lo w w' ∧ w'.heap[b]? = w.heap[b]? := by
  by_cases h2 : 2 ≤ n
  · obtain ⟨g, cap, hg, hgl, _⟩ := ho.outer.form (by omega)
    rw [hn] at hg
    obtain ⟨rfl, rfl⟩ : A = some ⟨g, 0, none⟩ ∧ c = cap := by injection hg with x y z; exact ⟨x, z⟩
    refine (sort_any lo g n c qs w w ⟨⟨hs, ho⟩, List.Perm.refl _, World.grownBy.refl w _, hl⟩ hn h2 h10 hv ht hlo).mono ?_
    rintro e w' ⟨rfl, hS, _, hgr, hl'⟩
    exact ⟨rfl, hS, (Below.refl lo w).grown hgr hl (fun k hk => by injection hk with hk; omega), hgr.block b hb (fun e => by injection e with e; exact hbo g rfl e.symm)⟩
  · refine (sort_small A n c w (by omega)).mono ?_
    rintro e w' ⟨rfl, rfl⟩
    rw [← srt_tiny (qs := qs) (by omega)]
    exact ⟨rfl, ⟨hs, ho⟩, Below.refl _ _, rfl⟩

/-- The sorted sequent. -/
def srtQ (qs : List (List Int)) : List (List Int) := if validQ qs = true then srtL qs else []
theorem srtQ_no {qs : List (List Int)} (h : validQ qs = false) : srtQ qs = [] := by unfold srtQ; rw [h]; rfl
theorem srtQ_yes {qs : List (List Int)} (h : validQ qs = true) : srtQ qs = srtL qs := by unfold srtQ; rw [if_pos h]
theorem srtQ_small (qs : List (List Int)) : (srtQ qs).length ≤ 1048576 ∧ total (srtQ qs) ≤ 1048576 := by
  cases hv : validQ qs with
  | false => rw [srtQ_no hv]; simp [total]
  | true =>
    rw [srtQ_yes hv]
    have hl := validQ_len hv
    have ht := total_small (qs := srtL qs) fun q hq => (valid_len (validQ_mem hv ((srtL_perm qs).mem_iff.1 hq))).2.1
    rw [srtL_len] at ht
    rw [srtL_len]
    omega

set_option maxHeartbeats 4000000 in
theorem sortedSeq_impl (A : Option Addr) (n c : Nat) (qs : List (List Int)) (w : World) (h : RdQ w w.heap.size A n qs) (hn : n ≤ 1048576) (ht : Arit w) :
    Calls Tryz.prog 15 #[.agg #[.slice A n c]] w (GivesSeq w (srtQ qs)) := by
  have hl := h.len
  subst hl
  obtain ⟨w2, hw2⟩ : ∃ w2, w2 = (w.alloc (.cells #[Value.slice A qs.length c] 26)).alloc (.cells #[.slice none 0 0] 26) := ⟨_, rfl⟩
  obtain ⟨hb, ca, _, hsz⟩ := two_boxes w (.slice A qs.length c) (.slice none 0 0) 26
  obtain ⟨_, hh2⟩ := two_heap w (.cells #[Value.slice A qs.length c] 26) (.cells #[.slice none 0 0] 26)
  have ha : ((w.alloc (.cells #[Value.slice A qs.length c] 26)).alloc (.cells #[.slice none 0 0] 26)).cell? ⟨w.heap.size, 0, none⟩ = some (.slice A qs.length c) := ca
  rw [← hw2] at hb hsz hh2 ca
  have hszl : w.heap.size + 1 < w2.heap.size := by omega
  have hV := validSeq_impl A qs.length c qs w2 ((h.below hb).more hb.size) (Nat.le_trans hn (by decide)) (ht.below hb ht.lt)
  clear hsz
  have HBA := Lib.hid hb; have HH := Lib.hid hh2
  clear hh2
  cases hv : validQ qs with
  | false =>
    have HN := Lib.hid (srtQ_no hv)
    rw [hv] at hV
    have HV := Lib.hid hV
    clear hV h hb
    go_enter Tryz.func15, Tryz.ntmps15
    go_wp2_with (fail)
    rw [← hw2]
    clear hw2 ha
    refine HV.out.mono ?_
    rintro e w3 ⟨rfl, hb2⟩
    obtain ⟨hcx, hfx, h5, o5, b5⟩ := seq_out (V := []) (A := none) (c := 0) HBA.out (b := w.heap.size + 1) (by omega) hszl HH.out (OwnQ.nil w3 w2.heap.size w3.heap.size (fun _ => (none, 0))) hb2
    have H5 := Lib.hid h5; have O5 := Lib.hid o5; have B5 := Lib.hid b5
    clear hb2 h5 o5 b5
    go_wp2
    (try simp only [Exit.inBlock, Exit.then])
    refine bodyPost_ret (results_cell_row rfl _ _ (w.heap.size + 1) _ _ (0, 0) _ rfl H5.out Tryz.underlying26 rfl (by kernel_rfl)) rfl ?_
    exact ⟨_, none, 0, by rw [HN.out], by rw [HN.out]; exact O5.out, B5.out⟩
  | true =>
    rw [hv] at hV
    have HV := Lib.hid hV
    have HN := Lib.hid (srtQ_yes hv)
    have h10 := validQ_len hv
    have hq : ∀ q ∈ qs, q.length ≤ 1000 := fun q hq' => by have := valid_len (validQ_mem hv hq'); omega
    have hp : ∀ q ∈ qs, 0 < q.length := fun q hq' => (valid_len (validQ_mem hv hq')).1
    have HVB := Lib.hid (fun q (hq' : q ∈ qs) => validQ_mem hv hq')
    have hag : 1 < w2.heap.size := Nat.lt_of_lt_of_le ht.lt hb.size
    have HT2 := Lib.hid (ht.below hb ht.lt)
    clear hV hv
    go_enter Tryz.func15, Tryz.ntmps15
    go_wp2_with (fail)
    rw [← hw2]
    clear hw2 ha
    refine HV.out.mono ?_
    rintro e w3 ⟨rfl, bel3⟩
    have ca3 := (bel3.cell (p := ⟨w.heap.size, 0, none⟩) (by show w.heap.size < _; omega)).trans ca
    have s3 := bel3.size
    have b03 := hb.trans (bel3.mono hb.size)
    have HC := Lib.hid (copyOfSeq_any A qs.length c qs w3 ((h.below b03).more b03.size) h10 hq hp)
    have HB3 := Lib.hid bel3
    have HT3 := Lib.hid (HT2.out.below bel3 hag)
    clear bel3 ca HV
    go_wp2_with (fail)
    refine HC.out.mono ?_
    rintro e w6 ⟨hs, A6, c6, rfl, own6, bel6⟩
    clear HC hq hp
    have bel7 := box_below w6 (.slice A6 qs.length c6) 26
    have hh7 : (w6.alloc (.cells #[.slice A6 qs.length c6] 26)).heap[w6.heap.size]? = some (.cells #[.slice A6 qs.length c6] 26 (0, 0)) := heap_alloc_new _ _
    have s7 : (w6.alloc (.cells #[.slice A6 qs.length c6] 26)).heap.size = w6.heap.size + 1 := by simp
    have own7 := (own6.below bel7).more (Nat.le_refl _) bel7.size
    have b37 := bel6.trans (bel7.mono bel6.size)
    have hag3 : 1 < w3.heap.size := Nat.lt_of_lt_of_le hag s3
    have HSO := Lib.hid (sort_own A6 qs.length c6 w3.heap.size w6.heap.size hs qs _ own7 rfl h10 HVB.out (HT3.out.below b37 hag3) hag3 b37.size (by omega) (fun k hk e => by have := (own6.outer.lt k hk).2; omega))
    have s6 := bel6.size
    have hlt3 : w.heap.size + 1 < w3.heap.size := Nat.lt_of_lt_of_le hszl s3
    have hh3 := (HB3.out.block (w.heap.size + 1) hszl).trans HH.out
    have HB37 := Lib.hid b37
    clear own6 bel6 bel7 own7 b37 HVB
    go_wp2_with (fail)
    generalize hbs : w6.heap.size = bs at *
    generalize (w6.alloc (.cells #[.slice A6 qs.length c6] 26)) = w7 at *
    refine HSO.out.mono ?_
    rintro e w8 ⟨rfl, ⟨hs8, own8⟩, bel8, hb8⟩
    have cs8 : w8.cell? ⟨bs, 0, none⟩ = some (.slice A6 qs.length c6) := cell_of_row _ _ 0 _ _ (0, 0) (hb8.trans hh7)
    have HL : Hid ((srtL qs).length = qs.length) := Lib.hid (srtL_len qs)
    obtain ⟨hcx, hfx, h5, o5, b5⟩ := seq_out (V := srtL qs) (A := A6) (c := c6) b03 (b := w.heap.size + 1) (by omega) hlt3 hh3 (by rw [HL.out]; exact own8) (HB37.out.trans bel8)
    rw [HL.out] at h5 o5 b5
    have H5 := Lib.hid h5; have O5 := Lib.hid o5; have B5 := Lib.hid b5
    clear own8 bel8 hb8 h5 o5 b5 HSO hh3 hh7
    go_wp2
    (try simp only [Exit.inBlock, Exit.then])
    refine bodyPost_ret (results_cell_row rfl _ _ (w.heap.size + 1) _ _ (0, 0) _ rfl H5.out Tryz.underlying26 rfl (by kernel_rfl)) rfl ?_
    exact ⟨_, A6, c6, by rw [HN.out, HL.out], by rw [HN.out, HL.out]; exact O5.out, B5.out⟩

/-- The reslice of a row from place p on, and its content. -/
theorem tail_cells {w : World} {lo hi g n c p : Nat} {hs : Nat → Option Addr × Nat} {cur : List (List Int)} (ho : OwnQ w lo hi (.slice (some ⟨g, 0, none⟩) n c) hs cur) (hn : cur.length = n) :
    ∀ j u, ((rowV hs cur).drop p)[j]? = some u → w.cell? ((⟨g, p, none⟩ : Addr).add j) = some u := by
  intro j u hu
  rw [List.getElem?_drop] at hu
  have hj : p + j < cur.length := by
    rcases Nat.lt_or_ge (p + j) cur.length with h | h
    · exact h
    · rw [List.getElem?_eq_none (by rw [rowV_len]; exact h)] at hu; cases hu
  have hadd : (⟨g, p, none⟩ : Addr).add j = ⟨g, p + j, none⟩ := by unfold Addr.add; split <;> simp_all
  rw [hadd, (ho.at hn (by omega)).2, ← hu, rowV_at hj]
theorem head_cells {w : World} {lo hi g n c p : Nat} {hs : Nat → Option Addr × Nat} {cur : List (List Int)} (ho : OwnQ w lo hi (.slice (some ⟨g, 0, none⟩) n c) hs cur) (hn : cur.length = n) :
    ∀ j u, ((rowV hs cur).take p)[j]? = some u → w.cell? ((⟨g, 0, none⟩ : Addr).add j) = some u := by
  intro j u hu
  have hj : j < cur.length ∧ j < p := by
    rcases Nat.lt_or_ge j ((rowV hs cur).take p).length with h | h
    · rw [List.length_take, rowV_len] at h; omega
    · rw [List.getElem?_eq_none h] at hu; cases hu
  have hadd : (⟨g, 0, none⟩ : Addr).add j = ⟨g, j, none⟩ := by unfold Addr.add; split <;> simp_all
  rw [List.getElem?_take, if_pos hj.2] at hu
  rw [hadd, (ho.at hn (by omega)).2, ← hu, rowV_at hj.1]
theorem hv_one {hs : Nat → Option Addr × Nat} {cur : List (List Int)} {u : Value} (h : u ∈ rowV hs cur) : u.oneCell' = true := by
  obtain ⟨i, _, rfl⟩ := List.mem_map.1 h
  rfl

theorem blk_of {g n c b : Nat} (h : (Value.slice (some ⟨g, 0, none⟩) n c).ownBlock = some b) : g = b := by simpa [Value.ownBlock] using h
theorem lit_one (w : World) (v : Value) : (w.alloc (.cells #[v] 35)).ownsRow w.heap.size 35 1 (.slice (some ⟨w.heap.size, 0, none⟩) 1 1) 1 [v] :=
  ⟨by simp, .inr ⟨w.heap.size, 1, #[v], rfl, Nat.le_refl _, heap_alloc_new w _, Nat.le_refl _, by simp [maxLen], rfl, by simp⟩⟩
theorem row_cells {w : World} {base n g c : Nat} {xs : List Value} (h : w.ownsRow base 35 1 (.slice (some ⟨g, 0, none⟩) n c) n xs) : ∀ j u, xs[j]? = some u → w.cell? ((⟨g, 0, none⟩ : Addr).add j) = some u := by
  intro j u hu
  have hl : xs.length = n := by have := h.1; omega
  have hj : j < n := by
    rcases Nat.lt_or_ge j xs.length with h' | h'
    · omega
    · rw [List.getElem?_eq_none h'] at hu; cases hu
  have hadd : (⟨g, 0, none⟩ : Addr).add j = ⟨g, j, none⟩ := by unfold Addr.add; split <;> simp_all
  rw [hadd, h.cellAt j (by omega), hu]

/-- At a step of a region that draws its order: an append of a part of a row, perhaps of nothing. -/
theorem step_append_own {P : Program} {w : World} {ops : Array Oper} {o : Oper} {a : Act} {K : Act → World → Prop} {Q : Exit → Act → World → Prop} {E : Prop} (hgd : o.guard = none) (s x : Operand) (t : TypeId)
    (ho : o.op = .call { callee := .builtin .append, args := #[s, x], argTypes := #[t, t] })
    (base : Nat) (e : TypeId) (i : TypeInfo) (z : Value) (size bytes : Nat) (ht : P.underlying t = some (.slice e)) (hi : P.info? e = some i) (hz : i.zero = some z)
    (hsize : i.size = size) (hby : i.bytes = bytes) (hzs : z.cells.size = size) (hsz : 0 < size)
    (v : Value) (n : Nat) (xs : List Value) (hs : a.eval s = v) (hown : w.ownsRow base e size v n xs)
    (ad : Addr) (m c : Nat) (news : List Value) (hx : a.eval x = .slice (some ad) m c) (hl : news.length = m * size) (hnews : ∀ j u, news[j]? = some u → w.cell? (ad.add j) = some u) (h1 : ∀ u ∈ news, u.oneCell' = true)
    (h63 : n + m ≤ maxLen) (hbytes : (n + m) * bytes ≤ 140737488355328) (hbase : base ≤ w.heap.size)
    (h : ∀ v' w', w'.ownsRow base e size v' (n + m) (xs ++ news) → w.grownBy w' v.ownBlock → (v' = .slice none 0 0 ↔ v = .slice none 0 0 ∧ m = 0) → K (a.put o.dst v') w') :
    if Region.wanted o (yielded ops a.tmps) = true then Oper.wp P o a w K Q else E := by
  have hw : Region.wanted o (yielded ops a.tmps) = true := by simp [Region.wanted, hgd]
  rw [if_pos hw]
  exact wp_append_own w s x t ho base e i z size bytes ht hi hz hsize hby hzs hsz v n xs hs hown ad m c news hx hl hnews h1 h63 hbytes hbase h

end Go.Proofs.YtjhagklpnpabeaaGreatDoor
