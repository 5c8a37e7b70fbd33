/- Sorting by insertion: its mathematics; sort.Sort at a row of at most ten formulas in the order of FormBefore (Len, Less and Swap of byFormBefore, sort.insertionSort, sort.pdqsort); SortedSeq of the program. The model's sortForms and SortedSeq. -/
import Derived.Test.YtjhagklpnpabeaaDoorInsF
import Derived.Test.YtjhagklpnpabeaaDoorSwap
import Derived.Test.YtjhagklpnpabeaaDoorCmp
import Derived.Test.YtjhagklpnpabeaaDoorAny
import Derived.Test.YtjhagklpnpabeaaDoorCopyS
import Derived.StillTailTactics
namespace Go.Proofs.YtjhagklpnpabeaaDoor
open Go.ChangeAt Go.ChangeShapes Go.RowKit Go.WideShapes

theorem cmpL_le_trans {a b c : List Int} (h : cmpL a b ≤ 0) (h' : cmpL b c ≤ 0) : cmpL a c ≤ 0 := by
  by_cases e : cmpL a b = 0
  · rw [cmpL_zero.1 e]; exact h'
  · by_cases e' : cmpL b c = 0
    · rw [← cmpL_zero.1 e']; exact h
    · have := cmpL_trans (a := a) (b := b) (c := c) (by omega) (by omega)
      omega
theorem cmpL_swap {a b : List Int} (h : ¬ cmpL a b < 0) : cmpL b a ≤ 0 := by
  have := cmpL_neg a b
  omega
theorem sol_same : ∀ {xs ys : List (List Int)}, xs.Perm ys → SoL xs → SoL ys → xs = ys
  | [], ys, h, _, _ => h.nil_eq
  | x :: xs, [], h, _, _ => absurd h.length_eq (by simp)
  | x :: xs, y :: ys, h, hx, hy => by
    obtain ⟨hx1, hx2⟩ := List.pairwise_cons.1 hx
    obtain ⟨hy1, hy2⟩ := List.pairwise_cons.1 hy
    have e : x = y := by
      have h1 : x ∈ y :: ys := h.mem_iff.1 (List.mem_cons_self ..)
      have h2 : y ∈ x :: xs := h.mem_iff.2 (List.mem_cons_self ..)
      rcases List.mem_cons.1 h1 with h1 | h1
      · exact h1
      · rcases List.mem_cons.1 h2 with h2 | h2
        · exact h2.symm
        · have a1 := hx1 y h2
          have a2 := hy1 x h1
          have a3 := cmpL_neg x y
          exact cmpL_zero.1 (by omega)
    subst e
    rw [sol_same (List.perm_cons x |>.1 h) hx2 hy2]
def insS (q : List Int) : List (List Int) → List (List Int)
  | [] => [q]
  | x :: xs => if cmpL q x ≤ 0 then q :: x :: xs else x :: insS q xs
/-- The formulas in the order of FormBefore. -/
def srtL : List (List Int) → List (List Int)
  | [] => []
  | q :: qs => insS q (srtL qs)
theorem insS_perm (q : List Int) : ∀ xs : List (List Int), (insS q xs).Perm (q :: xs)
  | [] => List.Perm.refl _
  | x :: xs => by
    unfold insS
    by_cases h : cmpL q x ≤ 0
    · rw [if_pos h]
    · rw [if_neg h]
      exact ((insS_perm q xs).cons x).trans (List.Perm.swap q x xs)
theorem insS_sol (q : List Int) : ∀ xs : List (List Int), SoL xs → SoL (insS q xs)
  | [], _ => by simp [insS, SoL]
  | x :: xs, hs => by
    obtain ⟨h1, h2⟩ := List.pairwise_cons.1 hs
    unfold insS
    by_cases h : cmpL q x ≤ 0
    · rw [if_pos h]
      refine List.pairwise_cons.2 ⟨fun z hz => ?_, hs⟩
      rcases List.mem_cons.1 hz with rfl | hz
      · exact h
      · exact cmpL_le_trans h (h1 z hz)
    · rw [if_neg h]
      refine List.pairwise_cons.2 ⟨fun z hz => ?_, insS_sol q xs h2⟩
      rcases List.mem_cons.1 ((insS_perm q xs).mem_iff.1 hz) with rfl | hz
      · exact cmpL_swap (by omega)
      · exact h1 z hz
theorem srtL_perm : ∀ qs : List (List Int), (srtL qs).Perm qs
  | [] => List.Perm.refl _
  | q :: qs => (insS_perm q _).trans ((srtL_perm qs).cons q)
theorem srtL_sol : ∀ qs : List (List Int), SoL (srtL qs)
  | [] => by simp [srtL, SoL]
  | q :: qs => insS_sol q _ (srtL_sol qs)
theorem srt_same {xs qs : List (List Int)} (hp : xs.Perm qs) (hs : SoL xs) : xs = srtL qs := sol_same (hp.trans (srtL_perm qs).symm) hs (srtL_sol qs)
theorem srtL_len (qs : List (List Int)) : (srtL qs).length = qs.length := (srtL_perm qs).length_eq

theorem swp_perm {qs : List (List Int)} {i j : Nat} (hi : i < qs.length) (hj : j < qs.length) : (swp qs i j).Perm qs := by
  rw [List.perm_iff_count]
  intro z
  have hI : qs.getD i [] = qs[i] := by simp [List.getD, hi]
  have hJ : qs.getD j [] = qs[j] := by simp [List.getD, hj]
  unfold swp
  rw [hI, hJ, List.count_set (by simpa using hj), List.count_set hi]
  simp only [List.getElem_set]
  have hc : (if qs[i] == z then 1 else 0) ≤ List.count z qs := by
    by_cases e : qs[i] == z
    · rw [if_pos e]
      have e' : qs[i] = z := eq_of_beq e
      exact List.count_pos_iff.2 (e' ▸ List.getElem_mem hi)
    · rw [if_neg e]; exact Nat.zero_le _
  by_cases e : i = j
  · subst e
    simp only [if_true]
    omega
  · rw [if_neg e]
    omega

/-- The first k are in order. -/
def UpTo (cur : List (List Int)) (k : Nat) : Prop := ∀ a b, a < b → b < k → cmpL (cur.getD a []) (cur.getD b []) ≤ 0
theorem UpTo.sol {cur : List (List Int)} (h : UpTo cur cur.length) : SoL cur := by
  unfold SoL
  rw [List.pairwise_iff_getElem]
  intro i j hi hj hij
  have := h i j hij hj
  simpa [List.getD, hi, hj] using this
theorem UpTo.of_sol {cur : List (List Int)} (h : SoL cur) : UpTo cur cur.length := by
  intro a b h1 h2
  have := List.pairwise_iff_getElem.1 h a b (by omega) h2 h1
  simpa [List.getD, h2, (show a < cur.length by omega)] using this
/-- The first i + 1 are in order but for the one at place j, which is no greater than what stands behind it. -/
def Ins1 (cur : List (List Int)) (i j : Nat) : Prop := (∀ a b, a < b → b ≤ i → a ≠ j → b ≠ j → cmpL (cur.getD a []) (cur.getD b []) ≤ 0) ∧ ∀ b, j < b → b ≤ i → cmpL (cur.getD j []) (cur.getD b []) ≤ 0
theorem Ins1.start {cur : List (List Int)} {i : Nat} (h : UpTo cur i) : Ins1 cur i i := ⟨fun a b h1 h2 _ h4 => h a b h1 (by omega), fun b h1 h2 => absurd h1 (by omega)⟩
theorem Ins1.stop {cur : List (List Int)} {i j : Nat} (h : Ins1 cur i j) (hx : j = 0 ∨ ¬ cmpL (cur.getD j []) (cur.getD (j - 1) []) < 0) : UpTo cur (i + 1) := by
  intro a b h1 h2
  by_cases ea : a = j
  · subst ea; exact h.2 b h1 (by omega)
  · by_cases eb : b = j
    · subst eb
      rcases hx with hx | hx
      · omega
      · have h3 := cmpL_swap hx
        by_cases e : a = b - 1
        · subst e; exact h3
        · exact cmpL_le_trans (h.1 a (b - 1) (by omega) (by omega) ea (by omega)) h3
    · exact h.1 a b h1 (by omega) ea eb
theorem Ins1.step {cur : List (List Int)} {i j : Nat} (h : Ins1 cur i j) (hj : 0 < j) (hji : j ≤ i) (hi : i < cur.length) (hx : cmpL (cur.getD j []) (cur.getD (j - 1) []) < 0) : Ins1 (swp cur j (j - 1)) i (j - 1) := by
  have g : ∀ k, (swp cur j (j - 1)).getD k [] = cur.getD (if k = j - 1 then j else if k = j then j - 1 else k) [] := fun k => swp_get (by omega) (by omega)
  refine ⟨fun a b h1 h2 h3 h4 => ?_, fun b h1 h2 => ?_⟩
  · rw [g, g, if_neg h3, if_neg h4]
    by_cases ea : a = j
    · rw [if_pos ea]
      rw [if_neg (by omega)]
      exact h.1 _ _ (by omega) h2 (by omega) (by omega)
    · rw [if_neg ea]
      by_cases eb : b = j
      · rw [if_pos eb]; exact h.1 _ _ (by omega) (by omega) ea (by omega)
      · rw [if_neg eb]; exact h.1 _ _ h1 h2 ea eb
  · rw [g, g, if_pos rfl, if_neg (by omega)]
    by_cases eb : b = j
    · rw [if_pos eb]; omega
    · rw [if_neg eb]; exact h.2 b (by omega) h2

/-- The place at which a formula is put in, found from the right. -/
theorem insAt_perm {qs : List (List Int)} {p : Nat} (q : List Int) (_hp : p ≤ qs.length) : (insAt qs p q).Perm (q :: qs) := by
  unfold insAt
  have h : (qs.take p ++ q :: qs.drop p).Perm (q :: (qs.take p ++ qs.drop p)) := List.perm_middle
  rwa [List.take_append_drop] at h
theorem insAt_sol {qs : List (List Int)} {p : Nat} {q : List Int} (hs : SoL qs) (hp : p ≤ qs.length) (h1 : ∀ b, p ≤ b → b < qs.length → cmpL q (qs.getD b []) < 0) (h2 : p = 0 ∨ ¬ cmpL q (qs.getD (p - 1) []) < 0) : SoL (insAt qs p q) := by
  apply UpTo.sol
  have hu := UpTo.of_sol hs
  rw [insAt_len hp]
  intro a b hab hb
  rw [insAt_get hp, insAt_get hp]
  by_cases ea : a < p
  · rw [if_pos ea]
    by_cases eb : b < p
    · rw [if_pos eb]; exact hu a b hab (by omega)
    · rw [if_neg eb]
      have h3 : cmpL (qs.getD (p - 1) []) q ≤ 0 := by rcases h2 with h2 | h2; omega; exact cmpL_swap h2
      have h4 : cmpL (qs.getD a []) q ≤ 0 := by
        by_cases e : a = p - 1
        · subst e; exact h3
        · exact cmpL_le_trans (hu a (p - 1) (by omega) (by omega)) h3
      by_cases eb' : b = p
      · rw [if_pos eb']; exact h4
      · rw [if_neg eb']; exact hu a (b - 1) (by omega) (by omega)
  · rw [if_neg ea, if_neg (by omega : ¬ b < p), if_neg (by omega : ¬ b = p)]
    by_cases ea' : a = p
    · rw [if_pos ea']
      have := h1 (b - 1) (by omega) (by omega)
      omega
    · rw [if_neg ea']; exact hu (a - 1) (b - 1) (by omega) (by omega)

theorem hv_is (hs : Nat → Option Addr × Nat) (qs : List (List Int)) (i : Nat) : hv hs qs i = .slice (hs i).1 (qs.getD i []).length (hs i).2 := rfl

set_option maxRecDepth 1000000 in
theorem len64_any (k : Nat) (hk : k ≤ 10) (w : World) : Calls Tryd.prog 105 #[.int .u64 k] w fun e w' => (∃ r : Int, e = .returned (.int .i64 r)) ∧ w' = w := by
  have h : k = 0 ∨ k = 1 ∨ k = 2 ∨ k = 3 ∨ k = 4 ∨ k = 5 ∨ k = 6 ∨ k = 7 ∨ k = 8 ∨ k = 9 ∨ k = 10 := by omega
  rcases h with rfl | rfl | rfl | rfl | rfl | rfl | rfl | rfl | rfl | rfl | rfl
  all_goals
    go_enter Tryd.func105, Tryd.ntmps105
    go_wp2
    go_ret
    exact ⟨⟨_, rfl⟩, rfl⟩

/-- The row while it is sorted. -/
def SrtQ (w : World) (lo g n c : Nat) (qs cur : List (List Int)) (wr : World) : Prop := (∃ hs, OwnQ wr lo wr.heap.size (.slice (some ⟨g, 0, none⟩) n c) hs cur) ∧ cur.Perm qs ∧ w.grownBy wr (some g) ∧ lo ≤ wr.heap.size

theorem SrtQ.below {w0 w w' : World} {lo g n c : Nat} {qs cur : List (List Int)} (h : SrtQ w0 lo g n c qs cur w) (hb : Below w.heap.size w w') : SrtQ w0 lo g n c qs cur w' := by
  obtain ⟨⟨hs, ho⟩, hp, hbl, hl⟩ := h
  exact ⟨⟨hs, (ho.below hb).more (Nat.le_refl _) hb.size⟩, hp, grown_below hbl hb, Nat.le_trans hl hb.size⟩
theorem SrtQ.swapped {w0 w w' : World} {lo g n c i j : Nat} {qs cur : List (List Int)} {hs : Nat → Option Addr × Nat} (h : SrtQ w0 lo g n c qs cur w) (hi : i < cur.length) (hj : j < cur.length) (ho : OwnQ w' lo w.heap.size (.slice (some ⟨g, 0, none⟩) n c) hs (swp cur i j)) (hb : w.grownBy w' (some g)) :
    SrtQ w0 lo g n c qs (swp cur i j) w' := by
  obtain ⟨_, hp, hbl, hl⟩ := h
  exact ⟨⟨hs, ho.more (Nat.le_refl _) hb.size⟩, (swp_perm hi hj).trans hp, grownBy_trans hbl hb, Nat.le_trans hl hb.size⟩
theorem SrtQ.arit {w0 w : World} {lo g n c : Nat} {qs cur : List (List Int)} (h : SrtQ w0 lo g n c qs cur w) (ht : Arit w0) (hlo : 2 < lo) : Arit w := by
  obtain ⟨⟨hs, ho⟩, _, hg, _⟩ := h
  have hlg : lo ≤ g := (ho.outer.lt g rfl).1
  exact ht.same fun i => World.cell?_of_block (hg.block _ ht.lt (fun e => by injection e with e; have e' : 2 = g := e; omega))

theorem srt_tiny {qs : List (List Int)} (h : qs.length ≤ 1) : qs = srtL qs := srt_same (List.Perm.refl _) (by
  cases qs with
  | nil => simp [SoL]
  | cons x xs =>
    cases xs with
    | nil => simp [SoL]
    | cons y ys => simp at h)
/-- The sorted sequent. -/
def srtQ (qs : List (List Int)) : List (List Int) := if validQ qs = true then srtL qs else []
theorem srtQ_no {qs : List (List Int)} (h : validQ qs = false) : srtQ qs = [] := by unfold srtQ; rw [h]; rfl
theorem srtQ_yes {qs : List (List Int)} (h : validQ qs = true) : srtQ qs = srtL qs := by unfold srtQ; rw [if_pos h]
theorem srtQ_small (qs : List (List Int)) : (srtQ qs).length ≤ 1048576 ∧ total (srtQ qs) ≤ 1048576 := by
  cases hv : validQ qs with
  | false => rw [srtQ_no hv]; simp [total]
  | true =>
    rw [srtQ_yes hv]
    have hl := validQ_len hv
    have ht := total_small (qs := srtL qs) fun q hq => (valid_len (validQ_mem hv ((srtL_perm qs).mem_iff.1 hq))).2.1
    rw [srtL_len] at ht
    rw [srtL_len]
    omega

/-- The reslice of a row from place p on, and its content. -/
theorem tail_cells {w : World} {lo hi g n c p : Nat} {hs : Nat → Option Addr × Nat} {cur : List (List Int)} (ho : OwnQ w lo hi (.slice (some ⟨g, 0, none⟩) n c) hs cur) (hn : cur.length = n) :
    ∀ j u, ((rowV hs cur).drop p)[j]? = some u → w.cell? ((⟨g, p, none⟩ : Addr).add j) = some u := by
  intro j u hu
  rw [List.getElem?_drop] at hu
  have hj : p + j < cur.length := by
    rcases Nat.lt_or_ge (p + j) cur.length with h | h
    · exact h
    · rw [List.getElem?_eq_none (by rw [rowV_len]; exact h)] at hu; cases hu
  have hadd : (⟨g, p, none⟩ : Addr).add j = ⟨g, p + j, none⟩ := by unfold Addr.add; split <;> simp_all
  rw [hadd, (ho.at hn (by omega)).2, ← hu, rowV_at hj]
theorem head_cells {w : World} {lo hi g n c p : Nat} {hs : Nat → Option Addr × Nat} {cur : List (List Int)} (ho : OwnQ w lo hi (.slice (some ⟨g, 0, none⟩) n c) hs cur) (hn : cur.length = n) :
    ∀ j u, ((rowV hs cur).take p)[j]? = some u → w.cell? ((⟨g, 0, none⟩ : Addr).add j) = some u := by
  intro j u hu
  have hj : j < cur.length ∧ j < p := by
    rcases Nat.lt_or_ge j ((rowV hs cur).take p).length with h | h
    · rw [List.length_take, rowV_len] at h; omega
    · rw [List.getElem?_eq_none h] at hu; cases hu
  have hadd : (⟨g, 0, none⟩ : Addr).add j = ⟨g, j, none⟩ := by unfold Addr.add; split <;> simp_all
  rw [List.getElem?_take, if_pos hj.2] at hu
  rw [hadd, (ho.at hn (by omega)).2, ← hu, rowV_at hj.1]
theorem hv_one {hs : Nat → Option Addr × Nat} {cur : List (List Int)} {u : Value} (h : u ∈ rowV hs cur) : u.oneCell' = true := by
  obtain ⟨i, _, rfl⟩ := List.mem_map.1 h
  rfl

theorem blk_of {g n c b : Nat} (h : (Value.slice (some ⟨g, 0, none⟩) n c).ownBlock = some b) : g = b := by simpa [Value.ownBlock] using h
theorem lit_one (w : World) (v : Value) : (w.alloc (.cells #[v] 30)).ownsRow w.heap.size 30 1 (.slice (some ⟨w.heap.size, 0, none⟩) 1 1) 1 [v] :=
  ⟨by simp, .inr ⟨w.heap.size, 1, #[v], rfl, Nat.le_refl _, heap_alloc_new w _, Nat.le_refl _, by simp [maxLen], rfl, by simp⟩⟩
theorem row_cells {w : World} {base n g c : Nat} {xs : List Value} (h : w.ownsRow base 30 1 (.slice (some ⟨g, 0, none⟩) n c) n xs) : ∀ j u, xs[j]? = some u → w.cell? ((⟨g, 0, none⟩ : Addr).add j) = some u := by
  intro j u hu
  have hl : xs.length = n := by have := h.1; omega
  have hj : j < n := by
    rcases Nat.lt_or_ge j xs.length with h' | h'
    · omega
    · rw [List.getElem?_eq_none h'] at hu; cases hu
  have hadd : (⟨g, 0, none⟩ : Addr).add j = ⟨g, j, none⟩ := by unfold Addr.add; split <;> simp_all
  rw [hadd, h.cellAt j (by omega), hu]

/-- At a step of a region that draws its order: an append of a part of a row, perhaps of nothing. -/
theorem step_append_own {P : Program} {w : World} {ops : Array Oper} {o : Oper} {a : Act} {K : Act → World → Prop} {Q : Exit → Act → World → Prop} {E : Prop} (hgd : o.guard = none) (s x : Operand) (t : TypeId)
    (ho : o.op = .call { callee := .builtin .append, args := #[s, x], argTypes := #[t, t] })
    (base : Nat) (e : TypeId) (i : TypeInfo) (z : Value) (size bytes : Nat) (ht : P.underlying t = some (.slice e)) (hi : P.info? e = some i) (hz : i.zero = some z)
    (hsize : i.size = size) (hby : i.bytes = bytes) (hzs : z.cells.size = size) (hsz : 0 < size)
    (v : Value) (n : Nat) (xs : List Value) (hs : a.eval s = v) (hown : w.ownsRow base e size v n xs)
    (ad : Addr) (m c : Nat) (news : List Value) (hx : a.eval x = .slice (some ad) m c) (hl : news.length = m * size) (hnews : ∀ j u, news[j]? = some u → w.cell? (ad.add j) = some u) (h1 : ∀ u ∈ news, u.oneCell' = true)
    (h63 : n + m ≤ maxLen) (hbytes : (n + m) * bytes ≤ 140737488355328) (hbase : base ≤ w.heap.size)
    (h : ∀ v' w', w'.ownsRow base e size v' (n + m) (xs ++ news) → w.grownBy w' v.ownBlock → (v' = .slice none 0 0 ↔ v = .slice none 0 0 ∧ m = 0) → K (a.put o.dst v') w') :
    if Region.wanted o (yielded ops a.tmps) = true then Oper.wp P o a w K Q else E := by
  have hw : Region.wanted o (yielded ops a.tmps) = true := by simp [Region.wanted, hgd]
  rw [if_pos hw]
  exact wp_append_own w s x t ho base e i z size bytes ht hi hz hsize hby hzs hsz v n xs hs hown ad m c news hx hl hnews h1 h63 hbytes hbase h

end Go.Proofs.YtjhagklpnpabeaaDoor
