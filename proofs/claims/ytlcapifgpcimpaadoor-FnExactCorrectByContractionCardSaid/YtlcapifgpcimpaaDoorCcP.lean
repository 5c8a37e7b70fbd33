/- Mathematics: the model's merging is the contraction. -/
import Derived.Test.YtlcapifgpcimpaaDoorCcN
namespace Go.Proofs.YtlcapifgpcimpaaDoor
set_option linter.unusedSimpArgs false
set_option linter.unusedVariables false
open Go.ChangeAt Go.ChangeShapes Go.RowKit Go.WideShapes

/-- What the model's merging leaves of the first k edges: those that aren't in the list, renamed. -/
def mgL (es : List Ed) (xs : List Int) (k : Nat) : List Ed := ((List.range k).filter fun i : Nat => !decide ((i : Int) ∈ xs)).map fun i => rnD (es.getD (xs.getD 0 0).toNat Ed.nil) (es.getD i Ed.nil)
theorem mgL_zero (es : List Ed) (xs : List Int) : mgL es xs 0 = [] := rfl
theorem mgL_yes {es : List Ed} {xs : List Int} {k : Nat} (h : ¬ (k : Int) ∈ xs) : mgL es xs (k + 1) = mgL es xs k ++ [rnD (es.getD (xs.getD 0 0).toNat Ed.nil) (es.getD k Ed.nil)] := by
  unfold mgL
  rw [List.range_succ, List.filter_append, List.map_append, List.filter_cons_of_pos (by simpa using h)]
  rfl
theorem mgL_no {es : List Ed} {xs : List Int} {k : Nat} (h : (k : Int) ∈ xs) : mgL es xs (k + 1) = mgL es xs k := by
  unfold mgL
  rw [List.range_succ, List.filter_append, List.map_append, List.filter_cons_of_neg (by simpa using h)]
  simp
theorem mgL_len (es : List Ed) (xs : List Int) (k : Nat) : (mgL es xs k).length ≤ k := by
  unfold mgL
  rw [List.length_map]
  exact Nat.le_trans (List.length_filter_le _ _) (by simp)
theorem map_range (es : List Ed) : (List.range es.length).map (fun i => es.getD i Ed.nil) = es := by
  apply List.ext_getElem?
  intro i
  by_cases h : i < es.length
  · simp [h]
  · rw [List.getElem?_eq_none (by simp; omega), List.getElem?_eq_none (by omega)]
theorem nodup_filter : ∀ {l : List Nat}, l.Nodup → ∀ {k a : Nat}, l[k]? = some a → (l.filter fun n => !decide (n = a)) = l.eraseIdx k
  | [], _, k, t, h => absurd h (by simp)
  | y :: ys, hd, 0, t, h => by
    rw [List.nodup_cons] at hd
    have e : y = t := by simpa using h
    subst e
    rw [List.filter_cons_of_neg (by simp), List.eraseIdx_cons_zero, List.filter_eq_self]
    intro n hn
    have : n ≠ y := fun e => hd.1 (e ▸ hn)
    simp [this]
  | y :: ys, hd, k + 1, t, h => by
    rw [List.nodup_cons] at hd
    have h2 : ys[k]? = some t := by simpa using h
    have hm : t ∈ ys := List.mem_of_getElem? h2
    have hne : ¬ y = t := fun e => hd.1 (e ▸ hm)
    rw [List.filter_cons_of_pos (by simp [hne]), List.eraseIdx_cons_succ, nodup_filter hd.2 h2]
theorem map_erase {α β : Type} (f : α → β) (l : List α) (k : Nat) : (l.eraseIdx k).map f = (l.map f).eraseIdx k := by
  rw [List.eraseIdx_eq_take_drop_succ, List.eraseIdx_eq_take_drop_succ, List.map_append, List.map_take, List.map_drop]
theorem mg_single {es : List Ed} {k : Nat} (hk : k < es.length) (hp : (es.getD k Ed.nil).p = -1) : mgL es [(k : Int)] es.length = ctrE es k := by
  unfold mgL ctrE
  rw [if_pos hp]
  have e0 : ([(k : Int)].getD 0 0).toNat = k := by simp
  rw [e0]
  have e1 : ((List.range es.length).filter fun i : Nat => !decide ((i : Int) ∈ [(k : Int)])) = (List.range es.length).eraseIdx k := by
    rw [← nodup_filter List.nodup_range (k := k) (a := k) (by simp [hk])]
    refine List.filter_congr fun i _ => ?_
    by_cases e : i = k
    · simp [e]
    · have : ¬ (i : Int) = k := by omega
      simp [e, this]
  rw [e1]
  rw [show (fun i => rnD (es.getD k Ed.nil) (es.getD i Ed.nil)) = rnD (es.getD k Ed.nil) ∘ fun i => es.getD i Ed.nil from rfl, ← List.map_map, map_erase (fun i => es.getD i Ed.nil), map_range]
theorem mem_mt {es : List Ed} {p : Int} {n i : Nat} : (i : Int) ∈ mtL es p n ↔ i < n ∧ (es.getD i Ed.nil).p = p := by
  unfold mtL
  rw [List.mem_map]
  constructor
  · rintro ⟨j, hj, e⟩
    rw [List.mem_filter] at hj
    obtain rfl : j = i := by omega
    exact ⟨List.mem_range.1 hj.1, by simpa using hj.2⟩
  · rintro ⟨h1, h2⟩
    exact ⟨i, List.mem_filter.2 ⟨List.mem_range.2 h1, by simpa using h2⟩, rfl⟩
theorem mt_nat {es : List Ed} {p : Int} {n : Nat} {x : Int} (h : x ∈ mtL es p n) : ∃ i : Nat, x = i ∧ i < n ∧ (es.getD i Ed.nil).p = p := by
  unfold mtL at h
  rw [List.mem_map] at h
  obtain ⟨j, hj, rfl⟩ := h
  rw [List.mem_filter] at hj
  exact ⟨j, rfl, List.mem_range.1 hj.1, by simpa using hj.2⟩
theorem canE_pair {es : List Ed} {e y : Ed} (h : canE es e = true) (hp : e.p ≠ -1) (hy : y ∈ es) (hyp : y.p = e.p) : loE y = loE e ∧ hiE y = hiE e := by
  unfold canE at h
  rw [decide_eq_false hp, Bool.false_or, Bool.and_eq_true, List.all_eq_true] at h
  have := h.2 y hy
  rw [decide_eq_true hyp] at this
  simpa using this
theorem hd_mem {l : List Int} (h : 0 < l.length) : l.getD 0 0 ∈ l := by
  cases l with
  | nil => simp at h
  | cons a b => simp
theorem mg_pair {es : List Ed} {k : Nat} (hk : k < es.length) (hp : (es.getD k Ed.nil).p ≠ -1) (hc : canE es (es.getD k Ed.nil) = true) : mgL es (mtL es (es.getD k Ed.nil).p es.length) es.length = ctrE es k := by
  have hne : 0 < (mtL es (es.getD k Ed.nil).p es.length).length := List.length_pos_of_mem (mem_mt.2 ⟨hk, rfl⟩)
  have hm0 := hd_mem hne
  obtain ⟨i, ei, hi, hip⟩ := mt_nat hm0
  obtain ⟨l1, l2⟩ := canE_pair hc hp (getE_mem hi) hip
  unfold mgL ctrE
  rw [if_neg hp, ei, Int.toNat_natCast]
  have er : rnD (es.getD i Ed.nil) = rnD (es.getD k Ed.nil) := by funext x; unfold rnD; rw [l1, l2]
  rw [er]
  have e1 : ((List.range es.length).filter fun i : Nat => !decide ((i : Int) ∈ mtL es (es.getD k Ed.nil).p es.length)) = (List.range es.length).filter ((fun y : Ed => !decide (y.p = (es.getD k Ed.nil).p)) ∘ fun i => es.getD i Ed.nil) := by
    refine List.filter_congr fun j hj => ?_
    have hj := List.mem_range.1 hj
    congr 1
    exact decide_eq_decide.2 ⟨fun h => (mem_mt.1 h).2, fun h => mem_mt.2 ⟨hj, h⟩⟩
  rw [e1, show (fun i => rnD (es.getD k Ed.nil) (es.getD i Ed.nil)) = rnD (es.getD k Ed.nil) ∘ fun i => es.getD i Ed.nil from rfl, ← List.map_map, ← List.filter_map, map_range]
def snB (x : Ed) : Bool := decide (x.p < 0) && decide (x.a ≠ x.b)
/-- The model's question of a pair. -/
def prB (es : List Ed) (p : Int) : Bool := decide (0 ≤ p) && (decide ((mtL es p es.length).length = 2) && (decide ((es.getD ((mtL es p es.length).getD 0 0).toNat Ed.nil).a ≠ (es.getD ((mtL es p es.length).getD 0 0).toNat Ed.nil).b) &&
  decide (loE (es.getD ((mtL es p es.length).getD 1 0).toNat Ed.nil) = loE (es.getD ((mtL es p es.length).getD 0 0).toNat Ed.nil) ∧ hiE (es.getD ((mtL es p es.length).getD 1 0).toNat Ed.nil) = hiE (es.getD ((mtL es p es.length).getD 0 0).toNat Ed.nil))))
theorem prB_neg {es : List Ed} {p : Int} (h : p < 0) : prB es p = false := by unfold prB; rw [decide_eq_false (by omega), Bool.false_and]
theorem prB_len {es : List Ed} {p : Int} (h : ¬ (mtL es p es.length).length = 2) : prB es p = false := by unfold prB; rw [decide_eq_false h, Bool.false_and, Bool.and_false]
theorem loopE {e : Ed} : (e.a ≠ e.b) ↔ loE e < hiE e := by unfold loE hiE; omega
/-- In a valid graph, a pair's edge can be contracted exactly if the model's question says so. -/
theorem prB_is {G : Gr} (hv : vgB G = true) {k : Nat} (hk : k < G.e.length) (hp : (G.e.getD k Ed.nil).p ≠ -1) : prB G.e (G.e.getD k Ed.nil).p = canE G.e (G.e.getD k Ed.nil) := by
  have ho := vgB_ok hv _ (getE_mem hk)
  unfold okE at ho
  simp only [Bool.and_eq_true, decide_eq_true_eq] at ho
  have h2 : (mtL G.e (G.e.getD k Ed.nil).p G.e.length).length = 2 := by
    rw [mtL_all]
    rcases vgB_two hv _ (getE_mem hk) with h | h
    · exact absurd h hp
    · exact h
  have hx : ∃ x y, mtL G.e (G.e.getD k Ed.nil).p G.e.length = [x, y] := by
    match h : mtL G.e (G.e.getD k Ed.nil).p G.e.length, h2 with
    | [x, y], _ => exact ⟨x, y, rfl⟩
  obtain ⟨x, y, hxy⟩ := hx
  obtain ⟨i, rfl, hi, hip⟩ := mt_nat (x := x) (by rw [hxy]; simp)
  obtain ⟨j, rfl, hj, hjp⟩ := mt_nat (x := y) (by rw [hxy]; simp)
  have hkm : (k : Int) = i ∨ (k : Int) = j := by
    have : (k : Int) ∈ mtL G.e (G.e.getD k Ed.nil).p G.e.length := mem_mt.2 ⟨hk, rfl⟩
    rw [hxy] at this
    simpa using this
  have hall : ∀ l, l < G.e.length → (G.e.getD l Ed.nil).p = (G.e.getD k Ed.nil).p → l = i ∨ l = j := fun l hl e => by
    have : (l : Int) ∈ mtL G.e (G.e.getD k Ed.nil).p G.e.length := mem_mt.2 ⟨hl, e⟩
    rw [hxy] at this
    have h5 : (l : Int) = i ∨ (l : Int) = j := by simpa using this
    omega
  unfold prB
  rw [hxy, decide_eq_true (by omega), Bool.true_and]
  have e0 : ([(i : Int), (j : Int)].getD 0 0).toNat = i := by simp
  have e1 : ([(i : Int), (j : Int)].getD 1 0).toNat = j := by simp
  rw [e0, e1, show decide ([(i : Int), (j : Int)].length = 2) = true from rfl, Bool.true_and]
  rw [Bool.eq_iff_iff]
  unfold canE
  rw [decide_eq_false hp, Bool.false_or]
  simp only [Bool.and_eq_true, decide_eq_true_eq, List.all_eq_true, Bool.or_eq_true, Bool.not_eq_true', decide_eq_false_iff_not]
  constructor
  · rintro ⟨h3, h4, h5⟩
    have hk3 : loE (G.e.getD k Ed.nil) = loE (G.e.getD i Ed.nil) ∧ hiE (G.e.getD k Ed.nil) = hiE (G.e.getD i Ed.nil) := by
      rcases hkm with e | e
      · obtain rfl : k = i := by omega
        exact ⟨rfl, rfl⟩
      · obtain rfl : k = j := by omega
        exact ⟨h4, h5⟩
    refine ⟨loopE.2 (by have := loopE.1 h3; omega), fun y hy => ?_⟩
    obtain ⟨l, hl, rfl⟩ := List.getElem_of_mem hy
    have el : G.e.getD l Ed.nil = G.e[l] := by simp [List.getD, hl]
    by_cases e : G.e[l].p = (G.e.getD k Ed.nil).p
    · right
      rw [← el] at e ⊢
      rcases hall l hl e with rfl | rfl
      · exact ⟨hk3.1.symm, hk3.2.symm⟩
      · exact ⟨h4.trans hk3.1.symm, h5.trans hk3.2.symm⟩
    · exact .inl e
  · rintro ⟨h3, h4⟩
    have gi := h4 _ (getE_mem hi)
    have gj := h4 _ (getE_mem hj)
    have gi : loE (G.e.getD i Ed.nil) = loE (G.e.getD k Ed.nil) ∧ hiE (G.e.getD i Ed.nil) = hiE (G.e.getD k Ed.nil) := gi.resolve_left fun h => h hip
    have gj : loE (G.e.getD j Ed.nil) = loE (G.e.getD k Ed.nil) ∧ hiE (G.e.getD j Ed.nil) = hiE (G.e.getD k Ed.nil) := gj.resolve_left fun h => h hjp
    exact ⟨loopE.2 (by have := loopE.1 h3; omega), gj.1.trans gi.1.symm, gj.2.trans gi.2.symm⟩
theorem snB_is {G : Gr} (hv : vgB G = true) {k : Nat} (hk : k < G.e.length) : snB (G.e.getD k Ed.nil) = (decide ((G.e.getD k Ed.nil).p = -1) && canE G.e (G.e.getD k Ed.nil)) := by
  have ho := vgB_ok hv _ (getE_mem hk)
  unfold okE at ho
  simp only [Bool.and_eq_true, decide_eq_true_eq] at ho
  unfold snB canE
  by_cases hp : (G.e.getD k Ed.nil).p = -1
  · rw [decide_eq_true (by omega : (G.e.getD k Ed.nil).p < 0), decide_eq_true hp]; simp
  · rw [decide_eq_false (by omega : ¬ (G.e.getD k Ed.nil).p < 0), decide_eq_false hp]; rfl
end Go.Proofs.YtlcapifgpcimpaaDoor
