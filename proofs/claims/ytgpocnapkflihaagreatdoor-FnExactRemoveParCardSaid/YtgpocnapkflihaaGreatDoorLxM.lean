/- Mathematics: for each wire the link that has it among others; each wire of a valid net stands once among the outputs and at most once among the inputs. -/
import Derived.Test.YtgpocnapkflihaaGreatDoorTrM
import Derived.Test.YtgpocnapkflihaaGreatDoorQPgJ
namespace Go.Proofs.YtgpocnapkflihaaGreatDoor
open Go.ChangeAt Go.ChangeShapes Go.RowKit Go.WideShapes

theorem sum_ge_zero {f : Lk → Int} (h : ∀ l, 0 ≤ f l) : ∀ ls : List Lk, 0 ≤ (ls.map f).sum
  | [] => by simp
  | l :: ls => by have := sum_ge_zero h ls; have := h l; simp only [List.map_cons, List.sum_cons]; omega
theorem sum_ge_one {f : Lk → Int} (h : ∀ l, 0 ≤ f l) : ∀ (ls : List Lk) (i : Nat), i < ls.length → 0 ≤ (ls.map f).sum - f (ls.getD i Lk.nil)
  | [], i, hi => absurd hi (by simp)
  | l :: ls, 0, _ => by
    have h0 := sum_ge_zero h ls
    simp only [List.map_cons, List.sum_cons, List.getD_cons_zero]
    omega
  | l :: ls, i + 1, hi => by
    have := sum_ge_one h ls i (by simpa using hi)
    have h0 := h l
    simp only [List.map_cons, List.sum_cons, List.getD_cons_succ]
    omega
theorem sum_ge_two {f : Lk → Int} (h : ∀ l, 0 ≤ f l) : ∀ (ls : List Lk) (i j : Nat), i < j → j < ls.length → 0 ≤ (ls.map f).sum - f (ls.getD i Lk.nil) - f (ls.getD j Lk.nil)
  | [], i, j, _, hj => absurd hj (by simp)
  | l :: ls, i, 0, hij, _ => absurd hij (by omega)
  | l :: ls, 0, j + 1, _, hj => by
    have := sum_ge_one h ls j (by simpa using hj)
    simp only [List.map_cons, List.sum_cons, List.getD_cons_zero, List.getD_cons_succ]
    omega
  | l :: ls, i + 1, j + 1, hij, hj => by
    have := sum_ge_two h ls i j (by omega) (by simpa using hj)
    have h0 := h l
    simp only [List.map_cons, List.sum_cons, List.getD_cons_succ]
    omega
theorem conc_mem : ∀ {cs : List Int} {x : Int}, x ∈ cs → 1 ≤ concN cs x.toNat
  | [], x, h => absurd h (by simp)
  | c :: cs, x, h => by
    have h1 := one_le (c.toNat = x.toNat)
    have h2 := (concN_le cs x.toNat).1
    have e : concN (c :: cs) x.toNat = one (c.toNat = x.toNat) + concN cs x.toNat := by simp [concN]
    rw [e]
    rcases List.mem_cons.1 h with rfl | hm
    · have : one (x.toNat = x.toNat) = 1 := by unfold one; rw [if_pos rfl]
      omega
    · have := conc_mem hm; omega
/-- Each wire is at most once among p's wires of some link; all of them are wires. -/
structure OneP (p : Lk → List Int) (N : Nt) : Prop where
  ins : ∀ k, k < N.l.length → ∀ t, t < (p (N.l.getD k Lk.nil)).length → inW N.w.length ((p (N.l.getD k Lk.nil)).getD t 0) = true
  one : ∀ (x : Int) (i j : Nat), inW N.w.length x = true → i < N.l.length → j < N.l.length → x ∈ p (N.l.getD i Lk.nil) → x ∈ p (N.l.getD j Lk.nil) → i = j
theorem oneP_of {p : Lk → List Int} {N : Nt} (hi : ∀ k, k < N.l.length → (p (N.l.getD k Lk.nil)).all (inW N.w.length) = true) (hs : ∀ x, x < N.w.length → (N.l.map fun l => concN (p l) x).sum ≤ 1) : OneP p N where
  ins k hk t ht := (List.all_eq_true.1 (hi k hk)) _ (getL_mem ht)
  one x i j hx hi' hj hmi hmj := by
    obtain ⟨_, hlt, _⟩ := inW_yes hx
    have h1 := conc_mem hmi; have h2 := conc_mem hmj
    have h3 := hs _ hlt
    rcases Nat.lt_trichotomy i j with h | h | h
    · have := sum_ge_two (f := fun l => concN (p l) x.toNat) (fun l => (concN_le _ _).1) N.l i j h hj
      omega
    · exact h
    · have := sum_ge_two (f := fun l => concN (p l) x.toNat) (fun l => (concN_le _ _).1) N.l j i h hi'
      omega
theorem oneP_out {N : Nt} (hv : valN N = true) : OneP outL N :=
  oneP_of (fun k hk => by obtain ⟨h1, h2, h3, _⟩ := fitsN_yes (link_fits hv hk); exact outL_in (Nat.le_refl _) h1 h2 h3) fun x hx => by
    have h := (valN_at hv hx).1
    have e : (N.l.map fun l => concN (outL l) x).sum = madeN N.l x := by unfold madeN; congr 1; exact List.map_congr_left fun l _ => (mk1_is l x).symm
    rw [e]; omega
theorem oneP_in {N : Nt} (hv : valN N = true) : OneP inL N :=
  oneP_of (fun k hk => by obtain ⟨h1, h2, h3, _⟩ := fitsN_yes (link_fits hv hk); exact inL_in (Nat.le_refl _) h1 h2) fun x hx => by
    have h := (valN_at hv hx).2
    have h2 := (concN_le N.c x).1
    have e : (N.l.map fun l => concN (inL l) x).sum = usedN N.l x := by unfold usedN; congr 1; exact List.map_congr_left fun l _ => (us1_is l x).symm
    rw [e]; omega
/-- The link that has a wire among p's. -/
def lxN (p : Lk → List Int) (N : Nt) (x : Int) : Int := firstN (fun l => decide (x ∈ p l)) N.l
/-- The links of all wires. -/
def lxL (p : Lk → List Int) (N : Nt) : List Int := (List.range N.w.length).map fun x : Nat => lxN p N (x : Int)
theorem lxL_len (p : Lk → List Int) (N : Nt) : (lxL p N).length = N.w.length := by simp [lxL]
theorem lxL_at (p : Lk → List Int) (N : Nt) {x : Nat} (h : x < N.w.length) : (lxL p N).getD x 0 = lxN p N (x : Int) := by simp [lxL, List.getD, h]
/-- The links that k links, and m wires of the next one, have laid. -/
def LnQ (p : Lk → List Int) (N : Nt) (cur : List Int) (k m : Nat) : Prop :=
  cur.length = N.w.length ∧ (∀ x j : Nat, x < N.w.length → j < N.l.length → (j < k ∧ (x : Int) ∈ p (N.l.getD j Lk.nil) ∨ j = k ∧ ∃ t, t < m ∧ (p (N.l.getD k Lk.nil)).getD t 0 = (x : Int)) → cur.getD x 0 = (j : Int)) ∧
    (∀ x : Nat, x < N.w.length → (∀ j, j < k → ¬ (x : Int) ∈ p (N.l.getD j Lk.nil)) → (∀ t, t < m → ¬ (p (N.l.getD k Lk.nil)).getD t 0 = (x : Int)) → cur.getD x 0 = -1)
theorem LnQ.zero (p : Lk → List Int) (N : Nt) : LnQ p N (List.replicate N.w.length (-1)) 0 0 :=
  ⟨by simp, fun x j _ _ h => by rcases h with ⟨h, _⟩ | ⟨_, t, h, _⟩ <;> omega, fun x hx _ _ => by simp [List.getD, hx]⟩
theorem setI_at {cur : List Int} {i x : Nat} {v : Int} (h : i < cur.length) : (cur.set i v).getD x 0 = if x = i then v else cur.getD x 0 := by
  by_cases e : x = i
  · subst e; rw [if_pos rfl]; simp [List.getD, h]
  · rw [if_neg e]; simp only [List.getD]; rw [List.getElem?_set_ne (fun q => e q.symm)]
theorem LnQ.step {p : Lk → List Int} {N : Nt} (o : OneP p N) {cur : List Int} {k m : Nat} (h : LnQ p N cur k m) (hk : k < N.l.length) (hm : m < (p (N.l.getD k Lk.nil)).length) :
    LnQ p N (cur.set ((p (N.l.getD k Lk.nil)).getD m 0).toNat (k : Int)) k (m + 1) := by
  have hx := o.ins k hk m hm
  have hmem : (p (N.l.getD k Lk.nil)).getD m 0 ∈ p (N.l.getD k Lk.nil) := getL_mem hm
  obtain ⟨h1, h2, h3⟩ := h
  obtain ⟨_, hlt, ez⟩ := inW_yes hx
  refine ⟨by rw [List.length_set]; exact h1, fun x j hx' hj hc => ?_, fun x hx' hno hnt => ?_⟩
  · rw [setI_at (by omega)]
    by_cases e : x = ((p (N.l.getD k Lk.nil)).getD m 0).toNat
    · rw [if_pos e]
      have ex : (x : Int) = (p (N.l.getD k Lk.nil)).getD m 0 := by rw [e]; exact ez.symm
      rcases hc with ⟨hjk, hq⟩ | ⟨hjk, _⟩
      · rw [ex] at hq
        have := o.one _ j k hx hj hk hq hmem
        omega
      · rw [hjk]
    · rw [if_neg e]
      refine h2 x j hx' hj (hc.imp id fun ⟨hjk, t, ht, h5⟩ => ⟨hjk, t, ?_, h5⟩)
      by_cases e2 : t = m
      · subst e2; rw [h5] at e; exact absurd (by simp) e
      · omega
  · rw [setI_at (by omega)]
    by_cases e : x = ((p (N.l.getD k Lk.nil)).getD m 0).toNat
    · exact absurd (by rw [e]; exact ez) (hnt m (by omega))
    · rw [if_neg e]
      exact h3 x hx' hno fun t ht => hnt t (by omega)
theorem LnQ.next {p : Lk → List Int} {N : Nt} {cur : List Int} {k : Nat} (h : LnQ p N cur k (p (N.l.getD k Lk.nil)).length) : LnQ p N cur (k + 1) 0 := by
  have key : ∀ x : Int, x ∈ p (N.l.getD k Lk.nil) ↔ ∃ t, t < (p (N.l.getD k Lk.nil)).length ∧ (p (N.l.getD k Lk.nil)).getD t 0 = x := fun x => by
    constructor
    · intro hx
      obtain ⟨t, ht, e⟩ := List.getElem_of_mem hx
      exact ⟨t, ht, by rw [List.getD_eq_getElem?_getD, List.getElem?_eq_getElem ht, e]; rfl⟩
    · rintro ⟨t, ht, e⟩
      rw [← e]; exact getL_mem ht
  obtain ⟨h1, h2, h3⟩ := h
  refine ⟨h1, fun x j hx hj hc => h2 x j hx hj ?_, fun x hx hno _ => h3 x hx (fun j hj => hno j (by omega)) fun t ht e => hno k (by omega) ((key _).2 ⟨t, ht, e⟩)⟩
  rcases hc with ⟨hjk, hq⟩ | ⟨_, t, ht, _⟩
  · by_cases e : j = k
    · subst e; exact .inr ⟨rfl, (key _).1 hq⟩
    · exact .inl ⟨by omega, hq⟩
  · omega
theorem lxN_yes {p : Lk → List Int} {N : Nt} (o : OneP p N) {x j : Nat} (hx : x < N.w.length) (hj : j < N.l.length) (hm : (x : Int) ∈ p (N.l.getD j Lk.nil)) : lxN p N (x : Int) = (j : Int) := by
  have hin : inW N.w.length (x : Int) = true := decide_eq_true (by omega)
  exact firstN_at hj (fun i hi => decide_eq_false fun hq => by have := o.one _ i j hin (by omega) hj hq hm; omega) (decide_eq_true hm)
theorem lxN_no {p : Lk → List Int} {N : Nt} {x : Int} (h : ∀ j, j < N.l.length → ¬ x ∈ p (N.l.getD j Lk.nil)) : lxN p N x = -1 := firstN_none fun j hj => decide_eq_false (h j hj)
theorem lxN_cases (p : Lk → List Int) (N : Nt) (x : Int) : (∃ j, j < N.l.length ∧ x ∈ p (N.l.getD j Lk.nil) ∧ lxN p N x = (j : Int)) ∨ (∀ j, j < N.l.length → ¬ x ∈ p (N.l.getD j Lk.nil)) ∧ lxN p N x = -1 := by
  unfold lxN firstN
  cases hf : N.l.findIdx? (fun l => decide (x ∈ p l)) with
  | some k =>
    left
    obtain ⟨hk, hp, _⟩ := List.findIdx?_eq_some_iff_getElem.1 hf
    exact ⟨k, hk, by simpa [List.getD, hk] using hp, rfl⟩
  | none =>
    right
    refine ⟨fun j hj hm => ?_, rfl⟩
    have := List.findIdx?_eq_none_iff.1 hf _ (getL_mem (d := Lk.nil) hj)
    rw [decide_eq_true hm] at this; cases this
theorem LnQ.all {p : Lk → List Int} {N : Nt} {cur : List Int} (h : LnQ p N cur N.l.length 0) : cur = lxL p N := by
  obtain ⟨h1, h2, h3⟩ := h
  apply List.ext_getElem?
  intro x
  by_cases hx : x < N.w.length
  · have e : cur.getD x 0 = (lxL p N).getD x 0 := by
      rw [lxL_at p N hx]
      rcases lxN_cases p N (x : Int) with ⟨j, hj, hm, e⟩ | ⟨hno, e⟩
      · rw [e]; exact h2 x j hx hj (.inl ⟨hj, hm⟩)
      · rw [e]; exact h3 x hx (fun j hj => hno j hj) fun t ht => absurd ht (by omega)
    have hl : x < (lxL p N).length := by rw [lxL_len]; exact hx
    rw [← h1] at hx
    simp only [List.getD, List.getElem?_eq_getElem hx, List.getElem?_eq_getElem hl, Option.getD_some] at e
    rw [List.getElem?_eq_getElem hx, List.getElem?_eq_getElem hl, e]
  · rw [List.getElem?_eq_none (by omega), List.getElem?_eq_none (by rw [lxL_len]; omega)]
theorem srcN_lx {N : Nt} (hv : valN N = true) (x : Int) : srcN N x = lxN outL N x := by
  rw [srcN_val hv]
  exact first_ext fun l hl => srcB_is (fitsN_kind ((List.all_eq_true.1 (valN_fits hv)) l hl))
theorem tgtN_lx {N : Nt} (hv : valN N = true) (x : Int) : tgtN N x = lxN inL N x := by
  rw [tgtN_val hv]
  exact first_ext fun l _ => tgtB_is l x
end Go.Proofs.YtgpocnapkflihaaGreatDoor
