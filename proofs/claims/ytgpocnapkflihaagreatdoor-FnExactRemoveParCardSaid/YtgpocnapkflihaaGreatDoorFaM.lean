/- Mathematics: the fault of a graph: parts that arcs join. The program's fault is the model's. -/
import Derived.Test.YtgpocnapkflihaaGreatDoorSwM
namespace Go.Proofs.YtgpocnapkflihaaGreatDoor
open Go.ChangeAt Go.ChangeShapes Go.RowKit Go.WideShapes

/-- The parts at the start. -/
def parts0 (n : Nat) : List Int := (List.range n).map fun i : Nat => (i : Int)
theorem parts0_len (n : Nat) : (parts0 n).length = n := by simp [parts0]
theorem parts0_at {n i : Nat} (h : i < n) : (parts0 n).getD i 0 = (i : Int) := by simp [parts0, List.getD, h]
/-- One part renamed. -/
def renP (P : List Int) (x y : Int) : List Int := P.map fun p => if p = y then x else p
theorem renP_len (P : List Int) (x y : Int) : (renP P x y).length = P.length := by simp [renP]
theorem renP_at {P : List Int} {x y : Int} {i : Nat} (h : i < P.length) : (renP P x y).getD i 0 = if P.getD i 0 = y then x else P.getD i 0 := by simp [renP, List.getD, h]
/-- An arc joins two parts, or closes a cycle. -/
def stepP (o : Option (List Int)) (a : Ac) : Option (List Int) := match o with
  | none => none
  | some P => if P.getD a.f.toNat 0 = P.getD a.t.toNat 0 then none else some (renP P (P.getD a.f.toNat 0) (P.getD a.t.toNat 0))
def runP (n : Nat) (ar : List Ac) (k : Nat) : Option (List Int) := (ar.take k).foldl stepP (some (parts0 n))
theorem runP_zero (n : Nat) (ar : List Ac) : runP n ar 0 = some (parts0 n) := rfl
theorem runP_succ {n : Nat} {ar : List Ac} {k : Nat} (h : k < ar.length) : runP n ar (k + 1) = stepP (runP n ar k) (ar.getD k Ac.nil) := by
  unfold runP
  rw [takeL_succ (d := Ac.nil) h, List.foldl_append]; rfl
theorem runP_none {n : Nat} {ar : List Ac} {k : Nat} (hk : runP n ar k = none) : ∀ d, k + d ≤ ar.length → runP n ar (k + d) = none
  | 0, _ => hk
  | d + 1, h => by rw [← Nat.add_assoc, runP_succ (by omega), runP_none hk d (by omega)]; rfl
/-- The fault of a graph. -/
def ftV (n : Nat) (ar : List Ac) : Int := match runP n ar ar.length with
  | none => 1
  | some _ => if (ar.length : Int) = (n : Int) - 1 then 0 else 2
theorem ftV_cycle {n : Nat} {ar : List Ac} {k : Nat} (h : k ≤ ar.length) (hk : runP n ar k = none) : ftV n ar = 1 := by
  have := runP_none hk (ar.length - k) (by omega)
  rw [show k + (ar.length - k) = ar.length by omega] at this
  unfold ftV; rw [this]
theorem ftV_end {n : Nat} {ar : List Ac} {P : List Int} (h : runP n ar ar.length = some P) : ftV n ar = if (ar.length : Int) = (n : Int) - 1 then 0 else 2 := by unfold ftV; rw [h]
/-- The model's: the smallest node of each part. -/
def stepR (o : List Int × Bool) (a : Ac) : List Int × Bool := (renP o.1 (min (o.1.getD a.f.toNat 0) (o.1.getD a.t.toNat 0)) (max (o.1.getD a.f.toNat 0) (o.1.getD a.t.toNat 0)), o.2 || decide (o.1.getD a.f.toNat 0 = o.1.getD a.t.toNat 0))
def runR (n : Nat) (ar : List Ac) (k : Nat) : List Int × Bool := (ar.take k).foldl stepR (parts0 n, false)
theorem runR_zero (n : Nat) (ar : List Ac) : runR n ar 0 = (parts0 n, false) := rfl
theorem runR_succ {n : Nat} {ar : List Ac} {k : Nat} (h : k < ar.length) : runR n ar (k + 1) = stepR (runR n ar k) (ar.getD k Ac.nil) := by
  unfold runR
  rw [takeL_succ (d := Ac.nil) h, List.foldl_append]; rfl
theorem runR_len (n : Nat) (ar : List Ac) : ∀ k, k ≤ ar.length → (runR n ar k).1.length = n
  | 0, _ => parts0_len n
  | k + 1, h => by rw [runR_succ (by omega)]; unfold stepR; rw [renP_len, runR_len n ar k (by omega)]
theorem runR_cycle {n : Nat} {ar : List Ac} {k : Nat} (hk : (runR n ar k).2 = true) : ∀ d, k + d ≤ ar.length → (runR n ar (k + d)).2 = true
  | 0, _ => hk
  | d + 1, h => by rw [← Nat.add_assoc, runR_succ (by omega)]; unfold stepR; dsimp only; rw [runR_cycle hk d (by omega)]; rfl
def ftM (n : Nat) (ar : List Ac) : Int := if (runR n ar ar.length).2 = true then 1 else if (runR n ar ar.length).1.all (fun x => decide (x = 0)) = true ∧ ¬ n = 0 then 0 else 2
/-- The ends of the arcs are nodes. -/
def ArcsIn (n : Nat) (ar : List Ac) : Prop := ∀ a ∈ ar, inW n a.f = true ∧ inW n a.t = true
/-- What both hold so far. -/
structure SameP (n m : Nat) (P R : List Int) : Prop where
  lp : P.length = n
  lr : R.length = n
  same : ∀ i j, i < n → j < n → (P.getD i 0 = P.getD j 0 ↔ R.getD i 0 = R.getD j 0)
  fix : ∀ i, i < n → ∃ v : Nat, v < n ∧ P.getD i 0 = (v : Int) ∧ P.getD v 0 = (v : Int)
  cnt : ((List.range n).map fun i : Nat => one (P.getD i 0 = (i : Int))).sum = (n : Int) - (m : Int)
  pos : ∀ i, i < n → 0 ≤ R.getD i 0
  root : 0 < n → R.getD 0 0 = 0
theorem sum_same2 {n : Nat} {f g : Nat → Int} (h : ∀ i, i < n → f i = g i) : ((List.range n).map f).sum = ((List.range n).map g).sum := by
  congr 1
  exact List.map_congr_left fun i hi => h i (List.mem_range.1 hi)
theorem sum_minus (n : Nat) (f g : Nat → Int) : ((List.range n).map fun i => f i - g i).sum = ((List.range n).map f).sum - ((List.range n).map g).sum := by
  induction n with
  | zero => rfl
  | succ n ih => rw [List.range_succ]; simp only [List.map_append, List.sum_append, List.map_cons, List.map_nil, List.sum_cons, List.sum_nil, ih]; omega
theorem sum_ones (n : Nat) : ((List.range n).map fun _ => (1 : Int)).sum = n := by
  induction n with
  | zero => rfl
  | succ n ih => rw [List.range_succ]; simp only [List.map_append, List.sum_append, List.map_cons, List.map_nil, List.sum_cons, List.sum_nil, ih]; omega
theorem SameP.start (n : Nat) : SameP n 0 (parts0 n) (parts0 n) where
  lp := parts0_len n
  lr := parts0_len n
  same i j hi hj := Iff.rfl
  fix i hi := ⟨i, hi, parts0_at hi, parts0_at hi⟩
  cnt := by
    rw [sum_same2 (g := fun _ => 1) fun i hi => by unfold one; rw [if_pos (parts0_at hi)], sum_ones]; omega
  pos i hi := by rw [parts0_at hi]; omega
  root h := parts0_at h
theorem SameP.step {n m : Nat} {P R : List Int} (h : SameP n m P R) {x y : Nat} (hx : x < n) (hy : y < n) (hne : ¬ P.getD x 0 = P.getD y 0) :
    SameP n (m + 1) (renP P (P.getD x 0) (P.getD y 0)) (renP R (min (R.getD x 0) (R.getD y 0)) (max (R.getD x 0) (R.getD y 0))) := by
  have hnr : ¬ R.getD x 0 = R.getD y 0 := fun e => hne ((h.same x y hx hy).2 e)
  have eP : ∀ i, i < n → (renP P (P.getD x 0) (P.getD y 0)).getD i 0 = if P.getD i 0 = P.getD y 0 then P.getD x 0 else P.getD i 0 := fun i hi => renP_at (by rw [h.lp]; exact hi)
  have eR : ∀ i, i < n → (renP R (min (R.getD x 0) (R.getD y 0)) (max (R.getD x 0) (R.getD y 0))).getD i 0 = if R.getD i 0 = max (R.getD x 0) (R.getD y 0) then min (R.getD x 0) (R.getD y 0) else R.getD i 0 := fun i hi => renP_at (by rw [h.lr]; exact hi)
  obtain ⟨vx, hvx, ex, fx⟩ := h.fix x hx
  obtain ⟨vy, hvy, ey, fy⟩ := h.fix y hy
  have px := h.pos x hx; have py := h.pos y hy
  refine ⟨by rw [renP_len, h.lp], by rw [renP_len, h.lr], fun i j hi hj => ?_, fun i hi => ?_, ?_, fun i hi => ?_, fun hn => ?_⟩
  · rw [eP i hi, eP j hj, eR i hi, eR j hj]
    have a1 := h.same i y hi hy; have a2 := h.same j y hj hy; have a3 := h.same i x hi hx; have a4 := h.same j x hj hx; have a5 := h.same i j hi hj
    generalize P.getD i 0 = pi at *; generalize P.getD j 0 = pj at *
    generalize R.getD i 0 = ri at *; generalize R.getD j 0 = rj at *
    generalize R.getD x 0 = rx at *; generalize R.getD y 0 = ry at *
    generalize P.getD x 0 = qx at *; generalize P.getD y 0 = qy at *
    by_cases c1 : pi = qy <;> by_cases c2 : pj = qy <;> by_cases c3 : pi = qx <;> by_cases c4 : pj = qx <;> simp only [c1, c2, c3, c4, if_true, if_false, true_iff, false_iff] at a1 a2 a3 a4 a5 ⊢ <;> (rcases Int.le_total rx ry with hle | hle <;> simp only [Int.max_eq_right, Int.min_eq_left, Int.max_eq_left, Int.min_eq_right, hle] <;> (repeat' split) <;> omega)
  · rw [eP i hi]
    obtain ⟨v, hv, e1, e2⟩ := h.fix i hi
    by_cases c : P.getD i 0 = P.getD y 0
    · rw [if_pos c]
      refine ⟨vx, hvx, ex, ?_⟩
      rw [eP vx hvx, if_neg (by omega)]; exact fx
    · rw [if_neg c]
      refine ⟨v, hv, e1, ?_⟩
      rw [eP v hv, if_neg (by omega)]; exact e2
  · rw [sum_same2 (g := fun i => one (P.getD i 0 = (i : Int)) - one (vy = i)) fun i hi => ?_, sum_minus, h.cnt, sum_one hvy]
    · omega
    · rw [eP i hi]
      by_cases c : P.getD i 0 = P.getD y 0
      · rw [if_pos c]
        have h1 : ¬ P.getD x 0 = (i : Int) := fun e => by
          obtain rfl : vx = i := by omega
          omega
        unfold one
        rw [if_neg h1]
        by_cases c2 : vy = i
        · rw [if_pos (by omega), if_pos c2]; rfl
        · rw [if_neg (by omega), if_neg c2]; rfl
      · rw [if_neg c]
        have h1 : ¬ vy = i := fun e => by subst e; omega
        unfold one
        rw [if_neg h1]; omega
  · rw [eR i hi]
    have := h.pos i hi
    split <;> omega
  · rw [eR 0 hn, h.root hn]
    have := h.pos x hx
    split <;> omega
theorem sum_zero_of {n : Nat} {f : Nat → Int} (h : ∀ i, i < n → f i = 0) : ((List.range n).map f).sum = 0 := by rw [sum_same2 h, sum_zero]
theorem run_same {n : Nat} {ar : List Ac} (hin : ArcsIn n ar) : ∀ k, k ≤ ar.length → (runP n ar k = none ∧ (runR n ar k).2 = true) ∨ ∃ P, runP n ar k = some P ∧ (runR n ar k).2 = false ∧ SameP n k P (runR n ar k).1
  | 0, _ => .inr ⟨_, rfl, rfl, SameP.start n⟩
  | k + 1, hk => by
    have ha := hin _ (getL_mem (d := Ac.nil) (show k < ar.length by omega))
    rw [runP_succ (by omega), runR_succ (by omega)]
    obtain ⟨⟨_, hf, _⟩, ⟨_, ht, _⟩⟩ := And.intro (inW_yes ha.1) (inW_yes ha.2)
    rcases run_same hin k (by omega) with ⟨e1, e2⟩ | ⟨P, e1, e2, hs⟩
    · left
      rw [e1]
      exact ⟨rfl, by unfold stepR; dsimp only; rw [e2]; rfl⟩
    · rw [e1]
      have hss := hs.same _ _ hf ht
      by_cases c : P.getD (ar.getD k Ac.nil).f.toNat 0 = P.getD (ar.getD k Ac.nil).t.toNat 0
      · left
        refine ⟨by unfold stepP; dsimp only; rw [if_pos c], ?_⟩
        unfold stepR; dsimp only
        rw [decide_eq_true (hss.1 c)]; simp
      · right
        refine ⟨_, by unfold stepP; dsimp only; rw [if_neg c], ?_, ?_⟩
        · unfold stepR; dsimp only
          rw [e2, decide_eq_false (fun q => c (hss.2 q))]; rfl
        · exact hs.step hf ht c
/-- Both say the same fault. -/
theorem ft_same {n : Nat} {ar : List Ac} (hin : ArcsIn n ar) : ftV n ar = ftM n ar := by
  rcases run_same hin ar.length (Nat.le_refl _) with ⟨e1, e2⟩ | ⟨P, e1, e2, hs⟩
  · unfold ftV ftM; rw [e1, if_pos e2]
  · have e3 : ftM n ar = if (runR n ar ar.length).1.all (fun x => decide (x = 0)) = true ∧ ¬ n = 0 then 0 else 2 := by unfold ftM; rw [if_neg (by rw [e2]; decide)]
    rw [ftV_end e1, e3]
    have hc := hs.cnt
    by_cases hn : n = 0
    · subst hn
      rw [if_neg (by omega), if_neg (by omega)]
    · obtain ⟨v, hv, ev, fv⟩ := hs.fix 0 (by omega)
      by_cases hl : (ar.length : Int) = (n : Int) - 1
      · rw [if_pos hl, if_pos]
        refine ⟨?_, hn⟩
        rw [List.all_eq_true]
        intro r hr
        obtain ⟨i, hi, e⟩ := List.getElem_of_mem hr
        have hi' : i < n := by rw [← hs.lr]; exact hi
        have er : (runR n ar ar.length).1.getD i 0 = r := by rw [List.getD_eq_getElem?_getD, List.getElem?_eq_getElem hi, e]; rfl
        refine decide_eq_true ?_
        rw [← er]
        refine Eq.trans ?_ (hs.root (by omega))
        refine (hs.same i 0 hi' (by omega)).1 ?_
        obtain ⟨u, hu, eu, fu⟩ := hs.fix i hi'
        rw [eu, ev]
        by_cases huv : u = v
        · rw [huv]
        · exfalso
          have h2 : 0 ≤ ((List.range n).map fun i : Nat => (one (P.getD i 0 = (i : Int)) - one (u = i)) - one (v = i)).sum := by
            have : ∀ z ∈ (List.range n).map fun i : Nat => (one (P.getD i 0 = (i : Int)) - one (u = i)) - one (v = i), 0 ≤ z := fun z hz => by
              obtain ⟨j, hj, rfl⟩ := List.mem_map.1 hz
              unfold one
              by_cases c1 : u = j
              · subst c1; rw [if_pos fu, if_pos rfl, if_neg (fun e => huv e.symm)]; decide
              · by_cases c2 : v = j
                · subst c2; rw [if_pos fv, if_neg c1, if_pos rfl]; decide
                · rw [if_neg c1, if_neg c2]; split <;> decide
            generalize ((List.range n).map fun i : Nat => (one (P.getD i 0 = (i : Int)) - one (u = i)) - one (v = i)) = Z at this
            induction Z with
            | nil => simp
            | cons z Z ih => rw [List.sum_cons]; have := this z (by simp); have := ih fun q hq => ‹∀ z' ∈ z :: Z, 0 ≤ z'› q (by simp [hq]); omega
          rw [sum_minus, sum_minus, hc, sum_one hu, sum_one hv] at h2
          omega
      · rw [if_neg hl, if_neg]
        rintro ⟨hall, _⟩
        have h0 : ∀ i, i < n → (runR n ar ar.length).1.getD i 0 = 0 := fun i hi => of_decide_eq_true ((List.all_eq_true.1 hall) _ (getL_mem (by rw [hs.lr]; exact hi)))
        have hp : ∀ i, i < n → P.getD i 0 = (v : Int) := fun i hi => by rw [← ev]; exact (hs.same i 0 hi (by omega)).2 (by rw [h0 i hi, h0 0 (by omega)])
        rw [sum_same2 (g := fun i => one (v = i)) fun i hi => by rw [hp i hi]; unfold one; by_cases c : v = i; rw [if_pos c, if_pos (by omega)]; rw [if_neg c, if_neg (by omega)], sum_one hv] at hc
        omega
theorem ftV_cases (n : Nat) (ar : List Ac) : ftV n ar = 0 ∨ ftV n ar = 1 ∨ ftV n ar = 2 := by
  unfold ftV
  split
  · simp
  · split <;> simp
end Go.Proofs.YtgpocnapkflihaaGreatDoor
