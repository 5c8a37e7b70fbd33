/- Mathematics: par links, switchings, their graphs; the program's graph is the model's. Mathematics: the fault of a graph: parts that arcs join. The program's fault is the model's. Numbers sorted. -/
import Derived.Test.YtfdpkhiiboghiaaGreatDoorJQPgG
import Derived.Test.YtfdpkhiiboghiaaGreatDoorJQNetZ
namespace Go.Proofs.YtfdpkhiiboghiaaGreatDoor
set_option linter.unusedSimpArgs false
set_option linter.unusedVariables false
section
open Go.ChangeAt Go.ChangeShapes Go.RowKit Go.WideShapes

theorem kinU_mem {x : Int} {ls : List Lk} {k : Nat} {y : Int} : y ∈ kinU x ls k ↔ ∃ j, j < k ∧ (ls.getD j Lk.nil).k = x ∧ y = (j : Int) := by
  unfold kinU
  simp only [List.mem_map, List.mem_filter, List.mem_range, beq_iff_eq]
  constructor
  · rintro ⟨j, ⟨h1, h2⟩, rfl⟩; exact ⟨j, h1, h2, rfl⟩
  · rintro ⟨j, h1, h2, rfl⟩; exact ⟨j, ⟨h1, h2⟩, rfl⟩
theorem kinU_nodup (x : Int) (ls : List Lk) (k : Nat) : (kinU x ls k).Nodup := by
  unfold kinU
  rw [List.nodup_iff_pairwise_ne, List.pairwise_map]
  have h : ((List.range k).filter fun i => (ls.getD i Lk.nil).k == x).Pairwise (· ≠ ·) := List.Pairwise.filter _ (List.nodup_range (n := k))
  exact h.imp fun hab e => hab (by omega)
theorem nodup_at {L : List Int} (h : L.Nodup) {i j : Nat} (hi : i < L.length) (hj : j < L.length) (e : L.getD i 0 = L.getD j 0) : i = j := by
  simp only [List.getD_eq_getElem?_getD, List.getElem?_eq_getElem hi, List.getElem?_eq_getElem hj, Option.getD_some] at e
  have hp := List.pairwise_iff_getElem.1 (List.nodup_iff_pairwise_ne.1 h)
  rcases Nat.lt_trichotomy i j with q | q | q
  · exact absurd e (hp i j hi hj q)
  · exact q
  · exact absurd e.symm (hp j i hj hi q)
/-- The par links of a net. -/
def prkN (N : Nt) : List Int := kinU 4 N.l N.l.length
theorem prkN_len (N : Nt) : (prkN N).length ≤ N.l.length := kinU_len _ _ _
theorem prkN_at {N : Nt} {i : Nat} (h : i < (prkN N).length) : ∃ j, j < N.l.length ∧ (N.l.getD j Lk.nil).k = 4 ∧ (prkN N).getD i 0 = (j : Int) := by
  obtain ⟨j, h1, h2, h3⟩ := kinU_mem.1 (getL_mem (d := 0) h)
  exact ⟨j, h1, h2, h3⟩
/-- A switching by its number. -/
def swU (x : Int) (n : Nat) : List Int := (List.range n).map fun i : Nat => x / 2 ^ i % 2
theorem swU_len (x : Int) (n : Nat) : (swU x n).length = n := by simp [swU]
theorem swU_succ (x : Int) (n : Nat) : swU x (n + 1) = swU x n ++ [x / 2 ^ n % 2] := by simp [swU, List.range_succ]
theorem swU_in (x : Int) (n : Nat) : ∀ c ∈ swU x n, c = 0 ∨ c = 1 := fun c h => by
  obtain ⟨i, _, rfl⟩ := List.mem_map.1 h
  omega
/-- An arc of a graph. -/
structure Ac where
  w : Int
  f : Int
  t : Int
deriving DecidableEq
def Ac.nil : Ac := ⟨0, 0, 0⟩
/-- The arc of a wire that has a consumer. -/
def arcA (N : Nt) (x : Nat) : Ac := ⟨x, lxN outL N x, lxN inL N x⟩
/-- The arcs of the wires below k. -/
def arcsU (N : Nt) (k : Nat) : List Ac := ((List.range k).filter fun x : Nat => decide (¬ lxN inL N (x : Int) = -1)).map fun x : Nat => arcA N x
theorem arcsU_yes {N : Nt} {k : Nat} (h : ¬ lxN inL N (k : Int) = -1) : arcsU N (k + 1) = arcsU N k ++ [arcA N k] := by
  unfold arcsU; rw [List.range_succ, List.filter_append, List.map_append]
  simp only [List.filter_cons, List.filter_nil]
  rw [if_pos (by simpa using h)]; rfl
theorem arcsU_no {N : Nt} {k : Nat} (h : lxN inL N (k : Int) = -1) : arcsU N (k + 1) = arcsU N k := by
  unfold arcsU; rw [List.range_succ, List.filter_append, List.map_append]
  simp only [List.filter_cons, List.filter_nil]
  rw [if_neg (by simpa using h)]; simp
theorem arcsU_len (N : Nt) (k : Nat) : (arcsU N k).length ≤ k := by
  unfold arcsU
  rw [List.length_map]
  exact Nat.le_trans (List.length_filter_le _ _) (by simp)
/-- The inputs of the par links. -/
def pairsU (N : Nt) (k : Nat) : List (List Int) := (List.range k).map fun i => inL (N.l.getD ((prkN N).getD i 0).toNat Lk.nil)
/-- The inputs that a switching leaves out. -/
def notU (N : Nt) (s : List Int) (k : Nat) : List Int := (List.range k).map fun i => (inL (N.l.getD ((prkN N).getD i 0).toNat Lk.nil)).getD (1 - s.getD i 0).toNat 0
theorem notU_succ (N : Nt) (s : List Int) (k : Nat) : notU N s (k + 1) = notU N s k ++ [(inL (N.l.getD ((prkN N).getD k 0).toNat Lk.nil)).getD (1 - s.getD k 0).toNat 0] := by simp [notU, List.range_succ]
theorem notU_len (N : Nt) (s : List Int) (k : Nat) : (notU N s k).length = k := by simp [notU]
theorem pairsU_succ (N : Nt) (k : Nat) : pairsU N (k + 1) = pairsU N k ++ [inL (N.l.getD ((prkN N).getD k 0).toNat Lk.nil)] := by simp [pairsU, List.range_succ]
theorem pairsU_len (N : Nt) (k : Nat) : (pairsU N k).length = k := by simp [pairsU]
theorem pairsU_at {N : Nt} {k i : Nat} (h : i < k) : (pairsU N k).getD i [] = inL (N.l.getD ((prkN N).getD i 0).toNat Lk.nil) := by simp [pairsU, List.getD, h]
/-- The graph of a switching, as the program makes it. -/
def grL (N : Nt) (s : List Int) : List Ac := (arcsU N N.w.length).filter fun a => !decide (a.w ∈ notU N s (prkN N).length)
/-- A switching. -/
def isSw (N : Nt) (s : List Int) : Bool := valN N && (decide (s.length = (prkN N).length) && s.all fun c => decide (c = 0 ∨ c = 1))
theorem isSw_yes {N : Nt} {s : List Int} (h : isSw N s = true) : valN N = true ∧ s.length = (prkN N).length ∧ ∀ c ∈ s, c = 0 ∨ c = 1 := by
  simp only [isSw, Bool.and_eq_true, decide_eq_true_eq, List.all_eq_true] at h
  exact h
/-- The input of a link is used by a switching, as the model asks. -/
def choB (N : Nt) (s : List Int) (k x : Int) : Bool := match (prkN N).findIdx? (fun p => p == k) with
  | some i => (decide (s.getD i 0 = 0) && decide ((N.l.getD k.toNat Lk.nil).a = x)) || (decide (s.getD i 0 = 1) && decide ((N.l.getD k.toNat Lk.nil).b = x))
  | none => true
/-- The model's arcs. -/
def mgU (N : Nt) (s : List Int) (k : Nat) : List Ac := ((List.range k).filter fun x : Nat => decide (0 ≤ lxN inL N (x : Int)) && choB N s (lxN inL N (x : Int)) (x : Int)).map fun x : Nat => arcA N x
theorem mgU_yes {N : Nt} {s : List Int} {k : Nat} (h : 0 ≤ lxN inL N (k : Int)) (hc : choB N s (lxN inL N (k : Int)) (k : Int) = true) : mgU N s (k + 1) = mgU N s k ++ [arcA N k] := by
  unfold mgU; rw [List.range_succ, List.filter_append, List.map_append]
  simp only [List.filter_cons, List.filter_nil]
  rw [if_pos (by rw [hc]; simpa using h)]; rfl
theorem mgU_no {N : Nt} {s : List Int} {k : Nat} (h : ¬ (0 ≤ lxN inL N (k : Int) ∧ choB N s (lxN inL N (k : Int)) (k : Int) = true)) : mgU N s (k + 1) = mgU N s k := by
  unfold mgU; rw [List.range_succ, List.filter_append, List.map_append]
  simp only [List.filter_cons, List.filter_nil]
  rw [if_neg (by simpa using h)]; simp
theorem mgU_len (N : Nt) (s : List Int) (k : Nat) : (mgU N s k).length ≤ k := by
  unfold mgU
  rw [List.length_map]
  exact Nat.le_trans (List.length_filter_le _ _) (by simp)
/-- The inputs of a link of a valid net are two wires. -/
theorem in_differ {N : Nt} (hv : valN N = true) {j : Nat} (hj : j < N.l.length) (h1 : ¬ (N.l.getD j Lk.nil).k = 1) : ¬ (N.l.getD j Lk.nil).a = (N.l.getD j Lk.nil).b := fun e => by
  obtain ⟨_, hlt, ea⟩ := inW_yes (fitsN_yes (link_fits hv hj)).1
  have hu := (valN_at hv hlt).2
  have hc := (concN_le N.c (N.l.getD j Lk.nil).a.toNat).1
  have hs := sum_ge_one (f := fun l => us1 l (N.l.getD j Lk.nil).a.toNat) (fun l => (us1_le l _).1) N.l j hj
  have h2 : us1 (N.l.getD j Lk.nil) (N.l.getD j Lk.nil).a.toNat = 2 := by
    unfold us1
    rw [if_neg h1, ← e]
    unfold one
    rw [if_pos rfl]; rfl
  unfold usedN at hu
  rw [h2] at hs
  omega
theorem in_two {l : Lk} (h : ¬ l.k = 1) : inL l = [l.a, l.b] := by unfold inL; rw [if_neg h]
theorem notU_mem {N : Nt} {s : List Int} {y : Int} {n : Nat} : y ∈ notU N s n ↔ ∃ i, i < n ∧ (inL (N.l.getD ((prkN N).getD i 0).toNat Lk.nil)).getD (1 - s.getD i 0).toNat 0 = y := by
  unfold notU
  simp only [List.mem_map, List.mem_range]
/-- What the program leaves out the model does not choose. -/
theorem cho_is {N : Nt} {s : List Int} (h : isSw N s = true) {x j : Nat} (hx : x < N.w.length) (hj : j < N.l.length) (hm : (x : Int) ∈ inL (N.l.getD j Lk.nil)) : (!decide ((x : Int) ∈ notU N s (prkN N).length)) = choB N s (j : Int) (x : Int) := by
  obtain ⟨hv, hl, hs⟩ := isSw_yes h
  have hin : inW N.w.length (x : Int) = true := decide_eq_true (by omega)
  have key : ∀ i, i < (prkN N).length → (inL (N.l.getD ((prkN N).getD i 0).toNat Lk.nil)).getD (1 - s.getD i 0).toNat 0 = (x : Int) → (prkN N).getD i 0 = (j : Int) := fun i hi hz => by
    obtain ⟨q, hq, hk, e⟩ := prkN_at hi
    have hsi : s.getD i 0 = 0 ∨ s.getD i 0 = 1 := hs _ (getL_mem (by omega))
    rw [e] at hz ⊢
    rw [Int.toNat_natCast, in_two (by omega)] at hz
    have hmem : (x : Int) ∈ inL (N.l.getD q Lk.nil) := by
      rw [in_two (by omega), ← hz]
      rcases hsi with e1 | e1 <;> rw [e1] <;> simp
    rw [(oneP_in hv).one _ q j hin hq hj hmem hm]
  unfold choB
  cases hf : (prkN N).findIdx? (fun p => p == (j : Int)) with
  | none =>
    have hno : ¬ (x : Int) ∈ notU N s (prkN N).length := fun hq => by
      obtain ⟨i, hi, e⟩ := notU_mem.1 hq
      have e2 := key i hi e
      have := List.findIdx?_eq_none_iff.1 hf _ (getL_mem (d := 0) hi)
      rw [e2] at this; simp at this
    simp [hno]
  | some i =>
    obtain ⟨hi, hp, _⟩ := List.findIdx?_eq_some_iff_getElem.1 hf
    have e : (prkN N).getD i 0 = (j : Int) := by
      rw [List.getD_eq_getElem?_getD, List.getElem?_eq_getElem hi, Option.getD_some]
      simpa using hp
    obtain ⟨q, hq, hk, e3⟩ := prkN_at hi
    rw [e] at e3
    obtain rfl : j = q := by omega
    have hab := in_differ hv hj (by omega)
    have hsi : s.getD i 0 = 0 ∨ s.getD i 0 = 1 := hs _ (getL_mem (by omega))
    rw [in_two (by omega)] at hm
    have hmn : (x : Int) ∈ notU N s (prkN N).length ↔ (inL (N.l.getD j Lk.nil)).getD (1 - s.getD i 0).toNat 0 = (x : Int) := by
      rw [notU_mem]
      constructor
      · rintro ⟨i', hi', e'⟩
        have e4 := key i' hi' e'
        obtain rfl : i' = i := nodup_at (kinU_nodup 4 N.l N.l.length) hi' hi (by rw [show kinU 4 N.l N.l.length = prkN N from rfl, e4, e])
        rw [e4, Int.toNat_natCast] at e'
        exact e'
      · intro e'
        exact ⟨i, hi, by rw [e, Int.toNat_natCast]; exact e'⟩
    rw [in_two (by omega)] at hmn
    simp only [Int.toNat_natCast]
    rw [Bool.eq_iff_iff]
    simp only [Bool.not_eq_true', decide_eq_false_iff_not, Bool.or_eq_true, Bool.and_eq_true, decide_eq_true_eq, hmn]
    simp only [List.mem_cons, List.not_mem_nil, or_false] at hm
    clear hmn key
    generalize N.l.getD j Lk.nil = l at *
    rcases hsi with e1 | e1
    · rw [e1]
      simp
      omega
    · rw [e1]
      simp
      omega
/-- The program's graph is the model's. -/
theorem graph_same {N : Nt} {s : List Int} (h : isSw N s = true) : grL N s = mgU N s N.w.length := by
  unfold grL arcsU mgU
  rw [List.filter_map, List.filter_filter]
  congr 1
  apply List.filter_congr
  intro x hx
  have hx' := List.mem_range.1 hx
  rcases lxN_cases inL N (x : Int) with ⟨j, hj, hm, e⟩ | ⟨_, e⟩
  · have hc := cho_is h hx' hj hm
    rw [e]
    have h1 : decide (¬ (j : Int) = -1) = true := decide_eq_true (by omega)
    have h2 : decide (0 ≤ (j : Int)) = true := decide_eq_true (by omega)
    rw [h1, h2, ← hc]
    simp [arcA]
  · rw [e]; simp
end
section
open Go.ChangeAt Go.ChangeShapes Go.RowKit Go.WideShapes

/-- The parts at the start. -/
def parts0 (n : Nat) : List Int := (List.range n).map fun i : Nat => (i : Int)
theorem parts0_len (n : Nat) : (parts0 n).length = n := by simp [parts0]
theorem parts0_at {n i : Nat} (h : i < n) : (parts0 n).getD i 0 = (i : Int) := by simp [parts0, List.getD, h]
/-- One part renamed. -/
def renP (P : List Int) (x y : Int) : List Int := P.map fun p => if p = y then x else p
theorem renP_len (P : List Int) (x y : Int) : (renP P x y).length = P.length := by simp [renP]
theorem renP_at {P : List Int} {x y : Int} {i : Nat} (h : i < P.length) : (renP P x y).getD i 0 = if P.getD i 0 = y then x else P.getD i 0 := by simp [renP, List.getD, h]
/-- The model's: the smallest node of each part. -/
def stepR (o : List Int × Bool) (a : Ac) : List Int × Bool := (renP o.1 (min (o.1.getD a.f.toNat 0) (o.1.getD a.t.toNat 0)) (max (o.1.getD a.f.toNat 0) (o.1.getD a.t.toNat 0)), o.2 || decide (o.1.getD a.f.toNat 0 = o.1.getD a.t.toNat 0))
def runR (n : Nat) (ar : List Ac) (k : Nat) : List Int × Bool := (ar.take k).foldl stepR (parts0 n, false)
theorem runR_zero (n : Nat) (ar : List Ac) : runR n ar 0 = (parts0 n, false) := rfl
theorem runR_succ {n : Nat} {ar : List Ac} {k : Nat} (h : k < ar.length) : runR n ar (k + 1) = stepR (runR n ar k) (ar.getD k Ac.nil) := by
  unfold runR
  rw [takeL_succ (d := Ac.nil) h, List.foldl_append]; rfl
theorem runR_len (n : Nat) (ar : List Ac) : ∀ k, k ≤ ar.length → (runR n ar k).1.length = n
  | 0, _ => parts0_len n
  | k + 1, h => by rw [runR_succ (by omega)]; unfold stepR; rw [renP_len, runR_len n ar k (by omega)]
/-- The ends of the arcs are nodes. -/
def ArcsIn (n : Nat) (ar : List Ac) : Prop := ∀ a ∈ ar, inW n a.f = true ∧ inW n a.t = true
/-- What both hold so far. -/
structure SameP (n m : Nat) (P R : List Int) : Prop where
  lp : P.length = n
  lr : R.length = n
  same : ∀ i j, i < n → j < n → (P.getD i 0 = P.getD j 0 ↔ R.getD i 0 = R.getD j 0)
  fix : ∀ i, i < n → ∃ v : Nat, v < n ∧ P.getD i 0 = (v : Int) ∧ P.getD v 0 = (v : Int)
  cnt : ((List.range n).map fun i : Nat => one (P.getD i 0 = (i : Int))).sum = (n : Int) - (m : Int)
  pos : ∀ i, i < n → 0 ≤ R.getD i 0
  root : 0 < n → R.getD 0 0 = 0
theorem sum_same2 {n : Nat} {f g : Nat → Int} (h : ∀ i, i < n → f i = g i) : ((List.range n).map f).sum = ((List.range n).map g).sum := by
  congr 1
  exact List.map_congr_left fun i hi => h i (List.mem_range.1 hi)
theorem sum_minus (n : Nat) (f g : Nat → Int) : ((List.range n).map fun i => f i - g i).sum = ((List.range n).map f).sum - ((List.range n).map g).sum := by
  induction n with
  | zero => rfl
  | succ n ih => rw [List.range_succ]; simp only [List.map_append, List.sum_append, List.map_cons, List.map_nil, List.sum_cons, List.sum_nil, ih]; omega
theorem sum_ones (n : Nat) : ((List.range n).map fun _ => (1 : Int)).sum = n := by
  induction n with
  | zero => rfl
  | succ n ih => rw [List.range_succ]; simp only [List.map_append, List.sum_append, List.map_cons, List.map_nil, List.sum_cons, List.sum_nil, ih]; omega
theorem SameP.start (n : Nat) : SameP n 0 (parts0 n) (parts0 n) where
  lp := parts0_len n
  lr := parts0_len n
  same i j hi hj := Iff.rfl
  fix i hi := ⟨i, hi, parts0_at hi, parts0_at hi⟩
  cnt := by
    rw [sum_same2 (g := fun _ => 1) fun i hi => by unfold one; rw [if_pos (parts0_at hi)], sum_ones]; omega
  pos i hi := by rw [parts0_at hi]; omega
  root h := parts0_at h
theorem SameP.step {n m : Nat} {P R : List Int} (h : SameP n m P R) {x y : Nat} (hx : x < n) (hy : y < n) (hne : ¬ P.getD x 0 = P.getD y 0) :
    SameP n (m + 1) (renP P (P.getD x 0) (P.getD y 0)) (renP R (min (R.getD x 0) (R.getD y 0)) (max (R.getD x 0) (R.getD y 0))) := by
  have hnr : ¬ R.getD x 0 = R.getD y 0 := fun e => hne ((h.same x y hx hy).2 e)
  have eP : ∀ i, i < n → (renP P (P.getD x 0) (P.getD y 0)).getD i 0 = if P.getD i 0 = P.getD y 0 then P.getD x 0 else P.getD i 0 := fun i hi => renP_at (by rw [h.lp]; exact hi)
  have eR : ∀ i, i < n → (renP R (min (R.getD x 0) (R.getD y 0)) (max (R.getD x 0) (R.getD y 0))).getD i 0 = if R.getD i 0 = max (R.getD x 0) (R.getD y 0) then min (R.getD x 0) (R.getD y 0) else R.getD i 0 := fun i hi => renP_at (by rw [h.lr]; exact hi)
  obtain ⟨vx, hvx, ex, fx⟩ := h.fix x hx
  obtain ⟨vy, hvy, ey, fy⟩ := h.fix y hy
  have px := h.pos x hx; have py := h.pos y hy
  refine ⟨by rw [renP_len, h.lp], by rw [renP_len, h.lr], fun i j hi hj => ?_, fun i hi => ?_, ?_, fun i hi => ?_, fun hn => ?_⟩
  · rw [eP i hi, eP j hj, eR i hi, eR j hj]
    have a1 := h.same i y hi hy; have a2 := h.same j y hj hy; have a3 := h.same i x hi hx; have a4 := h.same j x hj hx; have a5 := h.same i j hi hj
    generalize P.getD i 0 = pi at *; generalize P.getD j 0 = pj at *
    generalize R.getD i 0 = ri at *; generalize R.getD j 0 = rj at *
    generalize R.getD x 0 = rx at *; generalize R.getD y 0 = ry at *
    generalize P.getD x 0 = qx at *; generalize P.getD y 0 = qy at *
    by_cases c1 : pi = qy <;> by_cases c2 : pj = qy <;> by_cases c3 : pi = qx <;> by_cases c4 : pj = qx <;> simp only [c1, c2, c3, c4, if_true, if_false, true_iff, false_iff] at a1 a2 a3 a4 a5 ⊢ <;> (rcases Int.le_total rx ry with hle | hle <;> simp only [Int.max_eq_right, Int.min_eq_left, Int.max_eq_left, Int.min_eq_right, hle] <;> (repeat' split) <;> omega)
  · rw [eP i hi]
    obtain ⟨v, hv, e1, e2⟩ := h.fix i hi
    by_cases c : P.getD i 0 = P.getD y 0
    · rw [if_pos c]
      refine ⟨vx, hvx, ex, ?_⟩
      rw [eP vx hvx, if_neg (by omega)]; exact fx
    · rw [if_neg c]
      refine ⟨v, hv, e1, ?_⟩
      rw [eP v hv, if_neg (by omega)]; exact e2
  · rw [sum_same2 (g := fun i => one (P.getD i 0 = (i : Int)) - one (vy = i)) fun i hi => ?_, sum_minus, h.cnt, sum_one hvy]
    · omega
    · rw [eP i hi]
      by_cases c : P.getD i 0 = P.getD y 0
      · rw [if_pos c]
        have h1 : ¬ P.getD x 0 = (i : Int) := fun e => by
          obtain rfl : vx = i := by omega
          omega
        unfold one
        rw [if_neg h1]
        by_cases c2 : vy = i
        · rw [if_pos (by omega), if_pos c2]; rfl
        · rw [if_neg (by omega), if_neg c2]; rfl
      · rw [if_neg c]
        have h1 : ¬ vy = i := fun e => by subst e; omega
        unfold one
        rw [if_neg h1]; omega
  · rw [eR i hi]
    have := h.pos i hi
    split <;> omega
  · rw [eR 0 hn, h.root hn]
    have := h.pos x hx
    split <;> omega
theorem sum_zero_of {n : Nat} {f : Nat → Int} (h : ∀ i, i < n → f i = 0) : ((List.range n).map f).sum = 0 := by rw [sum_same2 h, sum_zero]
end
section
set_option linter.unusedSimpArgs false
set_option linter.unusedVariables false
open Go.ChangeAt Go.ChangeShapes Go.RowKit Go.WideShapes
end
end Go.Proofs.YtfdpkhiiboghiaaGreatDoor
