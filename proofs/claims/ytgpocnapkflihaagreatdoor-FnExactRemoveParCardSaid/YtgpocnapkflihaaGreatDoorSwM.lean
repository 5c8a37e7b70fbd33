/- Mathematics: par links, switchings, their graphs; the program's graph is the model's. -/
import Derived.Test.YtgpocnapkflihaaGreatDoorLxM
namespace Go.Proofs.YtgpocnapkflihaaGreatDoor
open Go.ChangeAt Go.ChangeShapes Go.RowKit Go.WideShapes

theorem kinU_mem {x : Int} {ls : List Lk} {k : Nat} {y : Int} : y ∈ kinU x ls k ↔ ∃ j, j < k ∧ (ls.getD j Lk.nil).k = x ∧ y = (j : Int) := by
  unfold kinU
  simp only [List.mem_map, List.mem_filter, List.mem_range, beq_iff_eq]
  constructor
  · rintro ⟨j, ⟨h1, h2⟩, rfl⟩; exact ⟨j, h1, h2, rfl⟩
  · rintro ⟨j, h1, h2, rfl⟩; exact ⟨j, ⟨h1, h2⟩, rfl⟩
theorem kinU_nodup (x : Int) (ls : List Lk) (k : Nat) : (kinU x ls k).Nodup := by
  unfold kinU
  rw [List.nodup_iff_pairwise_ne, List.pairwise_map]
  have h : ((List.range k).filter fun i => (ls.getD i Lk.nil).k == x).Pairwise (· ≠ ·) := List.Pairwise.filter _ (List.nodup_range (n := k))
  exact h.imp fun hab e => hab (by omega)
theorem nodup_at {L : List Int} (h : L.Nodup) {i j : Nat} (hi : i < L.length) (hj : j < L.length) (e : L.getD i 0 = L.getD j 0) : i = j := by
  simp only [List.getD_eq_getElem?_getD, List.getElem?_eq_getElem hi, List.getElem?_eq_getElem hj, Option.getD_some] at e
  have hp := List.pairwise_iff_getElem.1 (List.nodup_iff_pairwise_ne.1 h)
  rcases Nat.lt_trichotomy i j with q | q | q
  · exact absurd e (hp i j hi hj q)
  · exact q
  · exact absurd e.symm (hp j i hj hi q)
/-- The par links of a net. -/
def prkN (N : Nt) : List Int := kinU 4 N.l N.l.length
theorem prkN_len (N : Nt) : (prkN N).length ≤ N.l.length := kinU_len _ _ _
theorem prkN_at {N : Nt} {i : Nat} (h : i < (prkN N).length) : ∃ j, j < N.l.length ∧ (N.l.getD j Lk.nil).k = 4 ∧ (prkN N).getD i 0 = (j : Int) := by
  obtain ⟨j, h1, h2, h3⟩ := kinU_mem.1 (getL_mem (d := 0) h)
  exact ⟨j, h1, h2, h3⟩
/-- How many switchings a net has. -/
def scV (N : Nt) : Int := if valN N = true ∧ (prkN N).length ≤ 10 then ((2 ^ (prkN N).length : Nat) : Int) else -1
theorem scV_inv {N : Nt} (h : valN N = false) : scV N = -1 := by unfold scV; rw [if_neg (by rw [h]; simp)]
theorem scV_many {N : Nt} (h : 10 < (prkN N).length) : scV N = -1 := by unfold scV; rw [if_neg (by omega)]
theorem scV_yes {N : Nt} (hv : valN N = true) (h : (prkN N).length ≤ 10) : scV N = ((2 ^ (prkN N).length : Nat) : Int) := by unfold scV; rw [if_pos ⟨hv, h⟩]
/-- A switching by its number. -/
def swU (x : Int) (n : Nat) : List Int := (List.range n).map fun i : Nat => x / 2 ^ i % 2
theorem swU_len (x : Int) (n : Nat) : (swU x n).length = n := by simp [swU]
theorem swU_zero (x : Int) : swU x 0 = [] := rfl
theorem swU_succ (x : Int) (n : Nat) : swU x (n + 1) = swU x n ++ [x / 2 ^ n % 2] := by simp [swU, List.range_succ]
theorem swU_at {x : Int} {n i : Nat} (h : i < n) : (swU x n).getD i 0 = x / 2 ^ i % 2 := by simp [swU, List.getD, h]
theorem swU_in (x : Int) (n : Nat) : ∀ c ∈ swU x n, c = 0 ∨ c = 1 := fun c h => by
  obtain ⟨i, _, rfl⟩ := List.mem_map.1 h
  omega
def soV (N : Nt) (x : Int) : List Int := if 0 ≤ x ∧ x < scV N then swU x (prkN N).length else []
def soB (N : Nt) (x : Int) : Bool := decide (0 ≤ x ∧ x < scV N)
theorem soV_len (N : Nt) (x : Int) : (soV N x).length ≤ 48 := by
  unfold soV
  split
  · next h =>
    rw [swU_len]
    unfold scV at h
    split at h
    · omega
    · omega
  · simp
/-- An arc of a graph. -/
structure Ac where
  w : Int
  f : Int
  t : Int
deriving DecidableEq
def Ac.nil : Ac := ⟨0, 0, 0⟩
/-- The arc of a wire that has a consumer. -/
def arcA (N : Nt) (x : Nat) : Ac := ⟨x, lxN outL N x, lxN inL N x⟩
/-- The arcs of the wires below k. -/
def arcsU (N : Nt) (k : Nat) : List Ac := ((List.range k).filter fun x : Nat => decide (¬ lxN inL N (x : Int) = -1)).map fun x : Nat => arcA N x
theorem arcsU_zero (N : Nt) : arcsU N 0 = [] := rfl
theorem arcsU_yes {N : Nt} {k : Nat} (h : ¬ lxN inL N (k : Int) = -1) : arcsU N (k + 1) = arcsU N k ++ [arcA N k] := by
  unfold arcsU; rw [List.range_succ, List.filter_append, List.map_append]
  simp only [List.filter_cons, List.filter_nil]
  rw [if_pos (by simpa using h)]; rfl
theorem arcsU_no {N : Nt} {k : Nat} (h : lxN inL N (k : Int) = -1) : arcsU N (k + 1) = arcsU N k := by
  unfold arcsU; rw [List.range_succ, List.filter_append, List.map_append]
  simp only [List.filter_cons, List.filter_nil]
  rw [if_neg (by simpa using h)]; simp
theorem arcsU_len (N : Nt) (k : Nat) : (arcsU N k).length ≤ k := by
  unfold arcsU
  rw [List.length_map]
  exact Nat.le_trans (List.length_filter_le _ _) (by simp)
/-- The inputs of the par links. -/
def pairsU (N : Nt) (k : Nat) : List (List Int) := (List.range k).map fun i => inL (N.l.getD ((prkN N).getD i 0).toNat Lk.nil)
/-- The inputs that a switching leaves out. -/
def notU (N : Nt) (s : List Int) (k : Nat) : List Int := (List.range k).map fun i => (inL (N.l.getD ((prkN N).getD i 0).toNat Lk.nil)).getD (1 - s.getD i 0).toNat 0
theorem notU_succ (N : Nt) (s : List Int) (k : Nat) : notU N s (k + 1) = notU N s k ++ [(inL (N.l.getD ((prkN N).getD k 0).toNat Lk.nil)).getD (1 - s.getD k 0).toNat 0] := by simp [notU, List.range_succ]
theorem notU_len (N : Nt) (s : List Int) (k : Nat) : (notU N s k).length = k := by simp [notU]
theorem pairsU_succ (N : Nt) (k : Nat) : pairsU N (k + 1) = pairsU N k ++ [inL (N.l.getD ((prkN N).getD k 0).toNat Lk.nil)] := by simp [pairsU, List.range_succ]
theorem pairsU_len (N : Nt) (k : Nat) : (pairsU N k).length = k := by simp [pairsU]
theorem pairsU_at {N : Nt} {k i : Nat} (h : i < k) : (pairsU N k).getD i [] = inL (N.l.getD ((prkN N).getD i 0).toNat Lk.nil) := by simp [pairsU, List.getD, h]
/-- The graph of a switching, as the program makes it. -/
def grL (N : Nt) (s : List Int) : List Ac := (arcsU N N.w.length).filter fun a => !decide (a.w ∈ notU N s (prkN N).length)
/-- A switching. -/
def isSw (N : Nt) (s : List Int) : Bool := valN N && (decide (s.length = (prkN N).length) && s.all fun c => decide (c = 0 ∨ c = 1))
theorem isSw_yes {N : Nt} {s : List Int} (h : isSw N s = true) : valN N = true ∧ s.length = (prkN N).length ∧ ∀ c ∈ s, c = 0 ∨ c = 1 := by
  simp only [isSw, Bool.and_eq_true, decide_eq_true_eq, List.all_eq_true] at h
  exact h
/-- The input of a link is used by a switching, as the model asks. -/
def choB (N : Nt) (s : List Int) (k x : Int) : Bool := match (prkN N).findIdx? (fun p => p == k) with
  | some i => (decide (s.getD i 0 = 0) && decide ((N.l.getD k.toNat Lk.nil).a = x)) || (decide (s.getD i 0 = 1) && decide ((N.l.getD k.toNat Lk.nil).b = x))
  | none => true
/-- The model's arcs. -/
def mgU (N : Nt) (s : List Int) (k : Nat) : List Ac := ((List.range k).filter fun x : Nat => decide (0 ≤ lxN inL N (x : Int)) && choB N s (lxN inL N (x : Int)) (x : Int)).map fun x : Nat => arcA N x
theorem mgU_zero (N : Nt) (s : List Int) : mgU N s 0 = [] := rfl
theorem mgU_yes {N : Nt} {s : List Int} {k : Nat} (h : 0 ≤ lxN inL N (k : Int)) (hc : choB N s (lxN inL N (k : Int)) (k : Int) = true) : mgU N s (k + 1) = mgU N s k ++ [arcA N k] := by
  unfold mgU; rw [List.range_succ, List.filter_append, List.map_append]
  simp only [List.filter_cons, List.filter_nil]
  rw [if_pos (by rw [hc]; simpa using h)]; rfl
theorem mgU_no {N : Nt} {s : List Int} {k : Nat} (h : ¬ (0 ≤ lxN inL N (k : Int) ∧ choB N s (lxN inL N (k : Int)) (k : Int) = true)) : mgU N s (k + 1) = mgU N s k := by
  unfold mgU; rw [List.range_succ, List.filter_append, List.map_append]
  simp only [List.filter_cons, List.filter_nil]
  rw [if_neg (by simpa using h)]; simp
theorem mgU_len (N : Nt) (s : List Int) (k : Nat) : (mgU N s k).length ≤ k := by
  unfold mgU
  rw [List.length_map]
  exact Nat.le_trans (List.length_filter_le _ _) (by simp)
/-- The inputs of a link of a valid net are two wires. -/
theorem in_differ {N : Nt} (hv : valN N = true) {j : Nat} (hj : j < N.l.length) (h1 : ¬ (N.l.getD j Lk.nil).k = 1) : ¬ (N.l.getD j Lk.nil).a = (N.l.getD j Lk.nil).b := fun e => by
  obtain ⟨_, hlt, ea⟩ := inW_yes (fitsN_yes (link_fits hv hj)).1
  have hu := (valN_at hv hlt).2
  have hc := (concN_le N.c (N.l.getD j Lk.nil).a.toNat).1
  have hs := sum_ge_one (f := fun l => us1 l (N.l.getD j Lk.nil).a.toNat) (fun l => (us1_le l _).1) N.l j hj
  have h2 : us1 (N.l.getD j Lk.nil) (N.l.getD j Lk.nil).a.toNat = 2 := by
    unfold us1
    rw [if_neg h1, ← e]
    unfold one
    rw [if_pos rfl]; rfl
  unfold usedN at hu
  rw [h2] at hs
  omega
theorem in_two {l : Lk} (h : ¬ l.k = 1) : inL l = [l.a, l.b] := by unfold inL; rw [if_neg h]
theorem notU_mem {N : Nt} {s : List Int} {y : Int} {n : Nat} : y ∈ notU N s n ↔ ∃ i, i < n ∧ (inL (N.l.getD ((prkN N).getD i 0).toNat Lk.nil)).getD (1 - s.getD i 0).toNat 0 = y := by
  unfold notU
  simp only [List.mem_map, List.mem_range]
/-- What the program leaves out the model does not choose. -/
theorem cho_is {N : Nt} {s : List Int} (h : isSw N s = true) {x j : Nat} (hx : x < N.w.length) (hj : j < N.l.length) (hm : (x : Int) ∈ inL (N.l.getD j Lk.nil)) : (!decide ((x : Int) ∈ notU N s (prkN N).length)) = choB N s (j : Int) (x : Int) := by
  obtain ⟨hv, hl, hs⟩ := isSw_yes h
  have hin : inW N.w.length (x : Int) = true := decide_eq_true (by omega)
  have key : ∀ i, i < (prkN N).length → (inL (N.l.getD ((prkN N).getD i 0).toNat Lk.nil)).getD (1 - s.getD i 0).toNat 0 = (x : Int) → (prkN N).getD i 0 = (j : Int) := fun i hi hz => by
    obtain ⟨q, hq, hk, e⟩ := prkN_at hi
    have hsi : s.getD i 0 = 0 ∨ s.getD i 0 = 1 := hs _ (getL_mem (by omega))
    rw [e] at hz ⊢
    rw [Int.toNat_natCast, in_two (by omega)] at hz
    have hmem : (x : Int) ∈ inL (N.l.getD q Lk.nil) := by
      rw [in_two (by omega), ← hz]
      rcases hsi with e1 | e1 <;> rw [e1] <;> simp
    rw [(oneP_in hv).one _ q j hin hq hj hmem hm]
  unfold choB
  cases hf : (prkN N).findIdx? (fun p => p == (j : Int)) with
  | none =>
    have hno : ¬ (x : Int) ∈ notU N s (prkN N).length := fun hq => by
      obtain ⟨i, hi, e⟩ := notU_mem.1 hq
      have e2 := key i hi e
      have := List.findIdx?_eq_none_iff.1 hf _ (getL_mem (d := 0) hi)
      rw [e2] at this; simp at this
    simp [hno]
  | some i =>
    obtain ⟨hi, hp, _⟩ := List.findIdx?_eq_some_iff_getElem.1 hf
    have e : (prkN N).getD i 0 = (j : Int) := by
      rw [List.getD_eq_getElem?_getD, List.getElem?_eq_getElem hi, Option.getD_some]
      simpa using hp
    obtain ⟨q, hq, hk, e3⟩ := prkN_at hi
    rw [e] at e3
    obtain rfl : j = q := by omega
    have hab := in_differ hv hj (by omega)
    have hsi : s.getD i 0 = 0 ∨ s.getD i 0 = 1 := hs _ (getL_mem (by omega))
    rw [in_two (by omega)] at hm
    have hmn : (x : Int) ∈ notU N s (prkN N).length ↔ (inL (N.l.getD j Lk.nil)).getD (1 - s.getD i 0).toNat 0 = (x : Int) := by
      rw [notU_mem]
      constructor
      · rintro ⟨i', hi', e'⟩
        have e4 := key i' hi' e'
        obtain rfl : i' = i := nodup_at (kinU_nodup 4 N.l N.l.length) hi' hi (by rw [show kinU 4 N.l N.l.length = prkN N from rfl, e4, e])
        rw [e4, Int.toNat_natCast] at e'
        exact e'
      · intro e'
        exact ⟨i, hi, by rw [e, Int.toNat_natCast]; exact e'⟩
    rw [in_two (by omega)] at hmn
    simp only [Int.toNat_natCast]
    rw [Bool.eq_iff_iff]
    simp only [Bool.not_eq_true', decide_eq_false_iff_not, Bool.or_eq_true, Bool.and_eq_true, decide_eq_true_eq, hmn]
    simp only [List.mem_cons, List.not_mem_nil, or_false] at hm
    clear hmn key
    generalize N.l.getD j Lk.nil = l at *
    rcases hsi with e1 | e1
    · rw [e1]
      simp
      omega
    · rw [e1]
      simp
      omega
/-- The program's graph is the model's. -/
theorem graph_same {N : Nt} {s : List Int} (h : isSw N s = true) : grL N s = mgU N s N.w.length := by
  unfold grL arcsU mgU
  rw [List.filter_map, List.filter_filter]
  congr 1
  apply List.filter_congr
  intro x hx
  have hx' := List.mem_range.1 hx
  rcases lxN_cases inL N (x : Int) with ⟨j, hj, hm, e⟩ | ⟨_, e⟩
  · have hc := cho_is h hx' hj hm
    rw [e]
    have h1 : decide (¬ (j : Int) = -1) = true := decide_eq_true (by omega)
    have h2 : decide (0 ≤ (j : Int)) = true := decide_eq_true (by omega)
    rw [h1, h2, ← hc]
    simp [arcA]
  · rw [e]; simp
end Go.Proofs.YtgpocnapkflihaaGreatDoor
