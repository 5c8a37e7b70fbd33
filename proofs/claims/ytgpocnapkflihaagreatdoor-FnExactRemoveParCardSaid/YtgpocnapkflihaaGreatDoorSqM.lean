/- Mathematics of chapter 14: terminal links; the parts that are left when a link is removed; nets of some links. -/
import Derived.Test.YtgpocnapkflihaaGreatDoorPaM
import Derived.Test.YtgpocnapkflihaaGreatDoorSrI
namespace Go.Proofs.YtgpocnapkflihaaGreatDoor
set_option linter.unusedSimpArgs false
set_option linter.unusedVariables false
open Go.ChangeAt Go.ChangeShapes Go.RowKit Go.WideShapes

/-- The numbers below k of which p says yes. -/
def selU (p : Nat → Bool) (k : Nat) : List Int := ((List.range k).filter p).map fun x : Nat => (x : Int)
theorem selU_zero (p : Nat → Bool) : selU p 0 = [] := rfl
theorem selU_yes {p : Nat → Bool} {k : Nat} (h : p k = true) : selU p (k + 1) = selU p k ++ [(k : Int)] := by
  unfold selU; rw [List.range_succ, List.filter_append, List.map_append]; simp [h]
theorem selU_no {p : Nat → Bool} {k : Nat} (h : p k = false) : selU p (k + 1) = selU p k := by
  unfold selU; rw [List.range_succ, List.filter_append, List.map_append]; simp [h]
theorem selU_len (p : Nat → Bool) (k : Nat) : (selU p k).length ≤ k := by
  unfold selU; rw [List.length_map]; exact Nat.le_trans (List.length_filter_le _ _) (by rw [List.length_range]; exact Nat.le_refl _)
theorem selU_mem {p : Nat → Bool} {k : Nat} {x : Int} : x ∈ selU p k ↔ ∃ j : Nat, j < k ∧ p j = true ∧ x = (j : Int) := by
  unfold selU; rw [List.mem_map]
  constructor
  · rintro ⟨j, hj, rfl⟩; rw [List.mem_filter, List.mem_range] at hj; exact ⟨j, hj.1, hj.2, rfl⟩
  · rintro ⟨j, h1, h2, rfl⟩; exact ⟨j, by rw [List.mem_filter, List.mem_range]; exact ⟨h1, h2⟩, rfl⟩
theorem selU_lt (p : Nat → Bool) (k : Nat) : (selU p k).Pairwise (· < ·) := by
  unfold selU
  rw [List.pairwise_map]
  exact (List.Pairwise.filter p List.pairwise_lt_range).imp fun h => by omega
theorem selU_ext {p q : Nat → Bool} {k : Nat} (h : ∀ j, j < k → p j = q j) : selU p k = selU q k := by
  unfold selU
  rw [List.filter_congr fun x hx => h x (List.mem_range.1 hx)]
theorem selU_cut {p : Nat → Bool} {n x : Nat} (hx : x < n) (h : p x = true) : ∃ R, selU p n = selU p x ++ (x : Int) :: R := by
  induction n with
  | zero => omega
  | succ n ih =>
    by_cases e : x = n
    · subst e; exact ⟨[], by rw [selU_yes h]⟩
    · obtain ⟨R, hR⟩ := ih (by omega)
      cases hp : p n with
      | true => exact ⟨R ++ [(n : Int)], by rw [selU_yes hp, hR]; simp⟩
      | false => exact ⟨R, by rw [selU_no hp, hR]⟩
theorem selU_idx {p : Nat → Bool} {n x : Nat} (hx : x < n) (h : p x = true) : (selU p n).idxOf (x : Int) = (selU p x).length := by
  obtain ⟨R, hR⟩ := selU_cut hx h
  rw [hR, List.idxOf_append, if_neg]
  · simp
  · intro hm
    obtain ⟨j, hj, _, e⟩ := selU_mem.1 hm
    omega
theorem selU_mark (p : Int → Bool) (n : Nat) : (markL 0 n).filter p = selU (fun k => p (k : Int)) n := by
  have e : markL 0 n = (List.range n).map fun k : Nat => (k : Int) := by
    unfold markL
    exact List.map_congr_left fun i _ => by omega
  rw [e, List.filter_map]; rfl
/-- Strictly increasing lists of the same numbers are the same. -/
theorem strict_ext : ∀ {X Y : List Int}, X.Pairwise (· < ·) → Y.Pairwise (· < ·) → (∀ x, x ∈ X ↔ x ∈ Y) → X = Y
  | [], [], _, _, _ => rfl
  | [], y :: Y, _, _, h => absurd ((h y).2 (by simp)) (by simp)
  | x :: X, [], _, _, h => absurd ((h x).1 (by simp)) (by simp)
  | x :: X, y :: Y, hX, hY, h => by
    rw [List.pairwise_cons] at hX hY
    have e : x = y := by
      rcases List.mem_cons.1 ((h x).1 (by simp)) with e | e
      · exact e
      · rcases List.mem_cons.1 ((h y).2 (by simp)) with e2 | e2
        · exact e2.symm
        · have := hX.1 y e2; have := hY.1 x e; omega
    subst e
    rw [strict_ext hX.2 hY.2 fun z => ?_]
    have hz := h z
    rw [List.mem_cons, List.mem_cons] at hz
    constructor
    · intro hm
      have := hX.1 z hm
      exact (hz.1 (.inr hm)).resolve_left (by omega)
    · intro hm
      have := hY.1 z hm
      exact (hz.2 (.inr hm)).resolve_left (by omega)
theorem strict_nodup {X : List Int} (h : X.Pairwise (· < ·)) : X.Nodup := h.imp fun h e => by omega
theorem srt_strict {X Y : List Int} (hn : X.Nodup) (hY : Y.Pairwise (· < ·)) (h : ∀ x, x ∈ X ↔ x ∈ Y) : srtI X = Y := by
  have hp := srtI_perm X
  have hs : (srtI X).Pairwise (· < ·) := ((srtI_le X).and (hp.nodup_iff.2 hn)).imp fun {a b} q => by
    have q1 := q.1
    have q2 : a ≠ b := q.2
    omega
  exact strict_ext hs hY fun x => by rw [hp.mem_iff]; exact h x
-- conclusions
theorem conc_two : ∀ {cs : List Int}, (∀ x ∈ cs, 0 ≤ x) → (∀ k, concN cs k ≤ 1) → cs.Nodup
  | [], _, _ => List.nodup_nil
  | c :: cs, h0, h1 => by
    have e : ∀ k, concN (c :: cs) k = one (c.toNat = k) + concN cs k := fun k => by simp [concN]
    refine List.nodup_cons.2 ⟨fun hm => ?_, conc_two (fun x hx => h0 x (List.mem_cons_of_mem _ hx)) fun k => ?_⟩
    · have := h1 c.toNat
      rw [e] at this
      have h2 := conc_mem hm
      unfold one at this
      rw [if_pos rfl] at this
      omega
    · have := h1 k
      rw [e] at this
      have := one_le (c.toNat = k)
      omega
theorem conc_some : ∀ {cs : List Int} {k : Nat}, (∀ x ∈ cs, 0 ≤ x) → 1 ≤ concN cs k → (k : Int) ∈ cs
  | [], k, _, h => by simp [concN] at h
  | c :: cs, k, h0, h => by
    have e : concN (c :: cs) k = one (c.toNat = k) + concN cs k := by simp [concN]
    rw [e] at h
    by_cases hc : c.toNat = k
    · have := h0 c (by simp)
      rw [show (k : Int) = c by omega]; simp
    · unfold one at h
      rw [if_neg hc] at h
      exact List.mem_cons_of_mem _ (conc_some (fun x hx => h0 x (List.mem_cons_of_mem _ hx)) (by omega))
theorem conc_wires {N : Nt} (hv : valN N = true) {x : Int} (hx : x ∈ N.c) : inW N.w.length x = true := by
  have : N.c.all (inW N.w.length) = true := by simp only [valN, Bool.and_eq_true] at hv; exact hv.2.2.2.1
  exact List.all_eq_true.1 this x hx
theorem conc_nodup {N : Nt} (hv : valN N = true) : N.c.Nodup := by
  refine conc_two (fun x hx => (inW_yes (conc_wires hv hx)).1) fun k => ?_
  by_cases hk : k < N.w.length
  · have h := (valN_at hv hk).2
    have h2 : 0 ≤ usedN N.l k := by unfold usedN; exact sum_ge_zero (fun l => by unfold us1; split; omega; have := one_le (l.a.toNat = k); have := one_le (l.b.toNat = k); omega) N.l
    omega
  · have : concN N.c k = 0 := by
      refine Decidable.byContradiction fun e => ?_
      have h1 := (concN_le N.c k).1
      have := conc_some (fun x hx => (inW_yes (conc_wires hv hx)).1) (show 1 ≤ concN N.c k by omega)
      have := (inW_yes (conc_wires hv this)).2.1
      simp at this; omega
    omega
/-- A wire is a conclusion exactly if no link has it as an input. -/
theorem concl_iff {N : Nt} (hv : valN N = true) {k : Nat} (hk : k < N.w.length) : (k : Int) ∈ N.c ↔ lxN inL N (k : Int) = -1 := by
  have h := (valN_at hv hk).2
  have hus : usedN N.l k = (N.l.map fun l => concN (inL l) k).sum := by unfold usedN; congr 1; exact List.map_congr_left fun l _ => us1_is l k
  constructor
  · intro hm
    have h1 := conc_mem hm
    rw [Int.toNat_natCast] at h1
    rcases lxN_cases inL N (k : Int) with ⟨j, hj, hmj, ej⟩ | ⟨_, ej⟩
    · exfalso
      have h2 := conc_mem hmj
      rw [Int.toNat_natCast] at h2
      have h3 := sum_ge_one (f := fun l => concN (inL l) k) (fun l => (concN_le _ _).1) N.l j hj
      omega
    · exact ej
  · intro e
    have h0 : usedN N.l k = 0 := by
      rw [hus]
      rcases lxN_cases inL N (k : Int) with ⟨j, hj, hmj, ej⟩ | ⟨hno, _⟩
      · omega
      · have : ∀ l ∈ N.l, concN (inL l) k = 0 := fun l hl => by
          obtain ⟨j, hj, ej⟩ := List.getElem_of_mem hl
          have hn := hno j hj
          rw [show N.l.getD j Lk.nil = l by simp [List.getD, hj, ej]] at hn
          have hin := fitsN_yes ((List.all_eq_true.1 (valN_fits hv)) l hl)
          refine Decidable.byContradiction fun e2 => hn ?_
          have h1 := (concN_le (inL l) k).1
          exact conc_some (fun y hy => (inW_yes ((List.all_eq_true.1 (inL_in (Nat.le_refl _) hin.1 hin.2.1)) y hy)).1) (by omega)
        rw [List.map_congr_left this]
        generalize N.l = L
        induction L with
        | nil => rfl
        | cons c cs ih => (rw [List.map_cons, List.sum_cons, ih]; rfl)
    exact conc_some (fun x hx => (inW_yes (conc_wires hv hx)).1) (by omega)
theorem concl_is {N : Nt} (hv : valN N = true) {x : Int} (hx : inW N.w.length x = true) : N.c.contains x = decide (lxN inL N x = -1) := by
  obtain ⟨_, h1, e⟩ := inW_yes hx
  have := concl_iff hv h1
  rw [← e] at this
  rw [Bool.eq_iff_iff, List.contains_iff_mem, decide_eq_true_eq]; exact this
theorem out_in {N : Nt} (hv : valN N = true) {k : Nat} (hk : k < N.l.length) {x : Int} (hx : x ∈ outL (N.l.getD k Lk.nil)) : inW N.w.length x = true := by
  obtain ⟨h1, h2, h3, _⟩ := fitsN_yes (link_fits hv hk)
  exact List.all_eq_true.1 (outL_in (Nat.le_refl _) h1 h2 h3) x hx
theorem in_in {N : Nt} (hv : valN N = true) {k : Nat} (hk : k < N.l.length) {x : Int} (hx : x ∈ inL (N.l.getD k Lk.nil)) : inW N.w.length x = true := by
  obtain ⟨h1, h2, h3, _⟩ := fitsN_yes (link_fits hv hk)
  exact List.all_eq_true.1 (inL_in (Nat.le_refl _) h1 h2) x hx
/-- Is a link terminal? -/
def tmB (N : Nt) (k : Nat) : Bool := (outL (N.l.getD k Lk.nil)).all fun x => N.c.contains x
/-- The terminal links; those of them that are pars. -/
def tmL (N : Nt) : List Int := selU (tmB N) N.l.length
def tpB (N : Nt) (k : Nat) : Bool := decide ((N.l.getD k Lk.nil).k = 4) && tmB N k
def tpL (N : Nt) : List Int := selU (tpB N) N.l.length
theorem tm_at {N : Nt} (hv : valN N = true) {k : Nat} (hk : k < N.l.length) (h : tmB N k = true) {x : Int} (hx : x ∈ outL (N.l.getD k Lk.nil)) : lxN inL N x = -1 := by
  have := List.all_eq_true.1 h x hx
  rw [concl_is hv (out_in hv hk hx)] at this
  exact of_decide_eq_true this
/-- The producer of a wire. -/
theorem fr_mem {N : Nt} (hv : valN N = true) {x : Int} (hx : inW N.w.length x = true) : x ∈ outL (N.l.getD (frN N x) Lk.nil) := by
  have h := (fr_lt hv hx).1
  rcases lxN_cases outL N x with ⟨j, _, hm, e⟩ | ⟨_, e⟩
  · rw [h] at e
    rw [show frN N x = j by omega]; exact hm
  · omega
theorem fr_out {N : Nt} (hv : valN N = true) {k : Nat} (hk : k < N.l.length) {x : Int} (hx : x ∈ outL (N.l.getD k Lk.nil)) : frN N x = k := by
  obtain ⟨_, h1, e⟩ := inW_yes (out_in hv hk hx)
  rw [e] at hx
  have := lxN_yes (oneP_out hv) h1 hk hx
  unfold frN; rw [e, this]; omega
/-- The producer of an input of a link is not a terminal link. -/
theorem fr_ne {N : Nt} (hv : valN N = true) {k r : Nat} (hk : k < N.l.length) (hr : r < N.l.length) (h : tmB N r = true) {x : Int} (hx : x ∈ inL (N.l.getD k Lk.nil)) : ¬ frN N x = r := fun e => by
  have hin := in_in hv hk hx
  have hm := fr_mem hv hin
  rw [e] at hm
  have h1 := tm_at hv hr h hm
  obtain ⟨_, h2, e2⟩ := inW_yes hin
  rw [e2] at hx
  have := lxN_yes (oneP_in hv) h2 hk hx
  rw [← e2] at this
  omega
/-- The arcs without a link; the parts of the links. -/
def arcX (N : Nt) (r : Nat) : List Ac := (arcsU N N.w.length).filter fun a => !decide (a.f = (r : Int)) && !decide (a.t = (r : Int))
def rtX (N : Nt) (r : Nat) : List Int := (runR N.l.length (arcX N r) (arcX N r).length).1
def gpX (N : Nt) (r k : Nat) : Int := if k < N.l.length ∧ ¬ k = r then (rtX N r).getD k 0 else -1
theorem lxN_q (p : Lk → List Int) (N : Nt) (x : Int) : -1 ≤ lxN p N x ∧ lxN p N x < N.l.length := by
  rcases lxN_cases p N x with ⟨j, hj, _, e⟩ | ⟨_, e⟩ <;> rw [e] <;> omega
theorem arc_in {N : Nt} (hv : valN N = true) {a : Ac} (h : a ∈ arcsU N N.w.length) : inW N.l.length a.f = true ∧ inW N.l.length a.t = true ∧ inW N.w.length a.w = true ∧ frN N a.w = a.f.toNat ∧ lxN inL N a.w = a.t := by
  unfold arcsU at h
  obtain ⟨x, hx, rfl⟩ := List.mem_map.1 h
  rw [List.mem_filter, List.mem_range, decide_eq_true_eq] at hx
  have hw : inW N.w.length (x : Int) = true := decide_eq_true (by omega)
  have h1 := fr_lt hv hw
  have h2 := lxN_q inL N (x : Int)
  refine ⟨decide_eq_true ?_, decide_eq_true ?_, hw, rfl, rfl⟩
  · show 0 ≤ lxN outL N (x : Int) ∧ lxN outL N (x : Int) ≤ _
    omega
  · show 0 ≤ lxN inL N (x : Int) ∧ lxN inL N (x : Int) ≤ _
    omega
/-- The arcs as the model takes them: those that do not lead to the link. -/
def arcY (N : Nt) (r k : Nat) : List Ac := ((List.range k).filter fun x : Nat => decide (0 ≤ lxN inL N (x : Int)) && !decide (lxN inL N (x : Int) = (r : Int))).map fun x : Nat => arcA N x
theorem arcY_yes {N : Nt} {r k : Nat} (h : 0 ≤ lxN inL N (k : Int)) (h2 : ¬ lxN inL N (k : Int) = (r : Int)) : arcY N r (k + 1) = arcY N r k ++ [arcA N k] := by
  unfold arcY; rw [List.range_succ, List.filter_append, List.map_append]; simp [h, h2]
theorem arcY_no {N : Nt} {r k : Nat} (h : ¬ (0 ≤ lxN inL N (k : Int) ∧ ¬ lxN inL N (k : Int) = (r : Int))) : arcY N r (k + 1) = arcY N r k := by
  unfold arcY; rw [List.range_succ, List.filter_append, List.map_append]
  by_cases h1 : 0 ≤ lxN inL N (k : Int)
  · have h2 : lxN inL N (k : Int) = (r : Int) := Decidable.byContradiction fun e => h ⟨h1, e⟩
    simp [h1, h2]
  · simp [h1]
theorem arcY_len (N : Nt) (r k : Nat) : (arcY N r k).length ≤ k := by
  unfold arcY; rw [List.length_map]; exact Nat.le_trans (List.length_filter_le _ _) (by rw [List.length_range]; exact Nat.le_refl _)
theorem arcY_is {N : Nt} (hv : valN N = true) {r : Nat} (hr : r < N.l.length) (h : tmB N r = true) : arcY N r N.w.length = arcX N r := by
  unfold arcX arcsU arcY
  rw [List.filter_map, List.filter_filter]
  congr 1
  refine List.filter_congr fun x hx => ?_
  have hx := List.mem_range.1 hx
  have hw : inW N.w.length (x : Int) = true := decide_eq_true (by omega)
  have h1 := (fr_lt hv hw).1
  have h2 := lxN_q inL N (x : Int)
  show (decide (0 ≤ lxN inL N (x : Int)) && !decide (lxN inL N (x : Int) = (r : Int))) = ((!decide (lxN outL N (x : Int) = (r : Int)) && !decide (lxN inL N (x : Int) = (r : Int))) && decide (¬ lxN inL N (x : Int) = -1))
  by_cases e1 : lxN inL N (x : Int) = -1
  · simp [e1]
  · have e2 : ¬ lxN outL N (x : Int) = (r : Int) := fun e => e1 (by
      have hm := fr_mem hv hw
      rw [show frN N (x : Int) = r by omega] at hm
      exact tm_at hv hr h hm)
    have e3 : 0 ≤ lxN inL N (x : Int) := by omega
    simp [e1, e2, e3]
theorem runR_pos {n : Nat} {ar : List Ac} (hin : ArcsIn n ar) : ∀ k, k ≤ ar.length → ∀ i, i < n → 0 ≤ (runR n ar k).1.getD i 0
  | 0, _, i, hi => by rw [runR_zero]; show 0 ≤ (parts0 n).getD i 0; rw [parts0_at hi]; omega
  | k + 1, hk, i, hi => by
    have ih := runR_pos hin k (by omega)
    have ha := hin _ (getL_mem (d := Ac.nil) (show k < ar.length by omega))
    have h1 := ih _ (inW_yes ha.1).2.1
    have h2 := ih _ (inW_yes ha.2).2.1
    have h3 := ih i hi
    rw [runR_succ (by omega)]; unfold stepR; dsimp only
    rw [renP_at (by rw [runR_len _ _ _ (by omega)]; exact hi)]
    split <;> omega
/-- The program's parts: each link but one by itself, then the ends of each arc united. -/
def q0X (n r : Nat) : Nat → Int := fun k => if k < n ∧ ¬ k = r then (k : Int) else -1
def qX (n r : Nat) (ar : List Ac) (j : Nat) : Nat → Int := (ar.take j).foldl (fun Q a => uniQ Q a.f.toNat a.t.toNat) (q0X n r)
theorem qX_zero (n r : Nat) (ar : List Ac) : qX n r ar 0 = q0X n r := rfl
theorem qX_succ {n r : Nat} {ar : List Ac} {j : Nat} (h : j < ar.length) : qX n r ar (j + 1) = uniQ (qX n r ar j) (ar.getD j Ac.nil).f.toNat (ar.getD j Ac.nil).t.toNat := by
  unfold qX; rw [takeL_succ (d := Ac.nil) h, List.foldl_append]; rfl
theorem q0X_zero (r : Nat) : q0X 0 r = fun _ => -1 := by funext k; unfold q0X; rw [if_neg (by omega)]
theorem q0X_skip (r : Nat) : q0X (r + 1) r = q0X r r := by
  funext k; unfold q0X
  by_cases e : k < r
  · rw [if_pos (by omega), if_pos (by omega)]
  · rw [if_neg (by omega), if_neg (by omega)]
theorem q0X_add {n r : Nat} (h : ¬ n = r) : q0X (n + 1) r = updQ (q0X n r) n := by
  funext k; unfold updQ q0X
  by_cases e : k = n
  · subst e; rw [if_pos (by omega), if_pos rfl]
  · rw [if_neg e]
    by_cases e2 : k < n ∧ ¬ k = r
    · rw [if_pos (by omega), if_pos e2]
    · rw [if_neg (by omega), if_neg e2]
theorem q0X_out {n r : Nat} : q0X n r n = -1 := by unfold q0X; rw [if_neg (by omega)]
theorem qX_is {n r : Nat} {ar : List Ac} (hin : ∀ a ∈ ar, inW n a.f = true ∧ inW n a.t = true ∧ ¬ a.f = (r : Int) ∧ ¬ a.t = (r : Int)) : ∀ j, j ≤ ar.length → ∀ k, qX n r ar j k = if k < n ∧ ¬ k = r then (runR n ar j).1.getD k 0 else -1
  | 0, _, k => by
    rw [qX_zero, runR_zero]; unfold q0X
    by_cases e : k < n ∧ ¬ k = r
    · rw [if_pos e, if_pos e]; show _ = (parts0 n).getD k 0; rw [parts0_at e.1]
    · rw [if_neg e, if_neg e]
  | j + 1, hj, k => by
    have hA : ArcsIn n ar := fun a ha => ⟨(hin a ha).1, (hin a ha).2.1⟩
    obtain ⟨h1, h2, h3, h4⟩ := hin _ (getL_mem (d := Ac.nil) (show j < ar.length by omega))
    obtain ⟨_, f1, f2⟩ := inW_yes h1
    obtain ⟨_, t1, t2⟩ := inW_yes h2
    have ih := qX_is hin j (by omega)
    have pf := runR_pos hA j (by omega) _ f1
    have pt := runR_pos hA j (by omega) _ t1
    have ef := ih (ar.getD j Ac.nil).f.toNat
    have et := ih (ar.getD j Ac.nil).t.toNat
    rw [if_pos ⟨f1, by omega⟩] at ef
    rw [if_pos ⟨t1, by omega⟩] at et
    rw [qX_succ (by omega), runR_succ (by omega)]
    unfold stepR; dsimp only
    unfold uniQ
    rw [ef, et, ih k]
    by_cases e : k < n ∧ ¬ k = r
    · rw [if_pos e, if_pos e, renP_at (by rw [runR_len _ _ _ (by omega)]; exact e.1)]
    · rw [if_neg e, if_neg e, if_neg (by omega)]
theorem arcX_in {N : Nt} (hv : valN N = true) (r : Nat) : ∀ a ∈ arcX N r, inW N.l.length a.f = true ∧ inW N.l.length a.t = true ∧ ¬ a.f = (r : Int) ∧ ¬ a.t = (r : Int) := fun a ha => by
  unfold arcX at ha
  rw [List.mem_filter] at ha
  have h := arc_in hv ha.1
  have h2 := ha.2
  simp only [Bool.and_eq_true, Bool.not_eq_true', decide_eq_false_iff_not] at h2
  exact ⟨h.1, h.2.1, h2.1, h2.2⟩
theorem gpX_is {N : Nt} (hv : valN N = true) (r : Nat) : gpX N r = qX N.l.length r (arcX N r) (arcX N r).length := by
  funext k
  rw [qX_is (arcX_in hv r) _ (Nat.le_refl _)]; rfl
/-- All arcs, one after the other: those at the link are left out. -/
def qA (N : Nt) (r j : Nat) : Nat → Int := ((arcsU N N.w.length).take j).foldl (fun Q a => if a.f = (r : Int) ∨ a.t = (r : Int) then Q else uniQ Q a.f.toNat a.t.toNat) (q0X N.l.length r)
theorem qA_zero (N : Nt) (r : Nat) : qA N r 0 = q0X N.l.length r := rfl
theorem qA_succ {N : Nt} {r j : Nat} (h : j < (arcsU N N.w.length).length) : qA N r (j + 1) = if ((arcsU N N.w.length).getD j Ac.nil).f = (r : Int) ∨ ((arcsU N N.w.length).getD j Ac.nil).t = (r : Int) then qA N r j else uniQ (qA N r j) ((arcsU N N.w.length).getD j Ac.nil).f.toNat ((arcsU N N.w.length).getD j Ac.nil).t.toNat := by
  unfold qA; rw [takeL_succ (d := Ac.nil) h, List.foldl_append]; rfl
theorem qA_end {N : Nt} (hv : valN N = true) (r : Nat) : qA N r (arcsU N N.w.length).length = gpX N r := by
  rw [gpX_is hv]
  unfold qA qX arcX
  rw [List.take_length, List.take_length]
  generalize arcsU N N.w.length = A
  generalize q0X N.l.length r = Q
  induction A generalizing Q with
  | nil => rfl
  | cons a A ih =>
    rw [List.foldl_cons, List.filter_cons]
    by_cases e : a.f = (r : Int) ∨ a.t = (r : Int)
    · rw [if_pos e, if_neg (by rcases e with e | e <;> simp [e])]
      exact ih Q
    · rw [if_neg e, if_pos (by simp only [not_or] at e; simp [e.1, e.2]), List.foldl_cons]
      exact ih _
/-- While arcs are laid, exactly the links but one have a part. -/
theorem qA_ge {N : Nt} (hv : valN N = true) {r : Nat} : ∀ j, j ≤ (arcsU N N.w.length).length → ∀ k, (qA N r j k ≠ -1 ↔ (k < N.l.length ∧ ¬ k = r)) ∧ -1 ≤ qA N r j k
  | 0, _, k => by
    rw [qA_zero]; unfold q0X
    by_cases e : k < N.l.length ∧ ¬ k = r
    · rw [if_pos e]; exact ⟨⟨fun _ => e, fun _ => by omega⟩, by omega⟩
    · rw [if_neg e]; exact ⟨⟨fun h => absurd rfl h, fun h => absurd h e⟩, by omega⟩
  | j + 1, hj, k => by
    have ih := qA_ge hv (r := r) j (by omega)
    rw [qA_succ (by omega)]
    have hm := arc_in hv (getL_mem (d := Ac.nil) (show j < (arcsU N N.w.length).length by omega))
    by_cases e : ((arcsU N N.w.length).getD j Ac.nil).f = (r : Int) ∨ ((arcsU N N.w.length).getD j Ac.nil).t = (r : Int)
    · rw [if_pos e]; exact ih k
    · rw [if_neg e]
      simp only [not_or] at e
      obtain ⟨_, f1, f2⟩ := inW_yes hm.1
      obtain ⟨_, t1, t2⟩ := inW_yes hm.2.1
      have a1 := (ih ((arcsU N N.w.length).getD j Ac.nil).f.toNat)
      have a2 := (ih ((arcsU N N.w.length).getD j Ac.nil).t.toNat)
      have b1 := a1.1.2 ⟨f1, by omega⟩
      have b2 := a2.1.2 ⟨t1, by omega⟩
      have a3 := ih k
      unfold uniQ
      split
      · next q => 
        refine ⟨⟨fun _ => a3.1.1 (by omega), fun _ => by omega⟩, by omega⟩
      · exact a3
end Go.Proofs.YtgpocnapkflihaaGreatDoor
