/- Mathematics of chapter 14: terminal links; the parts that are left when a link is removed; nets of some links. Mathematics of chapter 14: splitting links, nets of some links, the last link, sequentialisable nets. Mathematics of chapter 15: sets of links as the bits of a number; closed sets, borders, subnets. Answers of chapter 8 are small. The program's checkedNet and AxiomNet. -/
import Derived.Test.YtfdpkhiiboghiaaGreatDoorKPaM
import Derived.Test.YtfdpkhiiboghiaaGreatDoorKQPgG
import Derived.Test.YtfdpkhiiboghiaaGreatDoorKQSeqV
import Derived.Test.YtfdpkhiiboghiaaGreatDoorKQNetF
import Derived.Lib.TrailingZeros
import Derived.Test.YtfdpkhiiboghiaaGreatDoorKQNetZ
namespace Go.Proofs.YtfdpkhiiboghiaaGreatDoor
set_option linter.unusedSimpArgs false
set_option linter.unusedVariables false
section
set_option linter.unusedSimpArgs false
set_option linter.unusedVariables false
open Go.ChangeAt Go.ChangeShapes Go.RowKit Go.WideShapes

/-- The numbers below k of which p says yes. -/
def selU (p : Nat → Bool) (k : Nat) : List Int := ((List.range k).filter p).map fun x : Nat => (x : Int)
theorem selU_yes {p : Nat → Bool} {k : Nat} (h : p k = true) : selU p (k + 1) = selU p k ++ [(k : Int)] := by
  unfold selU; rw [List.range_succ, List.filter_append, List.map_append]; simp [h]
theorem selU_no {p : Nat → Bool} {k : Nat} (h : p k = false) : selU p (k + 1) = selU p k := by
  unfold selU; rw [List.range_succ, List.filter_append, List.map_append]; simp [h]
theorem selU_len (p : Nat → Bool) (k : Nat) : (selU p k).length ≤ k := by
  unfold selU; rw [List.length_map]; exact Nat.le_trans (List.length_filter_le _ _) (by rw [List.length_range]; exact Nat.le_refl _)
theorem selU_mem {p : Nat → Bool} {k : Nat} {x : Int} : x ∈ selU p k ↔ ∃ j : Nat, j < k ∧ p j = true ∧ x = (j : Int) := by
  unfold selU; rw [List.mem_map]
  constructor
  · rintro ⟨j, hj, rfl⟩; rw [List.mem_filter, List.mem_range] at hj; exact ⟨j, hj.1, hj.2, rfl⟩
  · rintro ⟨j, h1, h2, rfl⟩; exact ⟨j, by rw [List.mem_filter, List.mem_range]; exact ⟨h1, h2⟩, rfl⟩
theorem selU_lt (p : Nat → Bool) (k : Nat) : (selU p k).Pairwise (· < ·) := by
  unfold selU
  rw [List.pairwise_map]
  exact (List.Pairwise.filter p List.pairwise_lt_range).imp fun h => by omega
theorem selU_ext {p q : Nat → Bool} {k : Nat} (h : ∀ j, j < k → p j = q j) : selU p k = selU q k := by
  unfold selU
  rw [List.filter_congr fun x hx => h x (List.mem_range.1 hx)]
theorem selU_cut {p : Nat → Bool} {n x : Nat} (hx : x < n) (h : p x = true) : ∃ R, selU p n = selU p x ++ (x : Int) :: R := by
  induction n with
  | zero => omega
  | succ n ih =>
    by_cases e : x = n
    · subst e; exact ⟨[], by rw [selU_yes h]⟩
    · obtain ⟨R, hR⟩ := ih (by omega)
      cases hp : p n with
      | true => exact ⟨R ++ [(n : Int)], by rw [selU_yes hp, hR]; simp⟩
      | false => exact ⟨R, by rw [selU_no hp, hR]⟩
theorem selU_idx {p : Nat → Bool} {n x : Nat} (hx : x < n) (h : p x = true) : (selU p n).idxOf (x : Int) = (selU p x).length := by
  obtain ⟨R, hR⟩ := selU_cut hx h
  rw [hR, List.idxOf_append, if_neg]
  · simp
  · intro hm
    obtain ⟨j, hj, _, e⟩ := selU_mem.1 hm
    omega
/-- Strictly increasing lists of the same numbers are the same. -/
theorem strict_ext : ∀ {X Y : List Int}, X.Pairwise (· < ·) → Y.Pairwise (· < ·) → (∀ x, x ∈ X ↔ x ∈ Y) → X = Y
  | [], [], _, _, _ => rfl
  | [], y :: Y, _, _, h => absurd ((h y).2 (by simp)) (by simp)
  | x :: X, [], _, _, h => absurd ((h x).1 (by simp)) (by simp)
  | x :: X, y :: Y, hX, hY, h => by
    rw [List.pairwise_cons] at hX hY
    have e : x = y := by
      rcases List.mem_cons.1 ((h x).1 (by simp)) with e | e
      · exact e
      · rcases List.mem_cons.1 ((h y).2 (by simp)) with e2 | e2
        · exact e2.symm
        · have := hX.1 y e2; have := hY.1 x e; omega
    subst e
    rw [strict_ext hX.2 hY.2 fun z => ?_]
    have hz := h z
    rw [List.mem_cons, List.mem_cons] at hz
    constructor
    · intro hm
      have := hX.1 z hm
      exact (hz.1 (.inr hm)).resolve_left (by omega)
    · intro hm
      have := hY.1 z hm
      exact (hz.2 (.inr hm)).resolve_left (by omega)
theorem strict_nodup {X : List Int} (h : X.Pairwise (· < ·)) : X.Nodup := h.imp fun h e => by omega
theorem srt_strict {X Y : List Int} (hn : X.Nodup) (hY : Y.Pairwise (· < ·)) (h : ∀ x, x ∈ X ↔ x ∈ Y) : srtI X = Y := by
  have hp := srtI_perm X
  have hs : (srtI X).Pairwise (· < ·) := ((srtI_le X).and (hp.nodup_iff.2 hn)).imp fun {a b} q => by
    have q1 := q.1
    have q2 : a ≠ b := q.2
    omega
  exact strict_ext hs hY fun x => by rw [hp.mem_iff]; exact h x
-- conclusions
theorem conc_two : ∀ {cs : List Int}, (∀ x ∈ cs, 0 ≤ x) → (∀ k, concN cs k ≤ 1) → cs.Nodup
  | [], _, _ => List.nodup_nil
  | c :: cs, h0, h1 => by
    have e : ∀ k, concN (c :: cs) k = one (c.toNat = k) + concN cs k := fun k => by simp [concN]
    refine List.nodup_cons.2 ⟨fun hm => ?_, conc_two (fun x hx => h0 x (List.mem_cons_of_mem _ hx)) fun k => ?_⟩
    · have := h1 c.toNat
      rw [e] at this
      have h2 := conc_mem hm
      unfold one at this
      rw [if_pos rfl] at this
      omega
    · have := h1 k
      rw [e] at this
      have := one_le (c.toNat = k)
      omega
theorem conc_some : ∀ {cs : List Int} {k : Nat}, (∀ x ∈ cs, 0 ≤ x) → 1 ≤ concN cs k → (k : Int) ∈ cs
  | [], k, _, h => by simp [concN] at h
  | c :: cs, k, h0, h => by
    have e : concN (c :: cs) k = one (c.toNat = k) + concN cs k := by simp [concN]
    rw [e] at h
    by_cases hc : c.toNat = k
    · have := h0 c (by simp)
      rw [show (k : Int) = c by omega]; simp
    · unfold one at h
      rw [if_neg hc] at h
      exact List.mem_cons_of_mem _ (conc_some (fun x hx => h0 x (List.mem_cons_of_mem _ hx)) (by omega))
theorem conc_wires {N : Nt} (hv : valN N = true) {x : Int} (hx : x ∈ N.c) : inW N.w.length x = true := by
  have : N.c.all (inW N.w.length) = true := by simp only [valN, Bool.and_eq_true] at hv; exact hv.2.2.2.1
  exact List.all_eq_true.1 this x hx
/-- A wire is a conclusion exactly if no link has it as an input. -/
theorem concl_iff {N : Nt} (hv : valN N = true) {k : Nat} (hk : k < N.w.length) : (k : Int) ∈ N.c ↔ lxN inL N (k : Int) = -1 := by
  have h := (valN_at hv hk).2
  have hus : usedN N.l k = (N.l.map fun l => concN (inL l) k).sum := by unfold usedN; congr 1; exact List.map_congr_left fun l _ => us1_is l k
  constructor
  · intro hm
    have h1 := conc_mem hm
    rw [Int.toNat_natCast] at h1
    rcases lxN_cases inL N (k : Int) with ⟨j, hj, hmj, ej⟩ | ⟨_, ej⟩
    · exfalso
      have h2 := conc_mem hmj
      rw [Int.toNat_natCast] at h2
      have h3 := sum_ge_one (f := fun l => concN (inL l) k) (fun l => (concN_le _ _).1) N.l j hj
      omega
    · exact ej
  · intro e
    have h0 : usedN N.l k = 0 := by
      rw [hus]
      rcases lxN_cases inL N (k : Int) with ⟨j, hj, hmj, ej⟩ | ⟨hno, _⟩
      · omega
      · have : ∀ l ∈ N.l, concN (inL l) k = 0 := fun l hl => by
          obtain ⟨j, hj, ej⟩ := List.getElem_of_mem hl
          have hn := hno j hj
          rw [show N.l.getD j Lk.nil = l by simp [List.getD, hj, ej]] at hn
          have hin := fitsN_yes ((List.all_eq_true.1 (valN_fits hv)) l hl)
          refine Decidable.byContradiction fun e2 => hn ?_
          have h1 := (concN_le (inL l) k).1
          exact conc_some (fun y hy => (inW_yes ((List.all_eq_true.1 (inL_in (Nat.le_refl _) hin.1 hin.2.1)) y hy)).1) (by omega)
        rw [List.map_congr_left this]
        generalize N.l = L
        induction L with
        | nil => rfl
        | cons c cs ih => (rw [List.map_cons, List.sum_cons, ih]; rfl)
    exact conc_some (fun x hx => (inW_yes (conc_wires hv hx)).1) (by omega)
theorem out_in {N : Nt} (hv : valN N = true) {k : Nat} (hk : k < N.l.length) {x : Int} (hx : x ∈ outL (N.l.getD k Lk.nil)) : inW N.w.length x = true := by
  obtain ⟨h1, h2, h3, _⟩ := fitsN_yes (link_fits hv hk)
  exact List.all_eq_true.1 (outL_in (Nat.le_refl _) h1 h2 h3) x hx
theorem in_in {N : Nt} (hv : valN N = true) {k : Nat} (hk : k < N.l.length) {x : Int} (hx : x ∈ inL (N.l.getD k Lk.nil)) : inW N.w.length x = true := by
  obtain ⟨h1, h2, h3, _⟩ := fitsN_yes (link_fits hv hk)
  exact List.all_eq_true.1 (inL_in (Nat.le_refl _) h1 h2) x hx
/-- The producer of a wire. -/
theorem fr_mem {N : Nt} (hv : valN N = true) {x : Int} (hx : inW N.w.length x = true) : x ∈ outL (N.l.getD (frN N x) Lk.nil) := by
  have h := (fr_lt hv hx).1
  rcases lxN_cases outL N x with ⟨j, _, hm, e⟩ | ⟨_, e⟩
  · rw [h] at e
    rw [show frN N x = j by omega]; exact hm
  · omega
theorem fr_out {N : Nt} (hv : valN N = true) {k : Nat} (hk : k < N.l.length) {x : Int} (hx : x ∈ outL (N.l.getD k Lk.nil)) : frN N x = k := by
  obtain ⟨_, h1, e⟩ := inW_yes (out_in hv hk hx)
  rw [e] at hx
  have := lxN_yes (oneP_out hv) h1 hk hx
  unfold frN; rw [e, this]; omega
theorem lxN_q (p : Lk → List Int) (N : Nt) (x : Int) : -1 ≤ lxN p N x ∧ lxN p N x < N.l.length := by
  rcases lxN_cases p N x with ⟨j, hj, _, e⟩ | ⟨_, e⟩ <;> rw [e] <;> omega
end
section
set_option linter.unusedSimpArgs false
set_option linter.unusedVariables false
open Go.ChangeAt Go.ChangeShapes Go.RowKit Go.WideShapes

theorem join_in {N : Nt} {r : Nat} (h : (N.l.getD r Lk.nil).k = 2 ∨ (N.l.getD r Lk.nil).k = 3) : (N.l.getD r Lk.nil).a ∈ inL (N.l.getD r Lk.nil) ∧ (N.l.getD r Lk.nil).b ∈ inL (N.l.getD r Lk.nil) := by
  unfold inL; rw [if_neg (by omega)]; simp
def kpW (N : Nt) (K : Nat → Bool) (k : Nat) : List Int := selU (fun x => K (frN N (x : Int))) k
def nmW (N : Nt) (K : Nat → Bool) (x : Int) : Int := ((kpW N K x.toNat).length : Int)
def rnL (N : Nt) (K : Nat → Bool) (l : Lk) : Lk := ⟨l.k, nmW N K l.a, nmW N K l.b, if l.k = 3 ∨ l.k = 4 then nmW N K l.c else 0⟩
def cutW (N : Nt) (K : Nat → Bool) (k : Nat) : List (List Int) := (kpW N K k).map fun x => N.w.getD x.toNat []
def cutL (N : Nt) (K : Nat → Bool) (k : Nat) : List Lk := (selU K k).map fun j => rnL N K (N.l.getD j.toNat Lk.nil)
def cutN (N : Nt) (K : Nat → Bool) (cs : List Int) : Nt := ⟨cutW N K N.w.length, cutL N K N.l.length, cs.map (nmW N K)⟩
theorem kpW_len (N : Nt) (K : Nat → Bool) (k : Nat) : (kpW N K k).length ≤ k := selU_len _ _
theorem cutW_len (N : Nt) (K : Nat → Bool) (k : Nat) : (cutW N K k).length = (kpW N K k).length := List.length_map ..
theorem cutL_len (N : Nt) (K : Nat → Bool) (k : Nat) : (cutL N K k).length ≤ k := by unfold cutL; rw [List.length_map]; exact selU_len _ _
theorem cutW_yes {N : Nt} {K : Nat → Bool} {k : Nat} (h : K (frN N (k : Int)) = true) : cutW N K (k + 1) = cutW N K k ++ [N.w.getD k []] := by
  unfold cutW kpW; rw [selU_yes (p := fun x => K (frN N (x : Int))) h, List.map_append]; rfl
theorem cutW_no {N : Nt} {K : Nat → Bool} {k : Nat} (h : K (frN N (k : Int)) = false) : cutW N K (k + 1) = cutW N K k := by
  unfold cutW kpW; rw [selU_no (p := fun x => K (frN N (x : Int))) h]
theorem cutL_yes {N : Nt} {K : Nat → Bool} {k : Nat} (h : K k = true) : cutL N K (k + 1) = cutL N K k ++ [rnL N K (N.l.getD k Lk.nil)] := by
  unfold cutL; rw [selU_yes h, List.map_append]; rfl
theorem cutL_no {N : Nt} {K : Nat → Bool} {k : Nat} (h : K k = false) : cutL N K (k + 1) = cutL N K k := by
  unfold cutL; rw [selU_no h]
theorem cut_small {N : Nt} (hv : valN N = true) (K : Nat → Bool) {cs : List Int} (hc : cs.length ≤ 1048576) : SmallN (cutN N K cs) := by
  obtain ⟨h1, h2⟩ := valN_size hv
  have hw : (cutW N K N.w.length).length ≤ 48 := by rw [cutW_len]; have := kpW_len N K N.w.length; omega
  refine ⟨Nat.le_trans hw (by decide), ?_, ?_, by show (cs.map _).length ≤ _; rw [List.length_map]; exact hc⟩
  · refine Nat.le_trans (total_valid ?_) (Nat.le_trans (Nat.mul_le_mul_left 24 hw) (by decide))
    rw [List.all_eq_true]
    intro q hq
    obtain ⟨x, hx, rfl⟩ := List.mem_map.1 hq
    obtain ⟨j, hj, _, rfl⟩ := selU_mem.1 hx
    rw [Int.toNat_natCast]
    exact formN_valid (all_at (valN_forms hv) hj)
  · have := cutL_len N K N.l.length
    show (cutL N K N.l.length).length ≤ _
    omega
theorem kpW_mem {N : Nt} {K : Nat → Bool} {x : Int} : x ∈ kpW N K N.w.length ↔ inW N.w.length x = true ∧ K (frN N x) = true := by
  unfold kpW; rw [selU_mem]
  constructor
  · rintro ⟨j, h1, h2, rfl⟩; exact ⟨decide_eq_true (by omega), h2⟩
  · rintro ⟨h1, h2⟩
    obtain ⟨_, h3, e⟩ := inW_yes h1
    exact ⟨x.toNat, h3, by rw [← e]; exact h2, e⟩
theorem kpW_idx {N : Nt} {K : Nat → Bool} {x : Int} (hx : inW N.w.length x = true) (h : K (frN N x) = true) : (((kpW N K N.w.length).idxOf x : Nat) : Int) = nmW N K x := by
  obtain ⟨_, h3, e⟩ := inW_yes hx
  rw [e] at h
  have := selU_idx (p := fun x => K (frN N (x : Int))) h3 h
  rw [← e] at this
  unfold kpW nmW
  rw [this]; rfl
/-- The position of a number in a row. -/
def posI (L : List Int) (x : Int) : Int := if x ∈ L then (L.idxOf x : Int) else -1
theorem posI_kp {N : Nt} {K : Nat → Bool} {x : Int} (hx : inW N.w.length x = true) (h : K (frN N x) = true) : posI (kpW N K N.w.length) x = nmW N K x := by
  unfold posI; rw [if_pos (kpW_mem.2 ⟨hx, h⟩)]; exact kpW_idx hx h
/-- Some links among which are the producers of their inputs. -/
def ClK (N : Nt) (K : Nat → Bool) : Prop := ∀ k, k < N.l.length → K k = true → ∀ x ∈ inL (N.l.getD k Lk.nil), K (frN N x) = true
theorem ren_is {N : Nt} (hv : valN N = true) {K : Nat → Bool} (hK : ClK N K) {k : Nat} (hk : k < N.l.length) (h : K k = true) :
    lnk (N.l.getD k Lk.nil).k (posI (kpW N K N.w.length) (N.l.getD k Lk.nil).a) (posI (kpW N K N.w.length) (N.l.getD k Lk.nil).b) (posI (kpW N K N.w.length) (N.l.getD k Lk.nil).c) = rnL N K (N.l.getD k Lk.nil) := by
  obtain ⟨h1, h2, h3, _⟩ := fitsN_yes (link_fits hv hk)
  have hkind := fitsN_kind (link_fits hv hk)
  have hO : ∀ x ∈ outL (N.l.getD k Lk.nil), K (frN N x) = true := fun x hx => by rw [fr_out hv hk hx]; exact h
  have hI := hK k hk h
  unfold outL at hO
  unfold inL at hI
  unfold lnk rnL
  by_cases e1 : (N.l.getD k Lk.nil).k = 1
  · rw [if_pos e1] at hO
    rw [posI_kp h1 (hO _ (by simp)), posI_kp h2 (hO _ (by simp)), if_neg (by omega), if_neg (by omega)]
  · rw [if_neg e1] at hO hI
    rw [posI_kp h1 (hI _ (by simp)), posI_kp h2 (hI _ (by simp))]
    by_cases e2 : (N.l.getD k Lk.nil).k = 2
    · rw [if_neg (by omega), if_neg (by omega)]
    · rw [if_neg e2] at hO
      rw [posI_kp h3 (hO _ (by simp))]
theorem outL_nodup {N : Nt} (hv : valN N = true) {k : Nat} (hk : k < N.l.length) : (outL (N.l.getD k Lk.nil)).Nodup := by
  refine conc_two (fun x hx => (inW_yes (out_in hv hk hx)).1) fun x => ?_
  by_cases hx : x < N.w.length
  · have h := (valN_at hv hx).1
    have e : (N.l.map fun l => concN (outL l) x).sum = madeN N.l x := by unfold madeN; congr 1; exact List.map_congr_left fun l _ => (mk1_is l x).symm
    have := sum_ge_one (f := fun l => concN (outL l) x) (fun l => (concN_le _ _).1) N.l k hk
    omega
  · refine Decidable.byContradiction fun e => ?_
    have := conc_some (fun x hx => (inW_yes (out_in hv hk hx)).1) (show 1 ≤ concN (outL (N.l.getD k Lk.nil)) x by omega)
    have := (inW_yes (out_in hv hk this)).2.1
    simp at this; omega
/-- The outputs of the first links of a list. -/
def outU (N : Nt) (ks : List Int) (j : Nat) : List Int := ((ks.take j).map fun k => outL (N.l.getD k.toNat Lk.nil)).flatten
theorem outU_succ {N : Nt} {ks : List Int} {j : Nat} (h : j < ks.length) : outU N ks (j + 1) = outU N ks j ++ outL (N.l.getD (ks.getD j 0).toNat Lk.nil) := by
  unfold outU; rw [takeL_succ (d := (0 : Int)) h, List.map_append, List.flatten_append]; simp
theorem outU_len (N : Nt) (ks : List Int) (j : Nat) : (outU N ks j).length ≤ 2 * j := by
  unfold outU
  have : ∀ L : List Int, ((L.map fun k => outL (N.l.getD k.toNat Lk.nil)).flatten).length ≤ 2 * L.length := fun L => by
    induction L with
    | nil => simp
    | cons x L ih => rw [List.map_cons, List.flatten_cons, List.length_append, List.length_cons]; have := outL_len (N.l.getD x.toNat Lk.nil); omega
  refine Nat.le_trans (this _) ?_
  rw [List.length_take]; omega
theorem out_nodup {N : Nt} (hv : valN N = true) : ∀ {ks : List Int}, ks.Pairwise (· < ·) → (∀ k ∈ ks, inW N.l.length k = true) → ((ks.map fun k => outL (N.l.getD k.toNat Lk.nil)).flatten).Nodup
  | [], _, _ => List.nodup_nil
  | k :: ks, hp, hi => by
    rw [List.pairwise_cons] at hp
    rw [List.map_cons, List.flatten_cons, List.nodup_append]
    have hk := inW_yes (hi k (by simp))
    refine ⟨outL_nodup hv hk.2.1, out_nodup hv hp.2 fun x hx => hi x (by simp [hx]), fun a ha b hb e => ?_⟩
    subst e
    obtain ⟨X, hX, hm⟩ := List.mem_flatten.1 hb
    obtain ⟨j, hj, rfl⟩ := List.mem_map.1 hX
    have hjj := inW_yes (hi j (by simp [hj]))
    have := fr_out hv hk.2.1 ha
    have := fr_out hv hjj.2.1 hm
    have := hp.1 j hj
    omega
theorem out_sort {N : Nt} (hv : valN N = true) (K : Nat → Bool) : srtI (outU N (selU K N.l.length) (selU K N.l.length).length) = kpW N K N.w.length := by
  unfold outU
  rw [List.take_length]
  have hin : ∀ k ∈ selU K N.l.length, inW N.l.length k = true := fun k hk => by
    obtain ⟨j, h1, _, rfl⟩ := selU_mem.1 hk
    exact decide_eq_true (by omega)
  refine srt_strict (out_nodup hv (selU_lt _ _) hin) (selU_lt _ _) fun x => ?_
  rw [kpW_mem, List.mem_flatten]
  constructor
  · rintro ⟨X, hX, hm⟩
    obtain ⟨k, hk, rfl⟩ := List.mem_map.1 hX
    obtain ⟨j, h1, h2, rfl⟩ := selU_mem.1 hk
    rw [Int.toNat_natCast] at hm
    exact ⟨out_in hv h1 hm, by rw [fr_out hv h1 hm]; exact h2⟩
  · rintro ⟨h1, h2⟩
    exact ⟨_, List.mem_map.2 ⟨(frN N x : Int), selU_mem.2 ⟨frN N x, (fr_lt hv h1).2, h2, rfl⟩, rfl⟩, by rw [Int.toNat_natCast]; exact fr_mem hv h1⟩
end
section
set_option linter.unusedSimpArgs false
set_option linter.unusedVariables false
open Go.ChangeAt Go.ChangeShapes Go.RowKit Go.WideShapes

/-- The set of one link, as a number. -/
def shB (x : Int) : Nat := if 0 ≤ x ∧ x < 64 then 2 ^ x.toNat else 0
theorem shB_bit (x : Int) (k : Nat) : (shB x).testBit k = decide (x = (k : Int) ∧ k < 64) := by
  unfold shB
  by_cases h : 0 ≤ x ∧ x < 64
  · rw [if_pos h, Nat.testBit_two_pow, decide_eq_decide]; omega
  · rw [if_neg h, Nat.zero_testBit]; symm; rw [decide_eq_false_iff_not]; omega
theorem shB_lt (x : Int) : shB x < 2 ^ 64 := by
  unfold shB; split
  · exact Nat.pow_lt_pow_right (by decide) (by omega)
  · decide
/-- The set of some links. -/
def orS (ks : List Int) : Nat := ks.foldl (fun s x => s ||| shB x) 0
def orU (ks : List Int) (j : Nat) : Nat := orS (ks.take j)
theorem orU_succ {ks : List Int} {j : Nat} (h : j < ks.length) : orU ks (j + 1) = orU ks j ||| shB (ks.getD j 0) := by
  unfold orU orS; rw [takeL_succ (d := (0 : Int)) h, List.foldl_append]; rfl
theorem orU_end (ks : List Int) : orU ks ks.length = orS ks := by unfold orU; rw [List.take_length]
theorem orS_from : ∀ (ks : List Int) (s k : Nat), (ks.foldl (fun s x => s ||| shB x) s).testBit k = (s.testBit k || decide (k < 64 ∧ (k : Int) ∈ ks))
  | [], s, k => by simp
  | x :: ks, s, k => by
    rw [List.foldl_cons, orS_from ks, Nat.testBit_or, shB_bit, Bool.or_assoc]
    congr 1
    rw [Bool.eq_iff_iff, Bool.or_eq_true, decide_eq_true_eq, decide_eq_true_eq, decide_eq_true_eq, List.mem_cons]
    constructor
    · rintro (⟨rfl, h⟩ | ⟨h1, h2⟩)
      · exact ⟨h, .inl rfl⟩
      · exact ⟨h1, .inr h2⟩
    · rintro ⟨h1, rfl | h2⟩
      · exact .inl ⟨rfl, h1⟩
      · exact .inr ⟨h1, h2⟩
theorem orS_bit (ks : List Int) (k : Nat) : (orS ks).testBit k = decide (k < 64 ∧ (k : Int) ∈ ks) := by
  unfold orS; rw [orS_from, Nat.zero_testBit, Bool.false_or]
theorem orS_lt (ks : List Int) : orS ks < 2 ^ 64 := by
  have : ∀ (ks : List Int) (s : Nat), s < 2 ^ 64 → ks.foldl (fun s x => s ||| shB x) s < 2 ^ 64 := fun ks => by
    induction ks with
    | nil => intro s h; exact h
    | cons x ks ih => intro s h; exact ih _ (Nat.or_lt_two_pow h (shB_lt x))
  exact this ks 0 (by decide)
theorem orU_lt (ks : List Int) (j : Nat) : orU ks j < 2 ^ 64 := orS_lt _
/-- Is a link in a set? -/
def hasS (s : Nat) (x : Int) : Bool := decide (0 ≤ x ∧ x < 64) && s.testBit x.toNat
theorem hasS_nat {s k : Nat} (h : k < 64) : hasS s (k : Int) = s.testBit k := by
  unfold hasS; rw [decide_eq_true (by omega), Int.toNat_natCast]; rfl
theorem hasS_neg {s : Nat} {x : Int} (h : x < 0) : hasS s x = false := by
  unfold hasS; rw [decide_eq_false (by omega)]; rfl
theorem meets_is (s t : Nat) : (s &&& t = 0) ↔ ∀ k, ¬ (s.testBit k = true ∧ t.testBit k = true) := by
  constructor
  · intro h k hk
    have := Nat.testBit_and s t k
    rw [h, Nat.zero_testBit, hk.1, hk.2] at this; cases this
  · intro h
    refine Nat.eq_of_testBit_eq fun k => ?_
    rw [Nat.testBit_and, Nat.zero_testBit]
    have := h k
    cases h1 : s.testBit k <;> cases h2 : t.testBit k <;> simp_all
theorem has_and (s : Nat) (x : Int) : (!decide (s &&& shB x = 0)) = hasS s x := by
  rw [Bool.eq_iff_iff, Bool.not_eq_true', decide_eq_false_iff_not, meets_is]
  constructor
  · intro h
    refine Decidable.byContradiction fun e => h fun k hk => ?_
    rw [shB_bit, decide_eq_true_eq] at hk
    obtain ⟨h1, h2, h3⟩ := hk
    subst h2
    rw [hasS_nat h3] at e; exact e h1
  · intro h hh
    unfold hasS at h
    rw [Bool.and_eq_true, decide_eq_true_eq] at h
    refine hh x.toNat ⟨h.2, ?_⟩
    rw [shB_bit]; exact decide_eq_true (by omega)
-- the bits of a number, one after the other
/-- The lowest bit. -/
theorem ctz_at {x : Nat} (h0 : x ≠ 0) (hx : x < 2 ^ 64) : Lib.ctz 64 x < 64 ∧ x.testBit (Lib.ctz 64 x) = true ∧ (∀ k, k < Lib.ctz 64 x → x.testBit k = false) ∧ ∀ k, (x &&& (x - 1)).testBit k = (x.testBit k && !decide (k = Lib.ctz 64 x)) := by
  unfold Lib.ctz
  rw [if_neg h0]
  obtain ⟨m, hm, ht⟩ := Lib.ctzFrom_spec 64 x (by omega) hx
  generalize Lib.ctzFrom 64 x = t at *
  have hp : 0 < 2 ^ t := Nat.pow_pos (by decide)
  have b1 : ∀ k, x.testBit k = (decide (t ≤ k) && (2 * m + 1).testBit (k - t)) := fun k => by
    rw [hm, Nat.mul_comm, Nat.testBit_mul_two_pow]
  have e1 : x - 1 = 2 ^ t * (2 * m) + (2 ^ t - 1) := by
    rw [hm, Nat.mul_add]; omega
  have b2 : ∀ k, t ≤ k → (x - 1).testBit k = (2 * m).testBit (k - t) := fun k hk => by
    rw [e1, Nat.testBit_two_pow_mul_add _ (by omega), if_neg (by omega)]
  refine ⟨ht, ?_, fun k hk => ?_, fun k => ?_⟩
  · rw [b1, Nat.sub_self]; simp
  · rw [b1, decide_eq_false (by omega)]; rfl
  · rw [Nat.testBit_and, b1]
    by_cases h1 : t ≤ k
    · rw [b2 k h1]
      by_cases h2 : k = t
      · subst h2; rw [Nat.sub_self]; simp
      · obtain ⟨j, rfl⟩ : ∃ j, k = t + (j + 1) := ⟨k - t - 1, by omega⟩
        rw [show t + (j + 1) - t = j + 1 by omega, Nat.testBit_succ, Nat.testBit_succ, show (2 * m + 1) / 2 = m by omega, show 2 * m / 2 = m by omega, decide_eq_true h1, decide_eq_false h2]
        simp
    · rw [decide_eq_false h1]; rfl
/-- What is left of s behind the bits below j. -/
def lftS (s j : Nat) : Nat := s / 2 ^ j * 2 ^ j
theorem lftS_zero (s : Nat) : lftS s 0 = s := by unfold lftS; simp
theorem lftS_bit (s j k : Nat) : (lftS s j).testBit k = (decide (j ≤ k) && s.testBit k) := by
  unfold lftS
  rw [Nat.testBit_mul_two_pow, Nat.testBit_div_two_pow]
  by_cases h : j ≤ k
  · rw [show k - j + j = k by omega]
  · rw [decide_eq_false h]; rfl
theorem lftS_le (s j : Nat) : lftS s j ≤ s := Nat.div_mul_le_self _ _
theorem lft_done {s j : Nat} (h : lftS s j = 0) (hs : s < 2 ^ 64) (hj : j ≤ 64) : selU s.testBit j = selU s.testBit 64 := by
  have hb : ∀ k, j ≤ k → s.testBit k = false := fun k hk => by
    have := lftS_bit s j k
    rw [h, Nat.zero_testBit, decide_eq_true hk] at this; exact this.symm
  have : ∀ n, selU s.testBit (j + n) = selU s.testBit j := fun n => by
    induction n with
    | zero => rfl
    | succ n ih => rw [show j + (n + 1) = (j + n) + 1 by omega, selU_no (hb _ (by omega)), ih]
  have := this (64 - j)
  rw [show j + (64 - j) = 64 by omega] at this; exact this.symm
theorem lft_step {s j : Nat} (h : lftS s j ≠ 0) (hs : s < 2 ^ 64) : ∃ t, Lib.ctz 64 (lftS s j) = t ∧ j ≤ t ∧ t < 64 ∧ selU s.testBit (t + 1) = selU s.testBit j ++ [(t : Int)] ∧ lftS s j &&& (lftS s j - 1) = lftS s (t + 1) := by
  obtain ⟨h1, h2, h3, h4⟩ := ctz_at h (Nat.lt_of_le_of_lt (lftS_le s j) hs)
  generalize Lib.ctz 64 (lftS s j) = t at *
  rw [lftS_bit, Bool.and_eq_true, decide_eq_true_eq] at h2
  have hb : ∀ n, j + n ≤ t → selU s.testBit (j + n) = selU s.testBit j := fun n => by
    induction n with
    | zero => intro _; rfl
    | succ n ih =>
      intro hn
      have := h3 (j + n) (by omega)
      rw [lftS_bit, decide_eq_true (by omega), Bool.true_and] at this
      rw [show j + (n + 1) = (j + n) + 1 by omega, selU_no this, ih (by omega)]
  refine ⟨t, rfl, h2.1, h1, ?_, ?_⟩
  · have := hb (t - j) (by omega)
    rw [show j + (t - j) = t by omega] at this
    rw [selU_yes h2.2, this]
  · refine Nat.eq_of_testBit_eq fun k => ?_
    rw [h4, lftS_bit, lftS_bit]
    by_cases e1 : t + 1 ≤ k
    · rw [decide_eq_true e1, decide_eq_true (by omega), decide_eq_false (by omega)]; simp
    · rw [decide_eq_false e1]
      by_cases e2 : k = t
      · rw [decide_eq_true e2]; simp
      · have := h3 k (by omega)
        rw [lftS_bit] at this
        rw [this]; rfl
/-- The links of a set. -/
def lkS (s : Nat) : List Int := selU s.testBit 64
theorem lkS_len (s : Nat) : (lkS s).length ≤ 64 := selU_len _ _
theorem lkS_mem {s : Nat} {x : Int} : x ∈ lkS s ↔ hasS s x = true := by
  unfold lkS; rw [selU_mem]
  constructor
  · rintro ⟨j, h1, h2, rfl⟩; rw [hasS_nat h1]; exact h2
  · intro h
    unfold hasS at h
    rw [Bool.and_eq_true, decide_eq_true_eq] at h
    exact ⟨x.toNat, by omega, h.2, by omega⟩
/-- A set of links below n. -/
def inS (n s : Nat) : Prop := ∀ k, s.testBit k = true → k < n
theorem inS_lks {n s : Nat} (h : inS n s) (hn : n ≤ 64) : lkS s = selU s.testBit n := by
  unfold lkS
  have : ∀ d, selU s.testBit (n + d) = selU s.testBit n := fun d => by
    induction d with
    | zero => rfl
    | succ d ih =>
      rw [show n + (d + 1) = (n + d) + 1 by omega, selU_no, ih]
      cases hq : s.testBit (n + d) with
      | false => rfl
      | true => have := h _ hq; omega
  have := this (64 - n)
  rw [show n + (64 - n) = 64 by omega] at this; exact this
theorem inS_lt {n s : Nat} (h : s < 2 ^ n) : inS n s := fun k hk => Decidable.byContradiction fun e => by
  have : s.testBit k = false := Nat.testBit_lt_two_pow (Nat.lt_of_lt_of_le h (Nat.pow_le_pow_right (by decide) (by omega)))
  rw [this] at hk; cases hk
theorem inS_or {n : Nat} {ks : List Int} (h : ∀ x ∈ ks, inW n x = true) : inS n (orS ks) := fun k hk => by
  rw [orS_bit, decide_eq_true_eq] at hk
  have := (inW_yes (h _ hk.2)).2.1
  omega
-- closed sets
/-- Does a set hold the consumer of a wire? -/
def toK (N : Nt) (K : Nat → Bool) (x : Int) : Bool := decide (0 ≤ lxN inL N x) && K (lxN inL N x).toNat
/-- Is a wire in the border? -/
def bdB (N : Nt) (K : Nat → Bool) (x : Int) : Bool := K (frN N x) && !toK N K x
def bdL (N : Nt) (K : Nat → Bool) : List Int := selU (fun x => bdB N K (x : Int)) N.w.length
def sbN (N : Nt) (K : Nat → Bool) : Nt := cutN N K (bdL N K)
theorem bdL_len (N : Nt) (K : Nat → Bool) : (bdL N K).length ≤ N.w.length := selU_len _ _
theorem bdL_in {N : Nt} {K : Nat → Bool} {x : Int} (h : x ∈ bdL N K) : inW N.w.length x = true ∧ K (frN N x) = true := by
  obtain ⟨j, h1, h2, rfl⟩ := selU_mem.1 h
  unfold bdB at h2
  rw [Bool.and_eq_true] at h2
  exact ⟨decide_eq_true (by omega), h2.1⟩
/-- The border is what is left of the outputs. -/
theorem bdL_filter (N : Nt) (K : Nat → Bool) : (kpW N K N.w.length).filter (fun x => bdB N K x) = bdL N K := by
  unfold kpW bdL
  refine strict_ext ((selU_lt _ _).filter _) (selU_lt _ _) fun x => ?_
  rw [List.mem_filter, selU_mem, selU_mem]
  constructor
  · rintro ⟨⟨j, h1, _, rfl⟩, h3⟩; exact ⟨j, h1, h3, rfl⟩
  · rintro ⟨j, h1, h2, rfl⟩
    refine ⟨⟨j, h1, ?_, rfl⟩, h2⟩
    unfold bdB at h2
    rw [Bool.and_eq_true] at h2; exact h2.1
/-- Does a set contain the producers of all inputs of a link? Of its links? -/
def inKB (N : Nt) (K : Nat → Bool) (k : Int) : Bool := (inL (N.l.getD k.toNat Lk.nil)).all fun x => K (frN N x)
def clKB (N : Nt) (K : Nat → Bool) (ks : List Int) : Bool := !ks.isEmpty && ks.all (inKB N K)
theorem clKB_yes {N : Nt} {K : Nat → Bool} (h : clKB N K (selU K N.l.length) = true) : ClK N K := fun k hk hK x hx => by
  unfold clKB at h
  rw [Bool.and_eq_true] at h
  have := List.all_eq_true.1 h.2 (k : Int) (selU_mem.2 ⟨k, hk, hK, rfl⟩)
  unfold inKB at this
  rw [Int.toNat_natCast] at this
  exact List.all_eq_true.1 this x hx
/-- Some links as a set. -/
def kS (ks : List Int) (k : Nat) : Bool := decide ((k : Int) ∈ ks)
def csB (N : Nt) (ks : List Int) : Bool := valN N && (ks.all (inW N.l.length) && (decide (ks.Pairwise (· < ·)) && clKB N (kS ks) ks))
theorem csB_yes {N : Nt} {ks : List Int} (h : csB N ks = true) : valN N = true ∧ ks = selU (kS ks) N.l.length ∧ ClK N (kS ks) ∧ ks ≠ [] ∧ ks.length ≤ 48 := by
  simp only [csB, Bool.and_eq_true, decide_eq_true_eq] at h
  obtain ⟨h1, h2, h3, h4⟩ := h
  have e : ks = selU (kS ks) N.l.length := strict_ext h3 (selU_lt _ _) fun x => by
    rw [selU_mem]
    constructor
    · intro hx
      obtain ⟨_, q1, q2⟩ := inW_yes (List.all_eq_true.1 h2 x hx)
      exact ⟨x.toNat, q1, decide_eq_true (by rw [← q2]; exact hx), q2⟩
    · rintro ⟨j, _, q, rfl⟩; exact of_decide_eq_true q
  refine ⟨h1, e, clKB_yes (by rw [← e]; exact h4), ?_, ?_⟩
  · unfold clKB at h4
    intro e2; rw [e2] at h4; simp at h4
  · have := selU_len (kS ks) N.l.length
    have := (valN_size h1).2
    rw [e]; omega
/-- The program's test: the links of the set of the list are the list. -/
theorem same_lks {n : Nat} {ks : List Int} (hn : n ≤ 64) (h : ks.all (inW n) = true) : decide (ks = lkS (orS ks)) = decide (ks.Pairwise (· < ·)) := by
  rw [decide_eq_decide]
  have hin : ∀ x ∈ ks, inW n x = true := List.all_eq_true.1 h
  constructor
  · intro e; rw [e]; exact selU_lt _ _
  · intro hp
    refine strict_ext hp (selU_lt _ _) fun x => ?_
    rw [lkS_mem]
    constructor
    · intro hx
      obtain ⟨_, q1, q2⟩ := inW_yes (hin x hx)
      rw [q2, hasS_nat (by omega), orS_bit]
      exact decide_eq_true ⟨by omega, by rw [← q2]; exact hx⟩
    · intro hx
      unfold hasS at hx
      rw [Bool.and_eq_true, decide_eq_true_eq, orS_bit, decide_eq_true_eq] at hx
      have := hx.2.2
      rwa [show ((x.toNat : Nat) : Int) = x by omega] at this
theorem orS_kS {n : Nat} {ks : List Int} (hn : n ≤ 64) {k : Nat} (hk : k < n) : (orS ks).testBit k = kS ks k := by
  rw [orS_bit]; unfold kS; rw [decide_eq_decide]; exact ⟨fun h => h.2, fun h => ⟨by omega, h⟩⟩
/-- Is a set, as a number, closed? -/
def clS (N : Nt) (s : Nat) : Bool := clKB N s.testBit (lkS s)
theorem cl_same {N : Nt} (hv : valN N = true) {K K' : Nat → Bool} (h : ∀ k, k < N.l.length → K k = K' k) {ks : List Int} (hk : ∀ x ∈ ks, inW N.l.length x = true) : clKB N K ks = clKB N K' ks := by
  unfold clKB
  congr 1
  rw [Bool.eq_iff_iff, List.all_eq_true, List.all_eq_true]
  have : ∀ x ∈ ks, inKB N K x = inKB N K' x := fun x hx => by
    obtain ⟨_, q1, _⟩ := inW_yes (hk x hx)
    unfold inKB
    rw [Bool.eq_iff_iff, List.all_eq_true, List.all_eq_true]
    constructor
    · intro g y hy; rw [← h _ (fr_lt hv (in_in hv q1 hy)).2]; exact g y hy
    · intro g y hy; rw [h _ (fr_lt hv (in_in hv q1 hy)).2]; exact g y hy
  exact ⟨fun g x hx => (this x hx) ▸ g x hx, fun g x hx => (this x hx) ▸ g x hx⟩
/-- What the program asks of a list is what the model asks. -/
theorem csB_is {N : Nt} (hv : valN N = true) {ks : List Int} (h : ks.all (inW N.l.length) = true) : csB N ks = (decide (ks = lkS (orS ks)) && clS N (orS ks)) := by
  have h48 := (valN_size hv).2
  unfold csB
  rw [hv, h, Bool.true_and, Bool.true_and, same_lks (by omega) h]
  cases hp : decide (ks.Pairwise (· < ·)) with
  | false => rfl
  | true =>
    have e : ks = lkS (orS ks) := of_decide_eq_true ((same_lks (by omega) h).trans hp)
    rw [Bool.true_and, Bool.true_and]
    unfold clS
    rw [← e]
    exact cl_same hv (fun k hk => (orS_kS (n := N.l.length) (by omega) hk).symm) (List.all_eq_true.1 h)
/-- The nets and borders speak of links of the net alone. -/
theorem toK_same {N : Nt} {K K' : Nat → Bool} (h : ∀ k, k < N.l.length → K k = K' k) (x : Int) : toK N K x = toK N K' x := by
  unfold toK
  have := lxN_q inL N x
  by_cases e : 0 ≤ lxN inL N x
  · rw [h _ (by omega)]
  · rw [decide_eq_false e]; rfl
theorem kp_same {N : Nt} (hv : valN N = true) {K K' : Nat → Bool} (h : ∀ k, k < N.l.length → K k = K' k) {n : Nat} (hn : n ≤ N.w.length) : kpW N K n = kpW N K' n := by
  unfold kpW
  exact selU_ext fun j hj => h _ (fr_lt hv (decide_eq_true (by omega))).2
theorem bdL_same {N : Nt} (hv : valN N = true) {K K' : Nat → Bool} (h : ∀ k, k < N.l.length → K k = K' k) : bdL N K = bdL N K' := by
  unfold bdL
  refine selU_ext fun j hj => ?_
  unfold bdB
  rw [toK_same h, h _ (fr_lt hv (decide_eq_true (by omega))).2]
theorem cutN_same {N : Nt} (hv : valN N = true) {K K' : Nat → Bool} (h : ∀ k, k < N.l.length → K k = K' k) (cs : List Int) (hc : ∀ x ∈ cs, inW N.w.length x = true) : cutN N K cs = cutN N K' cs := by
  have hnm : ∀ x : Int, inW N.w.length x = true → nmW N K x = nmW N K' x := fun x hx => by
    unfold nmW; rw [kp_same hv h (by have := (inW_yes hx).2.1; omega)]
  unfold cutN
  rw [List.map_congr_left (fun x hx => hnm x (hc x hx))]
  congr 1
  · unfold cutW; rw [kp_same hv h (Nat.le_refl _)]
  · unfold cutL
    rw [selU_ext h]
    refine List.map_congr_left fun x hx => ?_
    obtain ⟨j, hj, _, rfl⟩ := selU_mem.1 hx
    rw [Int.toNat_natCast]
    obtain ⟨h1, h2, h3, _⟩ := fitsN_yes (link_fits hv hj)
    unfold rnL
    rw [hnm _ h1, hnm _ h2]
    split
    · rw [hnm _ h3]
    · rfl
theorem sbN_same {N : Nt} (hv : valN N = true) {K K' : Nat → Bool} (h : ∀ k, k < N.l.length → K k = K' k) : sbN N K = sbN N K' := by
  unfold sbN
  rw [bdL_same hv h]
  exact cutN_same hv h _ fun x hx => (bdL_in hx).1
theorem sbN_small {N : Nt} (hv : valN N = true) (K : Nat → Bool) : SmallN (sbN N K) := cut_small hv K (by
  have := bdL_len N K
  have := (valN_size hv).1
  omega)
-- the answers
def snV (N : Nt) (ks : List Int) : Nt := if csB N ks = true then sbN N (kS ks) else Nt.nil
def boV (N : Nt) (ks : List Int) : List Int := if csB N ks = true then bdL N (kS ks) else []
theorem snV_small (N : Nt) (ks : List Int) : SmallN (snV N ks) := by
  unfold snV
  split
  · next h => exact sbN_small (csB_yes h).1 _
  · exact ⟨by simp [Nt.nil], by simp [Nt.nil, total], by simp [Nt.nil], by simp [Nt.nil]⟩
theorem boV_len (N : Nt) (ks : List Int) : (boV N ks).length ≤ 1048576 := by
  unfold boV
  split
  · next h => have := bdL_len N (kS ks); have := (valN_size (csB_yes h).1).1; omega
  · simp
/-- A closed set has outputs. -/
theorem cl_outs {N : Nt} (hv : valN N = true) {K : Nat → Bool} (h : selU K N.l.length ≠ []) (hcl : ClK N K) : 0 < (kpW N K N.w.length).length := by
  refine Decidable.byContradiction fun e => ?_
  cases hs : selU K N.l.length with
  | nil => exact h hs
  | cons x L =>
    obtain ⟨j, h1, h2, _⟩ := selU_mem.1 (show x ∈ selU K N.l.length by rw [hs]; simp)
    have hw : ∃ y, inW N.w.length y = true ∧ K (frN N y) = true := by
      by_cases hc : (N.l.getD j Lk.nil).k = 2
      · have hm := (join_in (.inl hc)).1
        exact ⟨_, in_in hv h1 hm, hcl j h1 h2 _ hm⟩
      · have hm : ∃ y, y ∈ outL (N.l.getD j Lk.nil) := by
          unfold outL
          by_cases h1 : (N.l.getD j Lk.nil).k = 1
          · rw [if_pos h1]; exact ⟨_, List.mem_cons_self⟩
          · rw [if_neg h1, if_neg hc]; exact ⟨_, List.mem_cons_self⟩
        obtain ⟨y, hy⟩ := hm
        exact ⟨y, out_in hv h1 hy, by rw [fr_out hv h1 hy]; exact h2⟩
    obtain ⟨y, hy⟩ := hw
    have := List.length_pos_of_mem (kpW_mem.2 hy)
    omega
end
section
open Go.ChangeAt Go.ChangeShapes Go.RowKit Go.WideShapes
end
section
set_option linter.unusedSimpArgs false
set_option linter.unusedVariables false
open Go.ChangeAt Go.ChangeShapes Go.RowKit Go.WideShapes

set_option maxRecDepth 100000 in
set_option maxHeartbeats 1000000 in
theorem clone_x (A : Option Addr) (n c : Nat) (zs : List Int) (w : World) (h : RdI w w.heap.size A n zs) (hn : n ≤ 1048576) :
    Calls Tryz.prog 147 #[.slice A n c] w (Gives w zs) := by
  obtain ⟨i0, hi0, hz0, hz1, hz2⟩ := info_parts info_i64
  have hl := h.len
  subst hl
  cases A with
  | none =>
    have h0 : zs.length = 0 := by
      by_cases e : 0 < zs.length
      · obtain ⟨b, off, e2, _⟩ := h.2 e
        cases e2
      · omega
    obtain rfl : zs = [] := List.eq_nil_of_length_eq_zero h0
    have hnil : ∀ wx : World, (binOp .eql 24 (.slice none 0 c) (.slice none 0 0)).run Tryz.prog wx = .ok (.bool true) wx := fun wx => Lib.run_eql_slice_nil wx 24 2 _ _ _ _ _ Tryz.underlying24
    have HG := Lib.hid (gives_nil (Below.refl w.heap.size w))
    clear h h0 hi0 hz0 hz1 hz2 hn
    rw [List.length_nil]
    go_enter Tryz.func147, Tryz.ntmps147
    go_wp2
    go_ret
    exact HG.out
  | some a =>
    have hnil : ∀ wx : World, (binOp .eql 24 (.slice (some a) zs.length c) (.slice none 0 0)).run Tryz.prog wx = .ok (.bool false) wx := fun wx => Lib.run_eql_slice_nil wx 24 2 _ _ _ _ _ Tryz.underlying24
    have hb0 : Below w.heap.size w (w.alloc (.cells #[] 2)) := (Below.refl _ _).alloc (Nat.le_refl _) _
    have H0 := Lib.hid (World.ownsRow_made (e := 2) (base := w.heap.size) (size := 1) w #[] 0 (Nat.le_refl _) (by simp [maxLen]) rfl)
    have HN1 : Hid (∀ j u, (zs.map (Value.int .i64))[j]? = some u → (w.alloc (.cells #[] 2)).cell? (a.add j) = some u) := Lib.hid (fun j u hu => by
      by_cases e : 0 < zs.length
      · obtain ⟨b1, off1, e2, hb1, hc1⟩ := h.2 e
        injection e2 with e2
        subst e2
        exact part_news (fun j hj => (hb0.cell (p := ⟨b1, off1 + j, none⟩) hb1).trans (hc1 j hj)) j u hu
      · rw [List.eq_nil_of_length_eq_zero (by omega : zs.length = 0)] at hu
        simp at hu)
    have HB0 := Lib.hid hb0
    have HL1 : Hid ((zs.map (Value.int .i64)).length = zs.length * 1) := Lib.hid (by simp)
    have HHO := Lib.hid (ints_one zs)
    have HM1 : Hid (0 + zs.length ≤ maxLen) := Lib.hid (by unfold maxLen; omega)
    have HS1 : Hid ((0 + zs.length) * 8 ≤ 140737488355328) := Lib.hid (by omega)
    have HJ : Hid ([] ++ zs.map (Value.int .i64) = zs.map (Value.int .i64)) := Lib.hid (by simp)
    have HI := Lib.hid hi0; have HZ0 := Lib.hid hz0; have HZ1 := Lib.hid hz1; have HZ2 := Lib.hid hz2
    have HLL : Hid (0 + zs.length = zs.length) := Lib.hid (by omega)
    clear hb0 hi0 hz0 hz1 hz2 h
    go_enter Tryz.func147, Tryz.ntmps147
    go_wp2_with (at_builtin; refine wpList_append_own _ rfl _ _ 24 rfl w.heap.size 2 i0 (.int .i64 0) 1 8 Tryz.underlying24 HI.out HZ0.out HZ1.out HZ2.out rfl (by decide) _ _ _ rfl H0.out a zs.length c (zs.map (Value.int .i64)) rfl HL1.out HN1.out HHO.out HM1.out HS1.out HB0.out.size ?_; intro v2 w2 hown2 hgrow2 _; obtain ⟨A2, c2, rfl, HO2, HB2⟩ := app_news HB0 H0 hown2 hgrow2 HJ HLL.out; clear hown2 hgrow2)
    go_ret
    exact ⟨_, _, rfl, HO2.out, HB2.out⟩
end
end Go.Proofs.YtfdpkhiiboghiaaGreatDoor
