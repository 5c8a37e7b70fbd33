/- Mathematics of chapter 14: splitting links, nets of some links, the last link, sequentialisable nets. -/
import Derived.Test.YtgpocnapkflihaaGreatDoorSqM
import Derived.Test.YtgpocnapkflihaaGreatDoorSeqV
import Derived.Test.YtgpocnapkflihaaGreatDoorQNetE
namespace Go.Proofs.YtgpocnapkflihaaGreatDoor
set_option linter.unusedSimpArgs false
set_option linter.unusedVariables false
open Go.ChangeAt Go.ChangeShapes Go.RowKit Go.WideShapes

/-- Each link but one has a part of its own or that of a smaller link. -/
theorem gpX_in {N : Nt} (hv : valN N = true) {r k : Nat} (hk : k < N.l.length) (hr : ¬ k = r) : 0 ≤ gpX N r k := by
  have h := runR_pos (ar := arcX N r) (fun a ha => ⟨(arcX_in hv r a ha).1, (arcX_in hv r a ha).2.1⟩) _ (Nat.le_refl _) k hk
  unfold gpX; rw [if_pos ⟨hk, hr⟩]; exact h
theorem gpX_out {N : Nt} {r k : Nat} (h : ¬ (k < N.l.length ∧ ¬ k = r)) : gpX N r k = -1 := by unfold gpX; rw [if_neg h]
theorem gpX_neg {N : Nt} (hv : valN N = true) {r k : Nat} : gpX N r k = -1 ↔ ¬ (k < N.l.length ∧ ¬ k = r) :=
  ⟨fun e h => by have := gpX_in hv h.1 h.2; omega, gpX_out⟩
/-- The ends of an arc are in one part. -/
theorem runR_con {n : Nat} {ar : List Ac} (hin : ArcsIn n ar) : ∀ k, k ≤ ar.length → ∀ j, j < k → (runR n ar k).1.getD (ar.getD j Ac.nil).f.toNat 0 = (runR n ar k).1.getD (ar.getD j Ac.nil).t.toNat 0
  | 0, _, j, hj => absurd hj (by omega)
  | k + 1, hk, j, hj => by
    have hl := runR_len n ar k (by omega)
    have ha := hin _ (getL_mem (d := Ac.nil) (show j < ar.length by omega))
    have hf := (inW_yes ha.1).2.1
    have ht := (inW_yes ha.2).2.1
    rw [runR_succ (by omega)]; unfold stepR; dsimp only
    rw [renP_at (by omega), renP_at (by omega)]
    by_cases e : j = k
    · subst e
      split <;> split <;> omega
    · rw [runR_con hin k (by omega) j (by omega)]
theorem gpX_con {N : Nt} (hv : valN N = true) {r : Nat} {a : Ac} (ha : a ∈ arcX N r) : gpX N r a.f.toNat = gpX N r a.t.toNat := by
  have h := arcX_in hv r a ha
  obtain ⟨j, hj, e⟩ := List.getElem_of_mem ha
  have := runR_con (ar := arcX N r) (fun a ha => ⟨(arcX_in hv r a ha).1, (arcX_in hv r a ha).2.1⟩) _ (Nat.le_refl _) j hj
  rw [show (arcX N r).getD j Ac.nil = a by simp [List.getD, hj, e]] at this
  obtain ⟨_, f1, f2⟩ := inW_yes h.1
  obtain ⟨_, t1, t2⟩ := inW_yes h.2.1
  unfold gpX
  rw [if_pos ⟨f1, by omega⟩, if_pos ⟨t1, by omega⟩]; exact this
/-- An input of another link comes from the part of that link. -/
theorem gpX_inp {N : Nt} (hv : valN N = true) {r k : Nat} (hr : r < N.l.length) (h : tmB N r = true) (hk : k < N.l.length) (hkr : ¬ k = r) {x : Int} (hx : x ∈ inL (N.l.getD k Lk.nil)) : gpX N r (frN N x) = gpX N r k := by
  have hin := in_in hv hk hx
  obtain ⟨_, h1, e⟩ := inW_yes hin
  have ht : lxN inL N x = (k : Int) := by rw [e] at hx ⊢; exact lxN_yes (oneP_in hv) h1 hk hx
  have hf := (fr_lt hv hin).1
  have hne := fr_ne hv hk hr h hx
  have hm : arcA N x.toNat ∈ arcX N r := by
    unfold arcX arcsU
    rw [List.mem_filter]
    refine ⟨List.mem_map.2 ⟨x.toNat, ?_, rfl⟩, ?_⟩
    · rw [List.mem_filter, List.mem_range, decide_eq_true_eq]
      refine ⟨h1, ?_⟩
      rw [← e, ht]; omega
    · show (!decide (lxN outL N ((x.toNat : Nat) : Int) = (r : Int)) && !decide (lxN inL N ((x.toNat : Nat) : Int) = (r : Int))) = true
      rw [← e, ht, hf]
      have h2 : ¬ ((frN N x : Nat) : Int) = (r : Int) := by omega
      have h3 : ¬ (k : Int) = (r : Int) := by omega
      simp [h2, h3]
  have := gpX_con hv hm
  unfold arcA at this
  dsimp only at this
  rw [← e, ht, hf, Int.toNat_natCast, Int.toNat_natCast] at this
  exact this
/-- Is a link splitting? -/
def gaX (N : Nt) (r : Nat) : Int := gpX N r (frN N (N.l.getD r Lk.nil).a)
def gbX (N : Nt) (r : Nat) : Int := gpX N r (frN N (N.l.getD r Lk.nil).b)
def twB (N : Nt) (r : Nat) : Bool := (List.range N.l.length).all fun k => decide (gpX N r k = -1 ∨ gpX N r k = gaX N r ∨ gpX N r k = gbX N r)
def spB (N : Nt) (r : Nat) : Bool := decide ((N.l.getD r Lk.nil).k = 2 ∨ (N.l.getD r Lk.nil).k = 3) && (tmB N r && (!decide (gaX N r = gbX N r) && twB N r))
def spL (N : Nt) : List Int := selU (spB N) N.l.length
theorem spB_yes {N : Nt} {r : Nat} (h : spB N r = true) : ((N.l.getD r Lk.nil).k = 2 ∨ (N.l.getD r Lk.nil).k = 3) ∧ tmB N r = true ∧ ¬ gaX N r = gbX N r ∧ twB N r = true := by
  simp only [spB, Bool.and_eq_true, decide_eq_true_eq, Bool.not_eq_true', decide_eq_false_iff_not] at h
  exact h
theorem join_in {N : Nt} {r : Nat} (h : (N.l.getD r Lk.nil).k = 2 ∨ (N.l.getD r Lk.nil).k = 3) : (N.l.getD r Lk.nil).a ∈ inL (N.l.getD r Lk.nil) ∧ (N.l.getD r Lk.nil).b ∈ inL (N.l.getD r Lk.nil) := by
  unfold inL; rw [if_neg (by omega)]; simp
theorem ga_in {N : Nt} (hv : valN N = true) {r : Nat} (hr : r < N.l.length) (ht : tmB N r = true) (h : (N.l.getD r Lk.nil).k = 2 ∨ (N.l.getD r Lk.nil).k = 3) : 0 ≤ gaX N r ∧ 0 ≤ gbX N r := by
  obtain ⟨m1, m2⟩ := join_in h
  exact ⟨gpX_in hv (fr_lt hv (in_in hv hr m1)).2 (fr_ne hv hr hr ht m1), gpX_in hv (fr_lt hv (in_in hv hr m2)).2 (fr_ne hv hr hr ht m2)⟩
/-- Two parts are left: what the program counts. -/
theorem two_parts {N : Nt} (hv : valN N = true) {r : Nat} (hr : r < N.l.length) (ht : tmB N r = true) (h : (N.l.getD r Lk.nil).k = 2 ∨ (N.l.getD r Lk.nil).k = 3) (hne : ¬ gaX N r = gbX N r)
    (hrep : ∀ k, gpX N r k = -1 ∨ ∃ q : Nat, gpX N r k = (q : Int) ∧ q ≤ k ∧ gpX N r q = (q : Int)) : decide (cntQ (gpX N r) = 2) = twB N r := by
  obtain ⟨ha, hb⟩ := ga_in hv hr ht h
  have h48 := (valN_size hv).2
  have root : ∀ {g : Int} {k : Nat}, g = gpX N r k → 0 ≤ g → ∃ q : Nat, g = (q : Int) ∧ q < 48 ∧ gpX N r q = (q : Int) := fun {g k} e h0 => by
    rcases hrep k with e2 | ⟨q, q1, q2, q3⟩
    · omega
    · have : q < N.l.length := Decidable.byContradiction fun e3 => by
        have := gpX_out (N := N) (r := r) (k := q) (by omega)
        omega
      exact ⟨q, by omega, by omega, q3⟩
  obtain ⟨x, x1, x2, x3⟩ := root (g := gaX N r) rfl ha
  obtain ⟨y, y1, y2, y3⟩ := root (g := gbX N r) rfl hb
  have hxy : ¬ x = y := fun e => hne (by omega)
  have e0 : ∀ k, k < 48 → one (gpX N r k = (k : Int)) = (one (gpX N r k = (k : Int)) - one (x = k) - one (y = k)) - (0 - one (x = k) - one (y = k)) := fun k _ => by omega
  have es : ((List.range 48).map fun k : Nat => one (gpX N r k = (k : Int)) - one (x = k) - one (y = k)).sum = cntQ (gpX N r) - 2 := by
    rw [sum_minus, sum_minus, sum_one x2, sum_one y2]; unfold cntQ; omega
  have hpos : ∀ k, 0 ≤ one (gpX N r k = (k : Int)) - one (x = k) - one (y = k) := fun k => by
    unfold one
    by_cases c1 : x = k
    · subst c1; rw [if_pos x3, if_pos rfl, if_neg (fun e => hxy e.symm)]; decide
    · by_cases c2 : y = k
      · subst c2; rw [if_pos y3, if_neg hxy, if_pos rfl]; decide
      · rw [if_neg c1, if_neg c2]; split <;> decide
  rw [Bool.eq_iff_iff, decide_eq_true_eq]
  constructor
  · intro hc
    unfold twB
    rw [List.all_eq_true]
    intro k hk
    refine decide_eq_true ?_
    rcases hrep k with e | ⟨q, q1, q2, q3⟩
    · exact .inl e
    right
    have hq : q < 48 := by have := List.mem_range.1 hk; omega
    rw [q1, x1, y1]
    refine Decidable.byContradiction fun e => ?_
    have e1 : ¬ x = q := fun z => e (.inl (by omega))
    have e2 : ¬ y = q := fun z => e (.inr (by omega))
    have hge : ∀ n, 0 ≤ ((List.range n).map fun k : Nat => one (gpX N r k = (k : Int)) - one (x = k) - one (y = k)).sum ∧ (q < n → 1 ≤ ((List.range n).map fun k : Nat => one (gpX N r k = (k : Int)) - one (x = k) - one (y = k)).sum) := fun n => by
      induction n with
      | zero => simp
      | succ n ih =>
        rw [List.range_succ]
        simp only [List.map_append, List.sum_append, List.map_cons, List.map_nil, List.sum_cons, List.sum_nil]
        have := hpos n
        refine ⟨by omega, fun hn => ?_⟩
        by_cases en : q = n
        · subst en
          have : one (gpX N r q = (q : Int)) - one (x = q) - one (y = q) = 1 := by unfold one; rw [if_pos q3, if_neg e1, if_neg e2]; rfl
          omega
        · have := ih.2 (by omega); omega
    have := (hge 48).2 hq
    omega
  · intro hc
    unfold twB at hc
    rw [List.all_eq_true] at hc
    have : ((List.range 48).map fun k : Nat => one (gpX N r k = (k : Int)) - one (x = k) - one (y = k)).sum = 0 := sum_zero_of fun k hk => by
      by_cases c1 : x = k
      · subst c1; unfold one; rw [if_pos x3, if_pos rfl, if_neg (fun e => hxy e.symm)]; rfl
      · by_cases c2 : y = k
        · subst c2; unfold one; rw [if_pos y3, if_neg hxy, if_pos rfl]; rfl
        · have : ¬ gpX N r k = (k : Int) := fun e => by
            have hkl : k < N.l.length := Decidable.byContradiction fun e3 => by
              have := gpX_out (N := N) (r := r) (k := k) (by omega)
              omega
            have := of_decide_eq_true (hc k (List.mem_range.2 hkl))
            omega
          unfold one; rw [if_neg this, if_neg c1, if_neg c2]; rfl
    omega
-- nets of some links
def kpW (N : Nt) (K : Nat → Bool) (k : Nat) : List Int := selU (fun x => K (frN N (x : Int))) k
def nmW (N : Nt) (K : Nat → Bool) (x : Int) : Int := ((kpW N K x.toNat).length : Int)
def rnL (N : Nt) (K : Nat → Bool) (l : Lk) : Lk := ⟨l.k, nmW N K l.a, nmW N K l.b, if l.k = 3 ∨ l.k = 4 then nmW N K l.c else 0⟩
def cutW (N : Nt) (K : Nat → Bool) (k : Nat) : List (List Int) := (kpW N K k).map fun x => N.w.getD x.toNat []
def cutL (N : Nt) (K : Nat → Bool) (k : Nat) : List Lk := (selU K k).map fun j => rnL N K (N.l.getD j.toNat Lk.nil)
def cutN (N : Nt) (K : Nat → Bool) (cs : List Int) : Nt := ⟨cutW N K N.w.length, cutL N K N.l.length, cs.map (nmW N K)⟩
theorem kpW_len (N : Nt) (K : Nat → Bool) (k : Nat) : (kpW N K k).length ≤ k := selU_len _ _
theorem cutW_len (N : Nt) (K : Nat → Bool) (k : Nat) : (cutW N K k).length = (kpW N K k).length := List.length_map ..
theorem cutL_len (N : Nt) (K : Nat → Bool) (k : Nat) : (cutL N K k).length ≤ k := by unfold cutL; rw [List.length_map]; exact selU_len _ _
theorem cutW_yes {N : Nt} {K : Nat → Bool} {k : Nat} (h : K (frN N (k : Int)) = true) : cutW N K (k + 1) = cutW N K k ++ [N.w.getD k []] := by
  unfold cutW kpW; rw [selU_yes (p := fun x => K (frN N (x : Int))) h, List.map_append]; rfl
theorem cutW_no {N : Nt} {K : Nat → Bool} {k : Nat} (h : K (frN N (k : Int)) = false) : cutW N K (k + 1) = cutW N K k := by
  unfold cutW kpW; rw [selU_no (p := fun x => K (frN N (x : Int))) h]
theorem cutL_yes {N : Nt} {K : Nat → Bool} {k : Nat} (h : K k = true) : cutL N K (k + 1) = cutL N K k ++ [rnL N K (N.l.getD k Lk.nil)] := by
  unfold cutL; rw [selU_yes h, List.map_append]; rfl
theorem cutL_no {N : Nt} {K : Nat → Bool} {k : Nat} (h : K k = false) : cutL N K (k + 1) = cutL N K k := by
  unfold cutL; rw [selU_no h]
theorem cutL_lt {N : Nt} {K : Nat → Bool} {r : Nat} (hr : r < N.l.length) (h : K r = false) : (cutN N K []).l.length < N.l.length ∧ ∀ cs, (cutN N K cs).l.length = (cutN N K []).l.length := by
  refine ⟨?_, fun _ => rfl⟩
  show (cutL N K N.l.length).length < _
  have : ∀ n, r < n → (cutL N K n).length < n := fun n => by
    induction n with
    | zero => omega
    | succ n ih =>
      intro hn
      by_cases e : r = n
      · subst e; rw [cutL_no h]; have := cutL_len N K r; omega
      · have := ih (by omega)
        cases hk : K n with
        | true => rw [cutL_yes hk, List.length_append]; simp; omega
        | false => rw [cutL_no hk]; omega
  exact this _ hr
theorem cut_small {N : Nt} (hv : valN N = true) (K : Nat → Bool) {cs : List Int} (hc : cs.length ≤ 1048576) : SmallN (cutN N K cs) := by
  obtain ⟨h1, h2⟩ := valN_size hv
  have hw : (cutW N K N.w.length).length ≤ 48 := by rw [cutW_len]; have := kpW_len N K N.w.length; omega
  refine ⟨Nat.le_trans hw (by decide), ?_, ?_, by show (cs.map _).length ≤ _; rw [List.length_map]; exact hc⟩
  · refine Nat.le_trans (total_valid ?_) (Nat.le_trans (Nat.mul_le_mul_left 24 hw) (by decide))
    rw [List.all_eq_true]
    intro q hq
    obtain ⟨x, hx, rfl⟩ := List.mem_map.1 hq
    obtain ⟨j, hj, _, rfl⟩ := selU_mem.1 hx
    rw [Int.toNat_natCast]
    exact formN_valid (all_at (valN_forms hv) hj)
  · have := cutL_len N K N.l.length
    show (cutL N K N.l.length).length ≤ _
    omega
theorem kpW_mem {N : Nt} {K : Nat → Bool} {x : Int} : x ∈ kpW N K N.w.length ↔ inW N.w.length x = true ∧ K (frN N x) = true := by
  unfold kpW; rw [selU_mem]
  constructor
  · rintro ⟨j, h1, h2, rfl⟩; exact ⟨decide_eq_true (by omega), h2⟩
  · rintro ⟨h1, h2⟩
    obtain ⟨_, h3, e⟩ := inW_yes h1
    exact ⟨x.toNat, h3, by rw [← e]; exact h2, e⟩
theorem kpW_idx {N : Nt} {K : Nat → Bool} {x : Int} (hx : inW N.w.length x = true) (h : K (frN N x) = true) : (((kpW N K N.w.length).idxOf x : Nat) : Int) = nmW N K x := by
  obtain ⟨_, h3, e⟩ := inW_yes hx
  rw [e] at h
  have := selU_idx (p := fun x => K (frN N (x : Int))) h3 h
  rw [← e] at this
  unfold kpW nmW
  rw [this]; rfl
/-- The position of a number in a row. -/
def posI (L : List Int) (x : Int) : Int := if x ∈ L then (L.idxOf x : Int) else -1
theorem posI_kp {N : Nt} {K : Nat → Bool} {x : Int} (hx : inW N.w.length x = true) (h : K (frN N x) = true) : posI (kpW N K N.w.length) x = nmW N K x := by
  unfold posI; rw [if_pos (kpW_mem.2 ⟨hx, h⟩)]; exact kpW_idx hx h
/-- Some links among which are the producers of their inputs. -/
def ClK (N : Nt) (K : Nat → Bool) : Prop := ∀ k, k < N.l.length → K k = true → ∀ x ∈ inL (N.l.getD k Lk.nil), K (frN N x) = true
theorem ren_is {N : Nt} (hv : valN N = true) {K : Nat → Bool} (hK : ClK N K) {k : Nat} (hk : k < N.l.length) (h : K k = true) :
    lnk (N.l.getD k Lk.nil).k (posI (kpW N K N.w.length) (N.l.getD k Lk.nil).a) (posI (kpW N K N.w.length) (N.l.getD k Lk.nil).b) (posI (kpW N K N.w.length) (N.l.getD k Lk.nil).c) = rnL N K (N.l.getD k Lk.nil) := by
  obtain ⟨h1, h2, h3, _⟩ := fitsN_yes (link_fits hv hk)
  have hkind := fitsN_kind (link_fits hv hk)
  have hO : ∀ x ∈ outL (N.l.getD k Lk.nil), K (frN N x) = true := fun x hx => by rw [fr_out hv hk hx]; exact h
  have hI := hK k hk h
  unfold outL at hO
  unfold inL at hI
  unfold lnk rnL
  by_cases e1 : (N.l.getD k Lk.nil).k = 1
  · rw [if_pos e1] at hO
    rw [posI_kp h1 (hO _ (by simp)), posI_kp h2 (hO _ (by simp)), if_neg (by omega), if_neg (by omega)]
  · rw [if_neg e1] at hO hI
    rw [posI_kp h1 (hI _ (by simp)), posI_kp h2 (hI _ (by simp))]
    by_cases e2 : (N.l.getD k Lk.nil).k = 2
    · rw [if_neg (by omega), if_neg (by omega)]
    · rw [if_neg e2] at hO
      rw [posI_kp h3 (hO _ (by simp))]
theorem outL_nodup {N : Nt} (hv : valN N = true) {k : Nat} (hk : k < N.l.length) : (outL (N.l.getD k Lk.nil)).Nodup := by
  refine conc_two (fun x hx => (inW_yes (out_in hv hk hx)).1) fun x => ?_
  by_cases hx : x < N.w.length
  · have h := (valN_at hv hx).1
    have e : (N.l.map fun l => concN (outL l) x).sum = madeN N.l x := by unfold madeN; congr 1; exact List.map_congr_left fun l _ => (mk1_is l x).symm
    have := sum_ge_one (f := fun l => concN (outL l) x) (fun l => (concN_le _ _).1) N.l k hk
    omega
  · refine Decidable.byContradiction fun e => ?_
    have := conc_some (fun x hx => (inW_yes (out_in hv hk hx)).1) (show 1 ≤ concN (outL (N.l.getD k Lk.nil)) x by omega)
    have := (inW_yes (out_in hv hk this)).2.1
    simp at this; omega
/-- The outputs of the first links of a list. -/
def outU (N : Nt) (ks : List Int) (j : Nat) : List Int := ((ks.take j).map fun k => outL (N.l.getD k.toNat Lk.nil)).flatten
theorem outU_zero (N : Nt) (ks : List Int) : outU N ks 0 = [] := rfl
theorem outU_succ {N : Nt} {ks : List Int} {j : Nat} (h : j < ks.length) : outU N ks (j + 1) = outU N ks j ++ outL (N.l.getD (ks.getD j 0).toNat Lk.nil) := by
  unfold outU; rw [takeL_succ (d := (0 : Int)) h, List.map_append, List.flatten_append]; simp
theorem outU_len (N : Nt) (ks : List Int) (j : Nat) : (outU N ks j).length ≤ 2 * j := by
  unfold outU
  have : ∀ L : List Int, ((L.map fun k => outL (N.l.getD k.toNat Lk.nil)).flatten).length ≤ 2 * L.length := fun L => by
    induction L with
    | nil => simp
    | cons x L ih => rw [List.map_cons, List.flatten_cons, List.length_append, List.length_cons]; have := outL_len (N.l.getD x.toNat Lk.nil); omega
  refine Nat.le_trans (this _) ?_
  rw [List.length_take]; omega
theorem out_nodup {N : Nt} (hv : valN N = true) : ∀ {ks : List Int}, ks.Pairwise (· < ·) → (∀ k ∈ ks, inW N.l.length k = true) → ((ks.map fun k => outL (N.l.getD k.toNat Lk.nil)).flatten).Nodup
  | [], _, _ => List.nodup_nil
  | k :: ks, hp, hi => by
    rw [List.pairwise_cons] at hp
    rw [List.map_cons, List.flatten_cons, List.nodup_append]
    have hk := inW_yes (hi k (by simp))
    refine ⟨outL_nodup hv hk.2.1, out_nodup hv hp.2 fun x hx => hi x (by simp [hx]), fun a ha b hb e => ?_⟩
    subst e
    obtain ⟨X, hX, hm⟩ := List.mem_flatten.1 hb
    obtain ⟨j, hj, rfl⟩ := List.mem_map.1 hX
    have hjj := inW_yes (hi j (by simp [hj]))
    have := fr_out hv hk.2.1 ha
    have := fr_out hv hjj.2.1 hm
    have := hp.1 j hj
    omega
theorem out_sort {N : Nt} (hv : valN N = true) (K : Nat → Bool) : srtI (outU N (selU K N.l.length) (selU K N.l.length).length) = kpW N K N.w.length := by
  unfold outU
  rw [List.take_length]
  have hin : ∀ k ∈ selU K N.l.length, inW N.l.length k = true := fun k hk => by
    obtain ⟨j, h1, _, rfl⟩ := selU_mem.1 hk
    exact decide_eq_true (by omega)
  refine srt_strict (out_nodup hv (selU_lt _ _) hin) (selU_lt _ _) fun x => ?_
  rw [kpW_mem, List.mem_flatten]
  constructor
  · rintro ⟨X, hX, hm⟩
    obtain ⟨k, hk, rfl⟩ := List.mem_map.1 hX
    obtain ⟨j, h1, h2, rfl⟩ := selU_mem.1 hk
    rw [Int.toNat_natCast] at hm
    exact ⟨out_in hv h1 hm, by rw [fr_out hv h1 hm]; exact h2⟩
  · rintro ⟨h1, h2⟩
    exact ⟨_, List.mem_map.2 ⟨(frN N x : Int), selU_mem.2 ⟨frN N x, (fr_lt hv h1).2, h2, rfl⟩, rfl⟩, by rw [Int.toNat_natCast]; exact fr_mem hv h1⟩
/-- The two nets of a splitting link. -/
def k1X (N : Nt) (r k : Nat) : Bool := decide (gpX N r k = gaX N r)
def k2X (N : Nt) (r k : Nat) : Bool := decide (gpX N r k = gbX N r)
def csX (N : Nt) (K : Nat → Bool) : List Int := N.c.filter fun c => K (frN N c)
def s1N (N : Nt) (r : Nat) : Nt := cutN N (k1X N r) (csX N (k1X N r) ++ [(N.l.getD r Lk.nil).a])
def s2N (N : Nt) (r : Nat) : Nt := cutN N (k2X N r) (csX N (k2X N r) ++ [(N.l.getD r Lk.nil).b])
theorem csX_len (N : Nt) (K : Nat → Bool) : (csX N K).length ≤ N.c.length := List.length_filter_le _ _
theorem k1X_no {N : Nt} (hv : valN N = true) {r : Nat} (hr : r < N.l.length) (h : spB N r = true) : k1X N r r = false ∧ k2X N r r = false := by
  obtain ⟨h1, h2, _⟩ := spB_yes h
  obtain ⟨ha, hb⟩ := ga_in hv hr h2 h1
  have := gpX_out (N := N) (r := r) (k := r) (by omega)
  exact ⟨decide_eq_false (by omega), decide_eq_false (by omega)⟩
theorem k1X_ne {N : Nt} (hv : valN N = true) {r : Nat} (hr : r < N.l.length) (h : spB N r = true) {k : Nat} : (k1X N r k = true → k < N.l.length ∧ ¬ k = r) ∧ (k2X N r k = true → k < N.l.length ∧ ¬ k = r) := by
  obtain ⟨h1, h2, _⟩ := spB_yes h
  obtain ⟨ha, hb⟩ := ga_in hv hr h2 h1
  refine ⟨fun e => ?_, fun e => ?_⟩ <;> have e := of_decide_eq_true e <;> exact Decidable.byContradiction fun q => by have := gpX_out q; omega
theorem k1X_cl {N : Nt} (hv : valN N = true) {r : Nat} (hr : r < N.l.length) (h : spB N r = true) : ClK N (k1X N r) ∧ ClK N (k2X N r) := by
  have ht := (spB_yes h).2.1
  refine ⟨fun k hk hK x hx => ?_, fun k hk hK x hx => ?_⟩
  · have := gpX_inp hv hr ht hk ((k1X_ne hv hr h).1 hK).2 hx
    unfold k1X at hK ⊢; rw [this]; exact hK
  · have := gpX_inp hv hr ht hk ((k1X_ne hv hr h).2 hK).2 hx
    unfold k2X at hK ⊢; rw [this]; exact hK
theorem k1X_a (N : Nt) (r : Nat) : k1X N r (frN N (N.l.getD r Lk.nil).a) = true ∧ k2X N r (frN N (N.l.getD r Lk.nil).b) = true := ⟨decide_eq_true rfl, decide_eq_true rfl⟩
/-- What the model puts on the right side. -/
theorem k2X_is {N : Nt} (hv : valN N = true) {r : Nat} (hr : r < N.l.length) (h : spB N r = true) {k : Nat} (hk : k < N.l.length) : k2X N r k = (!k1X N r k && decide (0 ≤ gpX N r k)) := by
  obtain ⟨h1, h2, h3, h4⟩ := spB_yes h
  obtain ⟨ha, hb⟩ := ga_in hv hr h2 h1
  have := of_decide_eq_true (List.all_eq_true.1 h4 k (List.mem_range.2 hk))
  unfold k1X k2X
  rw [Bool.eq_iff_iff, decide_eq_true_eq, Bool.and_eq_true, Bool.not_eq_true', decide_eq_false_iff_not, decide_eq_true_eq]
  omega
/-- A net without a terminal par. -/
def koX (r k : Nat) : Bool := !decide (k = r)
def opC (N : Nt) (r : Nat) (cs : List Int) : List Int := (cs.map fun c => if c = (N.l.getD r Lk.nil).c then [(N.l.getD r Lk.nil).a, (N.l.getD r Lk.nil).b] else [c]).flatten
def opN (N : Nt) (r : Nat) : Nt := cutN N (koX r) (opC N r N.c)
theorem opC_len (N : Nt) (r : Nat) (cs : List Int) : (opC N r cs).length ≤ 2 * cs.length := by
  unfold opC
  induction cs with
  | nil => simp
  | cons c cs ih =>
    rw [List.map_cons, List.flatten_cons, List.length_append, List.length_cons]
    split <;> simp only [List.length_cons, List.length_nil] <;> omega
theorem opC_snoc {N : Nt} {r j : Nat} {cs : List Int} (h : j < cs.length) : opC N r (cs.take (j + 1)) = opC N r (cs.take j) ++ (if cs.getD j 0 = (N.l.getD r Lk.nil).c then [(N.l.getD r Lk.nil).a, (N.l.getD r Lk.nil).b] else [cs.getD j 0]) := by
  unfold opC; rw [takeL_succ (d := (0 : Int)) h, List.map_append, List.flatten_append]; simp
theorem tpB_yes {N : Nt} {r : Nat} (h : tpB N r = true) : (N.l.getD r Lk.nil).k = 4 ∧ tmB N r = true := by
  simp only [tpB, Bool.and_eq_true, decide_eq_true_eq] at h; exact h
theorem par_out {N : Nt} {r : Nat} (h : (N.l.getD r Lk.nil).k = 4) : outL (N.l.getD r Lk.nil) = [(N.l.getD r Lk.nil).c] ∧ inL (N.l.getD r Lk.nil) = [(N.l.getD r Lk.nil).a, (N.l.getD r Lk.nil).b] := by
  unfold outL inL; rw [if_neg (by omega), if_neg (by omega), if_neg (by omega)]; exact ⟨rfl, rfl⟩
theorem par_concl {N : Nt} {r : Nat} (h : tpB N r = true) : (N.l.getD r Lk.nil).c ∈ N.c := by
  obtain ⟨h1, h2⟩ := tpB_yes h
  unfold tmB at h2
  rw [(par_out h1).1] at h2
  simpa using h2
/-- All new conclusions are wires of the other links. -/
theorem opC_in {N : Nt} (hv : valN N = true) {r : Nat} (hr : r < N.l.length) (h : tpB N r = true) {x : Int} (hx : x ∈ opC N r N.c) : inW N.w.length x = true ∧ koX r (frN N x) = true := by
  obtain ⟨h1, h2⟩ := tpB_yes h
  obtain ⟨e1, e2⟩ := par_out h1
  unfold opC at hx
  obtain ⟨X, hX, hm⟩ := List.mem_flatten.1 hx
  obtain ⟨c, hc, rfl⟩ := List.mem_map.1 hX
  by_cases e : c = (N.l.getD r Lk.nil).c
  · rw [if_pos e, ← e2] at hm
    refine ⟨in_in hv hr hm, ?_⟩
    unfold koX; rw [decide_eq_false (fr_ne hv hr hr h2 hm)]; rfl
  · rw [if_neg e, List.mem_singleton] at hm
    subst hm
    have hw := conc_wires hv hc
    refine ⟨hw, ?_⟩
    unfold koX
    rw [decide_eq_false]; rfl
    intro e3
    have := fr_mem hv hw
    rw [e3, e1, List.mem_singleton] at this
    exact e this
/-- The conclusions around that of the par. -/
theorem opC_is {N : Nt} (hv : valN N = true) {r : Nat} (h : tpB N r = true) : opC N r N.c = N.c.take (N.c.idxOf (N.l.getD r Lk.nil).c) ++ ([(N.l.getD r Lk.nil).a, (N.l.getD r Lk.nil).b] ++ N.c.drop (N.c.idxOf (N.l.getD r Lk.nil).c + 1)) := by
  have hn := conc_nodup hv
  have hm := par_concl h
  unfold opC
  generalize (N.l.getD r Lk.nil).a = a at *
  generalize (N.l.getD r Lk.nil).b = b at *
  generalize (N.l.getD r Lk.nil).c = c at *
  generalize N.c = cs at *
  have hid : ∀ L : List Int, ¬ c ∈ L → (L.map fun x => if x = c then [a, b] else [x]).flatten = L := fun L => by
    induction L with
    | nil => intro _; rfl
    | cons x L ih =>
      intro hx
      rw [List.mem_cons, not_or] at hx
      rw [List.map_cons, List.flatten_cons, if_neg (fun e => hx.1 e.symm), ih hx.2]; rfl
  induction cs with
  | nil => simp at hm
  | cons x cs ih =>
    rw [List.nodup_cons] at hn
    rw [List.map_cons, List.flatten_cons]
    by_cases e : x = c
    · subst e
      rw [if_pos rfl, hid cs hn.1, List.idxOf_cons_self]; rfl
    · rw [if_neg e, ih hn.2 ((List.mem_cons.1 hm).resolve_left (fun q => e q.symm)), List.idxOf_cons, show (x == c) = false by simpa using e]
      rfl
theorem koX_cl {N : Nt} (hv : valN N = true) {r : Nat} (hr : r < N.l.length) (h : tmB N r = true) : ClK N (koX r) := fun k hk _ x hx => by
  unfold koX; rw [decide_eq_false (fr_ne hv hk hr h hx)]; rfl
-- the last link
def lsL (N : Nt) : List Int := tpL N ++ (spL N ++ if N.l.length = 1 then kinU 1 N.l N.l.length else [])
def lsV (N : Nt) : Int := if valN N = true then (lsL N).getD 0 (-1) else -1
theorem lsL_len (N : Nt) : (lsL N).length ≤ 3 * N.l.length := by
  have h1 : (tpL N).length ≤ N.l.length := selU_len _ _
  have h2 : (spL N).length ≤ N.l.length := selU_len _ _
  have h3 := kinU_len 1 N.l N.l.length
  unfold lsL
  rw [List.length_append, List.length_append]
  split <;> simp <;> omega
theorem lsV_neg {N : Nt} (h : valN N = false) : lsV N = -1 := by unfold lsV; rw [if_neg (by rw [h]; decide)]
/-- What the last link is. -/
theorem lsV_cases {N : Nt} (hv : valN N = true) : lsV N = -1 ∨ ∃ r : Nat, lsV N = (r : Int) ∧ r < N.l.length ∧ (tpB N r = true ∨ spB N r = true ∨ (N.l.getD r Lk.nil).k = 1) := by
  have key : ∀ x ∈ lsL N, ∃ r : Nat, x = (r : Int) ∧ r < N.l.length ∧ (tpB N r = true ∨ spB N r = true ∨ (N.l.getD r Lk.nil).k = 1) := fun x hx => by
    unfold lsL at hx
    rw [List.mem_append, List.mem_append] at hx
    rcases hx with hx | hx | hx
    · obtain ⟨r, h1, h2, rfl⟩ := selU_mem.1 hx; exact ⟨r, rfl, h1, .inl h2⟩
    · obtain ⟨r, h1, h2, rfl⟩ := selU_mem.1 hx; exact ⟨r, rfl, h1, .inr (.inl h2)⟩
    · by_cases e : N.l.length = 1
      · rw [if_pos e] at hx
        obtain ⟨r, h1, h2, rfl⟩ := kinU_mem.1 hx; exact ⟨r, rfl, h1, .inr (.inr h2)⟩
      · rw [if_neg e] at hx; cases hx
  unfold lsV
  rw [if_pos hv]
  cases h : lsL N with
  | nil => left; rfl
  | cons x L => right; rw [List.getD_cons_zero]; exact key x (by rw [h]; simp)
/-- Is a net sequentialisable? -/
def seqF : Nat → Nt → Bool
  | 0, _ => false
  | n + 1, N => if lsV N = -1 then false else if (N.l.getD (lsV N).toNat Lk.nil).k = 1 then true else if (N.l.getD (lsV N).toNat Lk.nil).k = 4 then seqF n (opN N (lsV N).toNat) else seqF n (s1N N (lsV N).toNat) && seqF n (s2N N (lsV N).toNat)
def seqB (N : Nt) : Bool := seqF (N.l.length + 1) N
theorem sp_less {N : Nt} (hv : valN N = true) {r : Nat} (hr : r < N.l.length) (h : spB N r = true) : (s1N N r).l.length < N.l.length ∧ (s2N N r).l.length < N.l.length :=
  ⟨(cutL_lt hr (k1X_no hv hr h).1).1, (cutL_lt hr (k1X_no hv hr h).2).1⟩
theorem op_less {N : Nt} {r : Nat} (hr : r < N.l.length) : (opN N r).l.length < N.l.length := (cutL_lt hr (show koX r r = false by simp [koX])).1
theorem seqF_more : ∀ (n m : Nat) (N : Nt), N.l.length < n → N.l.length < m → seqF n N = seqF m N
  | 0, _, N, h, _ => absurd h (by omega)
  | _, 0, N, _, h => absurd h (by omega)
  | n + 1, m + 1, N, hn, hm => by
    show (if lsV N = -1 then false else if (N.l.getD (lsV N).toNat Lk.nil).k = 1 then true else if (N.l.getD (lsV N).toNat Lk.nil).k = 4 then seqF n (opN N (lsV N).toNat) else seqF n (s1N N (lsV N).toNat) && seqF n (s2N N (lsV N).toNat)) = (if lsV N = -1 then false else if (N.l.getD (lsV N).toNat Lk.nil).k = 1 then true else if (N.l.getD (lsV N).toNat Lk.nil).k = 4 then seqF m (opN N (lsV N).toNat) else seqF m (s1N N (lsV N).toNat) && seqF m (s2N N (lsV N).toNat))
    by_cases e : lsV N = -1
    · rw [if_pos e, if_pos e]
    rw [if_neg e, if_neg e]
    have hv : valN N = true := by
      cases hv : valN N with
      | true => rfl
      | false => exact absurd (lsV_neg hv) e
    rcases lsV_cases hv with e2 | ⟨r, e2, hr, hc⟩
    · exact absurd e2 e
    rw [e2, Int.toNat_natCast]
    by_cases k1 : (N.l.getD r Lk.nil).k = 1
    · rw [if_pos k1, if_pos k1]
    rw [if_neg k1, if_neg k1]
    by_cases k4 : (N.l.getD r Lk.nil).k = 4
    · rw [if_pos k4, if_pos k4]
      have := op_less hr
      exact seqF_more n m _ (by omega) (by omega)
    · rw [if_neg k4, if_neg k4]
      have hs : spB N r = true := by
        rcases hc with h | h | h
        · exact absurd (tpB_yes h).1 k4
        · exact h
        · exact absurd h k1
      obtain ⟨l1, l2⟩ := sp_less hv hr hs
      rw [seqF_more n m _ (by omega) (by omega), seqF_more n m (s2N N r) (by omega) (by omega)]
theorem seqB_none {N : Nt} (h : lsV N = -1) : seqB N = false := by unfold seqB seqF; rw [if_pos h]
theorem seqB_ax {N : Nt} {r : Nat} (h : lsV N = (r : Int)) (h1 : (N.l.getD r Lk.nil).k = 1) : seqB N = true := by
  unfold seqB seqF; rw [h, if_neg (by omega), Int.toNat_natCast, if_pos h1]
theorem seqB_par {N : Nt} {r : Nat} (h : lsV N = (r : Int)) (hr : r < N.l.length) (h4 : (N.l.getD r Lk.nil).k = 4) : seqB N = seqB (opN N r) := by
  have := op_less hr
  unfold seqB
  rw [seqF_more ((opN N r).l.length + 1) N.l.length (opN N r) (by omega) (by omega)]
  rw [show seqF (N.l.length + 1) N = if lsV N = -1 then false else if (N.l.getD (lsV N).toNat Lk.nil).k = 1 then true else if (N.l.getD (lsV N).toNat Lk.nil).k = 4 then seqF N.l.length (opN N (lsV N).toNat) else seqF N.l.length (s1N N (lsV N).toNat) && seqF N.l.length (s2N N (lsV N).toNat) from rfl]
  rw [h, if_neg (by omega), Int.toNat_natCast, if_neg (by omega), if_pos h4]
theorem seqB_two {N : Nt} {r : Nat} (hv : valN N = true) (h : lsV N = (r : Int)) (hr : r < N.l.length) (h1 : ¬ (N.l.getD r Lk.nil).k = 1) (h4 : ¬ (N.l.getD r Lk.nil).k = 4) : spB N r = true ∧ seqB N = (seqB (s1N N r) && seqB (s2N N r)) := by
  have hs : spB N r = true := by
    rcases lsV_cases hv with e | ⟨q, e, _, hc⟩
    · omega
    · obtain rfl : q = r := by omega
      rcases hc with h | h | h
      · exact absurd (tpB_yes h).1 h4
      · exact h
      · exact absurd h h1
  obtain ⟨l1, l2⟩ := sp_less hv hr hs
  refine ⟨hs, ?_⟩
  unfold seqB
  rw [seqF_more ((s1N N r).l.length + 1) N.l.length (s1N N r) (by omega) (by omega), seqF_more ((s2N N r).l.length + 1) N.l.length (s2N N r) (by omega) (by omega)]
  show seqF (N.l.length + 1) N = _
  rw [show seqF (N.l.length + 1) N = if lsV N = -1 then false else if (N.l.getD (lsV N).toNat Lk.nil).k = 1 then true else if (N.l.getD (lsV N).toNat Lk.nil).k = 4 then seqF N.l.length (opN N (lsV N).toNat) else seqF N.l.length (s1N N (lsV N).toNat) && seqF N.l.length (s2N N (lsV N).toNat) from rfl]
  rw [h, if_neg (by omega), Int.toNat_natCast, if_neg h1, if_neg h4]
end Go.Proofs.YtgpocnapkflihaaGreatDoor
