/- Mathematics of chapter 15: what arcs connect; empires by switchings. The model: is an input chosen by a switching? Rows of arcs: what they read as; the program's arcs of a net. The program's ParLinks, SwitchingCount, SwitchingOf. -/
import Derived.Test.YtfdpkhiiboghiaaGreatDoorJQPaF
import Derived.Deep.RegionHeldLaw
import Derived.Deep.DeepCutAuto
import Derived.BigQuiet
import Derived.Test.YtfdpkhiiboghiaaGreatDoorJQSwM
import Derived.Test.YtfdpkhiiboghiaaGreatDoorJQSqM
namespace Go.Proofs.YtfdpkhiiboghiaaGreatDoor
set_option linter.unusedSimpArgs false
set_option linter.unusedVariables false
section
set_option linter.unusedSimpArgs false
set_option linter.unusedVariables false
open Go.ChangeAt Go.ChangeShapes Go.RowKit Go.WideShapes

/-- A set after an arc: if it holds one end it holds both. -/
def stepA (s : Nat) (a : Ac) : Nat := if s &&& orS [a.f, a.t] ≠ 0 then s ||| orS [a.f, a.t] else s
def passU (ar : List Ac) (s j : Nat) : Nat := (ar.take j).foldl stepA s
def conU (ar : List Ac) (s : Nat) : Nat → Nat
  | 0 => s
  | i + 1 => passU ar (conU ar s i) ar.length
def conS (ar : List Ac) (s : Nat) : Nat := conU ar s ar.length
theorem passU_succ {ar : List Ac} {s j : Nat} (h : j < ar.length) : passU ar s (j + 1) = stepA (passU ar s j) (ar.getD j Ac.nil) := by
  unfold passU; rw [takeL_succ (d := Ac.nil) h, List.foldl_append]; rfl
theorem ends_bit {n : Nat} {a : Ac} (hn : n ≤ 64) (h : inW n a.f = true ∧ inW n a.t = true) (k : Nat) : (orS [a.f, a.t]).testBit k = decide (k = a.f.toNat ∨ k = a.t.toNat) := by
  obtain ⟨_, f1, f2⟩ := inW_yes h.1
  obtain ⟨_, t1, t2⟩ := inW_yes h.2
  rw [orS_bit, decide_eq_decide, List.mem_cons, List.mem_singleton]
  omega
theorem stepA_is {n s : Nat} {a : Ac} (hn : n ≤ 64) (h : inW n a.f = true ∧ inW n a.t = true) (k : Nat) : (stepA s a).testBit k = (s.testBit k || ((s.testBit a.f.toNat || s.testBit a.t.toNat) && decide (k = a.f.toNat ∨ k = a.t.toNat))) := by
  unfold stepA
  have hb := ends_bit hn h
  by_cases e : s &&& orS [a.f, a.t] = 0
  · rw [if_neg (fun q => q e)]
    have hm := (meets_is _ _).1 e
    have h1 := hm a.f.toNat
    have h2 := hm a.t.toNat
    rw [hb] at h1 h2
    simp at h1 h2
    rw [h1, h2]; simp
  · rw [if_pos e, Nat.testBit_or, hb]
    have : (s.testBit a.f.toNat || s.testBit a.t.toNat) = true := by
      refine Decidable.byContradiction fun q => e ((meets_is _ _).2 fun k hk => q ?_)
      rw [hb, decide_eq_true_eq] at hk
      rcases hk.2 with e2 | e2
      · rw [← e2, hk.1]; rfl
      · rw [← e2, hk.1]; simp
    rw [this, Bool.true_and]
theorem stepA_lt {s : Nat} {a : Ac} (h : s < 2 ^ 64) : stepA s a < 2 ^ 64 := by
  unfold stepA; split
  · exact Nat.or_lt_two_pow h (orS_lt _)
  · exact h
theorem passU_lt {ar : List Ac} {s : Nat} (h : s < 2 ^ 64) : ∀ j, j ≤ ar.length → passU ar s j < 2 ^ 64
  | 0, _ => h
  | j + 1, hj => by rw [passU_succ (by omega)]; exact stepA_lt (passU_lt h j (by omega))
theorem conU_lt {ar : List Ac} {s : Nat} (h : s < 2 ^ 64) : ∀ i, conU ar s i < 2 ^ 64
  | 0 => h
  | i + 1 => passU_lt (conU_lt h i) _ (Nat.le_refl _)
/-- Sets grow. -/
theorem pass_more {n : Nat} {ar : List Ac} (hn : n ≤ 64) (hin : ArcsIn n ar) {s k : Nat} : ∀ j d, j + d ≤ ar.length → (passU ar s j).testBit k = true → (passU ar s (j + d)).testBit k = true
  | _, 0, _, h => h
  | j, d + 1, hd, h => by
    have := pass_more hn hin j d (by omega) h
    rw [show j + (d + 1) = (j + d) + 1 by omega, passU_succ (by omega), stepA_is hn (hin _ (getL_mem (d := Ac.nil) (by omega))), this]; rfl
/-- An arc with an end in the set at the start of a pass lies in it at its end. -/
theorem pass_arc {n : Nat} {ar : List Ac} (hn : n ≤ 64) (hin : ArcsIn n ar) {s j : Nat} (hj : j < ar.length) (h : s.testBit (ar.getD j Ac.nil).f.toNat = true ∨ s.testBit (ar.getD j Ac.nil).t.toNat = true) :
    (passU ar s ar.length).testBit (ar.getD j Ac.nil).f.toNat = true ∧ (passU ar s ar.length).testBit (ar.getD j Ac.nil).t.toNat = true := by
  have ha := hin _ (getL_mem (d := Ac.nil) hj)
  have h1 : ((passU ar s j).testBit (ar.getD j Ac.nil).f.toNat || (passU ar s j).testBit (ar.getD j Ac.nil).t.toNat) = true := by
    rw [Bool.or_eq_true]
    rcases h with h | h
    · left; have := pass_more hn hin (s := s) 0 j (by omega) h; rwa [Nat.zero_add] at this
    · right; have := pass_more hn hin (s := s) 0 j (by omega) h; rwa [Nat.zero_add] at this
  have h2 : ∀ k, k = (ar.getD j Ac.nil).f.toNat ∨ k = (ar.getD j Ac.nil).t.toNat → (passU ar s ar.length).testBit k = true := fun k hk => by
    have := pass_more hn hin (s := s) (k := k) (j + 1) (ar.length - (j + 1)) (by omega) (by
      rw [passU_succ hj, stepA_is hn ha, h1, decide_eq_true hk]; simp)
    rwa [show j + 1 + (ar.length - (j + 1)) = ar.length by omega] at this
  exact ⟨h2 _ (.inl rfl), h2 _ (.inr rfl)⟩
/-- All arcs lie in the set or outside it. -/
def shutA (ar : List Ac) (s : Nat) : Prop := ∀ j, j < ar.length → s.testBit (ar.getD j Ac.nil).f.toNat = s.testBit (ar.getD j Ac.nil).t.toNat
theorem pass_shut {n : Nat} {ar : List Ac} (hn : n ≤ 64) (hin : ArcsIn n ar) {s : Nat} (h : shutA ar s) : ∀ j, j ≤ ar.length → passU ar s j = s
  | 0, _ => rfl
  | j + 1, hj => by
    rw [passU_succ (by omega), pass_shut hn hin h j (by omega)]
    refine Nat.eq_of_testBit_eq fun k => ?_
    rw [stepA_is hn (hin _ (getL_mem (d := Ac.nil) (by omega)))]
    have := h j (by omega)
    by_cases e : k = (ar.getD j Ac.nil).f.toNat ∨ k = (ar.getD j Ac.nil).t.toNat
    · rw [decide_eq_true e, Bool.and_true]
      rcases e with e | e
      · subst e; rw [← this]; simp
      · subst e; rw [this]; simp
    · rw [decide_eq_false e]; simp
/-- How many arcs lie in a set. -/
def inA (ar : List Ac) (s : Nat) : Nat := (ar.filter fun a => s.testBit a.f.toNat && s.testBit a.t.toNat).length
theorem inA_grow : ∀ (ar : List Ac) {s s' : Nat}, (∀ a ∈ ar, s.testBit a.f.toNat = true → s.testBit a.t.toNat = true → s'.testBit a.f.toNat = true ∧ s'.testBit a.t.toNat = true) → inA ar s ≤ inA ar s' ∧ ((∃ a ∈ ar, (s.testBit a.f.toNat && s.testBit a.t.toNat) = false ∧ (s'.testBit a.f.toNat && s'.testBit a.t.toNat) = true) → inA ar s < inA ar s')
  | [], s, s', _ => ⟨Nat.le_refl _, fun ⟨a, ha, _⟩ => by cases ha⟩
  | a :: ar, s, s', h => by
    have ih := inA_grow ar (s := s) (s' := s') fun b hb => h b (by simp [hb])
    have h0 := h a (by simp)
    unfold inA at ih ⊢
    rw [List.filter_cons, List.filter_cons]
    cases c1 : (s.testBit a.f.toNat && s.testBit a.t.toNat) with
    | true =>
      rw [Bool.and_eq_true] at c1
      have := h0 c1.1 c1.2
      rw [this.1, this.2]
      simp only [Bool.and_self, if_true, List.length_cons]
      refine ⟨by omega, fun ⟨b, hb, q1, q2⟩ => ?_⟩
      rcases List.mem_cons.1 hb with e | hb
      · subst e; rw [c1.1, c1.2] at q1; cases q1
      · have := ih.2 ⟨b, hb, q1, q2⟩; omega
    | false =>
      rw [if_neg (by decide)]
      cases c2 : (s'.testBit a.f.toNat && s'.testBit a.t.toNat) with
      | true => rw [if_pos rfl, List.length_cons]; exact ⟨by omega, fun _ => by omega⟩
      | false =>
        rw [if_neg (by decide)]
        refine ⟨ih.1, fun ⟨b, hb, q1, q2⟩ => ?_⟩
        rcases List.mem_cons.1 hb with e | hb
        · subst e; rw [c2] at q2; cases q2
        · exact ih.2 ⟨b, hb, q1, q2⟩
theorem pass_grow {n : Nat} {ar : List Ac} (hn : n ≤ 64) (hin : ArcsIn n ar) (s : Nat) : shutA ar s ∨ inA ar s < inA ar (passU ar s ar.length) := by
  by_cases h : shutA ar s
  · exact .inl h
  · right
    have hx : ∃ j, j < ar.length ∧ ¬ s.testBit (ar.getD j Ac.nil).f.toNat = s.testBit (ar.getD j Ac.nil).t.toNat := by
      refine Decidable.byContradiction fun q => h fun j hj => Decidable.byContradiction fun e => q ⟨j, hj, e⟩
    obtain ⟨j, hj, e⟩ := hx
    refine (inA_grow ar fun a ha h1 h2 => ?_).2 ⟨ar.getD j Ac.nil, getL_mem hj, ?_, ?_⟩
    · have g : ∀ k, s.testBit k = true → (passU ar s ar.length).testBit k = true := fun k hk => by
        have := pass_more hn hin (s := s) (k := k) 0 ar.length (by omega) hk
        rwa [Nat.zero_add] at this
      exact ⟨g _ h1, g _ h2⟩
    · cases q1 : s.testBit (ar.getD j Ac.nil).f.toNat <;> cases q2 : s.testBit (ar.getD j Ac.nil).t.toNat <;> simp_all
    · have := pass_arc hn hin (s := s) hj (by
        cases q1 : s.testBit (ar.getD j Ac.nil).f.toNat <;> cases q2 : s.testBit (ar.getD j Ac.nil).t.toNat <;> simp_all)
      rw [this.1, this.2]; rfl
theorem con_grow {n : Nat} {ar : List Ac} (hn : n ≤ 64) (hin : ArcsIn n ar) (s : Nat) : ∀ i, shutA ar (conU ar s i) ∨ i ≤ inA ar (conU ar s i)
  | 0 => .inr (Nat.zero_le _)
  | i + 1 => by
    have step : shutA ar (conU ar s i) → shutA ar (conU ar s (i + 1)) := fun h => by
      show shutA ar (passU ar (conU ar s i) ar.length)
      rw [pass_shut hn hin h _ (Nat.le_refl _)]; exact h
    rcases con_grow hn hin s i with h | h
    · exact .inl (step h)
    · rcases pass_grow hn hin (conU ar s i) with q | q
      · exact .inl (step q)
      · right; show i + 1 ≤ inA ar (passU ar (conU ar s i) ar.length); omega
theorem con_shut {n : Nat} {ar : List Ac} (hn : n ≤ 64) (hin : ArcsIn n ar) (s : Nat) : shutA ar (conS ar s) := by
  rcases con_grow hn hin s ar.length with h | h
  · exact h
  · intro j hj
    have hall : ∀ a ∈ ar, ((conS ar s).testBit a.f.toNat && (conS ar s).testBit a.t.toNat) = true := by
      have h1 : inA ar (conS ar s) ≤ ar.length := List.length_filter_le _ _
      have h2 : inA ar (conS ar s) = ar.length := Nat.le_antisymm h1 h
      exact List.length_filter_eq_length_iff.1 h2
    have := hall _ (getL_mem (d := Ac.nil) hj)
    rw [Bool.and_eq_true] at this
    rw [this.1, this.2]
/-- The roots of what arcs connect. -/
def rtA (n : Nat) (ar : List Ac) : List Int := (runR n ar ar.length).1
theorem rtA_len (n : Nat) (ar : List Ac) : (rtA n ar).length = n := runR_len _ _ _ (Nat.le_refl _)
/-- What is closed under the arcs does not part what has one root. -/
theorem shut_root {n : Nat} {ar : List Ac} (hin : ArcsIn n ar) {s : Nat} (h : shutA ar s) : ∀ m, m ≤ ar.length → ∀ i j, i < n → j < n → (runR n ar m).1.getD i 0 = (runR n ar m).1.getD j 0 → s.testBit i = s.testBit j
  | 0, _, i, j, hi, hj, e => by
    rw [runR_zero] at e
    have e : (parts0 n).getD i 0 = (parts0 n).getD j 0 := e
    rw [parts0_at hi, parts0_at hj] at e
    rw [show i = j by omega]
  | m + 1, hm, i, j, hi, hj, e => by
    have ih := shut_root hin h m (by omega)
    have ha := hin _ (getL_mem (d := Ac.nil) (show m < ar.length by omega))
    have hf := (inW_yes ha.1).2.1
    have ht := (inW_yes ha.2).2.1
    have hl := runR_len n ar m (by omega)
    have hft := h m (by omega)
    rw [runR_succ (by omega)] at e
    unfold stepR at e; dsimp only at e
    rw [renP_at (by rw [hl]; exact hi), renP_at (by rw [hl]; exact hj)] at e
    have i1 := ih i (ar.getD m Ac.nil).f.toNat hi hf
    have i2 := ih i (ar.getD m Ac.nil).t.toNat hi ht
    have j1 := ih j (ar.getD m Ac.nil).f.toNat hj hf
    have j2 := ih j (ar.getD m Ac.nil).t.toNat hj ht
    have ij := ih i j hi hj
    generalize (runR n ar m).1.getD (ar.getD m Ac.nil).f.toNat 0 = a at *
    generalize (runR n ar m).1.getD (ar.getD m Ac.nil).t.toNat 0 = b at *
    generalize (runR n ar m).1.getD i 0 = x at *
    generalize (runR n ar m).1.getD j 0 = y at *
    have hx : x = a ∨ x = b → s.testBit i = s.testBit (ar.getD m Ac.nil).f.toNat := fun q => by
      rcases q with q | q
      · exact i1 q
      · rw [i2 q, hft]
    have hy : y = a ∨ y = b → s.testBit j = s.testBit (ar.getD m Ac.nil).f.toNat := fun q => by
      rcases q with q | q
      · exact j1 q
      · rw [j2 q, hft]
    by_cases exy : x = y
    · exact ij exy
    · rw [hx (by split at e <;> split at e <;> omega), hy (by split at e <;> split at e <;> omega)]
/-- The ends of the arcs have one root. -/
theorem sound_step {n : Nat} {ar : List Ac} (hn : n ≤ 64) (hin : ArcsIn n ar) {s r : Nat} (h : ∀ k, s.testBit k = true → k < n ∧ (rtA n ar).getD k 0 = (rtA n ar).getD r 0) : ∀ j, j ≤ ar.length → ∀ k, (passU ar s j).testBit k = true → k < n ∧ (rtA n ar).getD k 0 = (rtA n ar).getD r 0
  | 0, _, k, hk => h k hk
  | j + 1, hj, k, hk => by
    have ih := sound_step hn hin h j (by omega)
    have ha := hin _ (getL_mem (d := Ac.nil) (show j < ar.length by omega))
    have hc : (rtA n ar).getD (ar.getD j Ac.nil).f.toNat 0 = (rtA n ar).getD (ar.getD j Ac.nil).t.toNat 0 := runR_con hin _ (Nat.le_refl _) j (by omega)
    have hf := (inW_yes ha.1).2.1
    have ht := (inW_yes ha.2).2.1
    rw [passU_succ (by omega), stepA_is hn ha, Bool.or_eq_true, Bool.and_eq_true, Bool.or_eq_true, decide_eq_true_eq] at hk
    rcases hk with hk | ⟨hk1, hk2⟩
    · exact ih k hk
    · have hr : (rtA n ar).getD (ar.getD j Ac.nil).f.toNat 0 = (rtA n ar).getD r 0 := by
        rcases hk1 with q | q
        · exact (ih _ q).2
        · rw [hc]; exact (ih _ q).2
      rcases hk2 with q | q
      · subst q; exact ⟨hf, hr⟩
      · subst q; exact ⟨ht, by rw [← hc]; exact hr⟩
/-- The search finds what has the same root. -/
theorem conS_bit {n : Nat} {ar : List Ac} (hn : n ≤ 64) (hin : ArcsIn n ar) {r : Nat} (hr : r < n) (k : Nat) : (conS ar (shB (r : Int))).testBit k = (decide (k < n) && decide ((rtA n ar).getD k 0 = (rtA n ar).getD r 0)) := by
  have h0 : ∀ k, (shB (r : Int)).testBit k = decide (k = r) := fun k => by rw [shB_bit, decide_eq_decide]; omega
  have hs : ∀ i, ∀ k, (conU ar (shB (r : Int)) i).testBit k = true → k < n ∧ (rtA n ar).getD k 0 = (rtA n ar).getD r 0 := fun i => by
    induction i with
    | zero => intro k hk; rw [show conU ar (shB (r : Int)) 0 = shB (r : Int) from rfl, h0, decide_eq_true_eq] at hk; subst hk; exact ⟨hr, rfl⟩
    | succ i ih => intro k hk; exact sound_step hn hin ih _ (Nat.le_refl _) k hk
  have hrr : ∀ i, (conU ar (shB (r : Int)) i).testBit r = true := fun i => by
    induction i with
    | zero => rw [show conU ar (shB (r : Int)) 0 = shB (r : Int) from rfl, h0]; exact decide_eq_true rfl
    | succ i ih =>
      have := pass_more hn hin (s := conU ar (shB (r : Int)) i) (k := r) 0 ar.length (by omega) ih
      rwa [Nat.zero_add] at this
  rw [Bool.eq_iff_iff, Bool.and_eq_true, decide_eq_true_eq, decide_eq_true_eq]
  constructor
  · intro h; exact hs _ k h
  · rintro ⟨h1, h2⟩
    have := shut_root hin (con_shut hn hin (shB (r : Int))) _ (Nat.le_refl _) k r h1 hr h2
    rw [this]; exact hrr _
-- empires by switchings
/-- The arcs of a switching without those of a wire. -/
def arW (ar : List Ac) (x : Int) : List Ac := ar.filter fun a => !decide (a.w = x)
theorem arW_len (ar : List Ac) (x : Int) : (arW ar x).length ≤ ar.length := List.length_filter_le _ _
theorem arW_in {n : Nat} {ar : List Ac} (h : ArcsIn n ar) (x : Int) : ArcsIn n (arW ar x) := fun a ha => h a (List.mem_filter.1 ha).1
def swA (N : Nt) (x : Int) (y : Nat) : List Ac := arW (mgU N (swU (y : Int) (prkN N).length) N.w.length) x
def emW (N : Nt) (x : Int) (y i : Nat) : Bool := decide ((rtA N.l.length (swA N x y)).getD i 0 = (rtA N.l.length (swA N x y)).getD (frN N x) 0)
def seK (N : Nt) (x : Int) (j i : Nat) : Bool := (List.range j).all fun y => emW N x y i
def seL (N : Nt) (x : Int) (j : Nat) : List Int := selU (seK N x j) N.l.length
def seV (N : Nt) (x : Int) : List Int := if kgB N x = true then seL N x (2 ^ (prkN N).length) else []
theorem seL_len (N : Nt) (x : Int) (j : Nat) : (seL N x j).length ≤ N.l.length := selU_len _ _
theorem seV_len (N : Nt) (x : Int) : (seV N x).length ≤ 1048576 := by
  unfold seV
  split
  · next h => have := (kgB_yes h).2.2.1; have := seL_len N x (2 ^ (prkN N).length); omega
  · simp
theorem seK_succ (N : Nt) (x : Int) (j i : Nat) : seK N x (j + 1) i = (seK N x j i && emW N x j i) := by
  unfold seK; rw [List.range_succ, List.all_append]; simp
theorem seL_zero (N : Nt) (x : Int) : seL N x 0 = selU (fun _ => true) N.l.length := by
  unfold seL; exact selU_ext fun j _ => rfl
/-- The model keeps of its list what is connected in one switching more. -/
theorem selU_filt (p q : Nat → Bool) (n : Nat) : (selU p n).filter (fun x => q x.toNat) = selU (fun i => p i && q i) n := by
  unfold selU
  rw [List.filter_map, List.filter_filter]
  congr 1
  refine List.filter_congr fun x _ => ?_
  show (q ((x : Int)).toNat && p x) = _
  rw [Int.toNat_natCast, Bool.and_comm]
theorem seL_succ (N : Nt) (x : Int) (j : Nat) : seL N x (j + 1) = (seL N x j).filter fun i => emW N x j i.toNat := by
  unfold seL
  rw [selU_filt]
  exact selU_ext fun i _ => seK_succ N x j i
/-- The program's set after so many switchings. -/
def seS (N : Nt) (x : Int) : Nat → Nat
  | 0 => orS (markL 0 N.l.length)
  | j + 1 => seS N x j &&& conS (swA N x j) (shB (frN N x : Int))
theorem seS_lt (N : Nt) (x : Int) : ∀ j, seS N x j < 2 ^ 64
  | 0 => orS_lt _
  | j + 1 => Nat.lt_of_le_of_lt Nat.and_le_left (seS_lt N x j)
theorem seS_bit {N : Nt} (hv : valN N = true) {x : Int} (hx : inW N.w.length x = true) (hin : ∀ y, ArcsIn N.l.length (swA N x y)) : ∀ j k, (seS N x j).testBit k = (decide (k < N.l.length) && seK N x j k)
  | 0, k => by
    have h48 := (valN_size hv).2
    show (orS (markL 0 N.l.length)).testBit k = _
    rw [all_bit (by omega)]
    show _ = (_ && true)
    rw [Bool.and_true]
  | j + 1, k => by
    have h48 := (valN_size hv).2
    show (seS N x j &&& conS (swA N x j) (shB (frN N x : Int))).testBit k = _
    rw [Nat.testBit_and, seS_bit hv hx hin j, conS_bit (by omega) (hin j) (fr_lt hv hx).2, seK_succ]
    unfold emW
    cases decide (k < N.l.length) <;> simp
theorem se_prog {N : Nt} (hv : valN N = true) {x : Int} (hx : inW N.w.length x = true) (hin : ∀ y, ArcsIn N.l.length (swA N x y)) (j : Nat) : lkS (seS N x j) = seL N x j := by
  have h48 := (valN_size hv).2
  exact lks_of (by omega) (seS_bit hv hx hin j)
end
section
set_option linter.unusedSimpArgs false
set_option linter.unusedVariables false
open Go.ChangeAt Go.ChangeShapes Go.RowKit Go.WideShapes

theorem prk_find {L : List Int} {k : Int} {i : Nat} (hi : i < L.length) (hno : ∀ j, j < i → (L.getD j 0 == k) = false) (he : (L.getD i 0 == k) = true) : L.findIdx? (fun p => p == k) = some i := by
  rw [List.findIdx?_eq_some_iff_getElem]
  refine ⟨hi, by simpa [List.getD, hi] using he, fun j hj => ?_⟩
  have := hno j hj
  have hj2 : j < L.length := by omega
  simpa [List.getD, hj2] using this
theorem cho_at {N : Nt} {s : List Int} {k x : Int} {i : Nat} (hi : i < (prkN N).length) (hno : ∀ j, j < i → ((prkN N).getD j 0 == k) = false) (he : ((prkN N).getD i 0 == k) = true) :
    choB N s k x = ((decide (s.getD i 0 = 0) && decide ((N.l.getD k.toNat Lk.nil).a = x)) || (decide (s.getD i 0 = 1) && decide ((N.l.getD k.toNat Lk.nil).b = x))) := by
  unfold choB; rw [prk_find hi hno he]
theorem cho_none {N : Nt} {s : List Int} {k x : Int} (hno : ∀ j, j < (prkN N).length → ((prkN N).getD j 0 == k) = false) : choB N s k x = true := by
  have e : (prkN N).findIdx? (fun p => p == k) = none := by
    rw [List.findIdx?_eq_none_iff]
    intro l hl
    obtain ⟨j, hj, rfl⟩ := List.getElem_of_mem hl
    have := hno j hj
    simpa [List.getD, hj] using this
  unfold choB; rw [e]
theorem all_stepC {p : Nat → Prop} {k : Nat} (h : ∀ j, j < k → p j) (hk : p k) : ∀ j, j < k + 1 → p j := fun j hj => by
  by_cases e : j < k
  · exact h j e
  · obtain rfl : j = k := by omega
    exact hk
set_option maxRecDepth 100000 in
set_option maxHeartbeats 1000000 in
theorem sChosen_any (h : NH) (N : Nt) (s : List Int) (S : Option Addr) (sc : Nat) (kk : Nat) (x : Int) (w : World) (hsw : isSw N s = true) (hkk : kk < N.l.length) (r : RdN w w.heap.size h N) (rS : RdI w w.heap.size S s.length s) :
    Calls Tryz.prog 124 #[.agg #[.slice h.A N.w.length h.c, .slice h.L N.l.length h.d, .slice h.C N.c.length h.e], .slice S s.length sc, .int .i64 kk, .int .i64 x] w fun e w' => e = .returned (.bool (choB N s kk x)) ∧ Below w.heap.size w w' := by
  obtain ⟨hvt, hsl, hs01⟩ := isSw_yes hsw
  obtain ⟨h48, h48l⟩ := valN_size hvt
  have hpl := prkN_len N
  obtain ⟨w0, hw0⟩ : ∃ w0, w0 = w.alloc (.cells #[.slice h.A N.w.length h.c, .slice h.L N.l.length h.d, .slice h.C N.c.length h.e] 30) := ⟨_, rfl⟩
  obtain ⟨hb, hh, hsz⟩ := box3_any w (.slice h.A N.w.length h.c) (.slice h.L N.l.length h.d) (.slice h.C N.c.length h.e) 30
  rw [← hw0] at hb hh hsz
  have hs0 : w.heap.size + 1 ≤ w0.heap.size := by omega
  have HK : Hid (∀ w', Below w0.heap.size w0 w' → w'.cell? ⟨w.heap.size, 0, none⟩ = some (.slice h.A N.w.length h.c) ∧ w'.cell? ⟨w.heap.size, 1, none⟩ = some (.slice h.L N.l.length h.d) ∧ w'.cell? ⟨w.heap.size, 2, none⟩ = some (.slice h.C N.c.length h.e)) := Lib.hid fun w' hw => three_cells ((hw.block _ (by omega)).trans hh)
  have HP := Lib.hid (fun (w' : World) (hw : Below w0.heap.size w0 w') => sPars_any h N w' ((r.below (hb.trans (hw.mono hb.size))).more (Nat.le_trans hb.size hw.size)) (by omega))
  have HR := Lib.hid (fun (w' : World) (hw : Below w0.heap.size w0 w') => ((r.below (hb.trans (hw.mono hb.size))).more (Nat.le_trans hb.size hw.size)))
  have HRS := Lib.hid (fun (w' : World) (hw : Below w0.heap.size w0 w') => show RdI w' w'.heap.size S s.length s from ((rS.below (hb.trans (hw.mono hb.size))).more (Nat.le_trans hb.size hw.size)))
  have HB0 := Lib.hid hb
  have HSL := Lib.hid hsl; have HS01 := Lib.hid hs01
  obtain ⟨y0, y1, y2⟩ := three_cells hh
  clear hb hh hsz r rS hvt hsw hsl hs01
  go_enter Tryz.func124, Tryz.ntmps124
  go_wp2_with (fail)
  rw [← hw0]
  clear hw0
  refine (HP.out _ (Below.refl _ _)).mono ?_
  rintro e w1 ⟨A1, c1, rfl, own1, bel1⟩
  have B1 := Lib.hid bel1
  have R1 := Lib.hid (RdI.of_own own1)
  clear own1 bel1 y0 y1 y2 HP
  go_wp2
  go_loopw [10] (fun i wx => ∃ k : Nat, k ≤ (prkN N).length ∧ i = .int .i64 k ∧ (∀ j, j < k → ((prkN N).getD j 0 == (kk : Int)) = false) ∧ Below w1.heap.size w1 wx) (fun i _ => (prkN N).length - (intOf i).toNat)
  case atStart => exact ⟨0, Nat.zero_le _, rfl, fun j hj => absurd hj (by omega), Below.refl _ _⟩
  case round =>
    obtain ⟨k, hk, rfl, hno, hB⟩ := hrel
    have HB := Lib.hid hB
    have HN := Lib.hid hno
    have hB01 := B1.out.trans (hB.mono B1.out.size)
    clear hno
    by_cases hlt : k < (prkN N).length
    · obtain ⟨bp, op, hAp, hbp, hcp⟩ := ((R1.out.below hB).more hB.size).2 (by omega)
      obtain ⟨bs, os, hAs, hbs, hcs⟩ := (HRS.out _ hB01).2 (by have := HSL.out; omega)
      obtain ⟨bl, ol, hAl, hbl, hcl⟩ := (HR.out _ hB01).2.1.at (by omega)
      obtain ⟨y0, y1, y2⟩ := HK.out _ hB01
      have cp := hcp k hlt
      have cs := hcs k (by have := HSL.out; omega)
      obtain ⟨_, x1, x2, _⟩ := hcl kk hkk
      have hks : (k : Int) < (s.length : Int) := by have := HSL.out; omega
      have HAT := Lib.hid (fun e => cho_at (N := N) (s := s) (k := (kk : Int)) (x := x) (i := k) hlt HN.out e)
      have HZ := HS01.out _ (getL_mem (d := 0) (show k < s.length by have := HSL.out; omega))
      have HST := Lib.hid (fun e => all_stepC (p := fun j => ((prkN N).getD j 0 == (kk : Int)) = false) HN.out e)
      rw [Int.toNat_natCast] at HAT
      generalize (prkN N).getD k 0 = p at *
      generalize s.getD k 0 = z at *
      generalize (N.l.getD kk Lk.nil).a = la at *
      generalize (N.l.getD kk Lk.nil).b = lb at *
      have HBB := Lib.hid (HB0.out.trans (hB01.mono HB0.out.size))
      subst hAp; subst hAs
      rw [hAl] at y1
      clear hcp hcs hcl hB hB01
      by_cases hp : p = kk
      · have hd : (p == (kk : Int)) = true := by simp [hp]
        have HE := Lib.hid (HAT.out hd)
        clear hp HAT HST
        rcases HZ with rfl | rfl
        · by_cases ha : la = x
          · have da : (la == x) = true := by simp [ha]
            have HE1 : Hid (true = choB N s kk x) := Lib.hid (by rw [HE.out]; simp [ha])
            clear ha
            go_wp2
            go_ret
            exact ⟨ret_bool HE1.out, HBB.out⟩
          · have da : (la == x) = false := by simp [ha]
            have HE1 : Hid (false = choB N s kk x) := Lib.hid (by rw [HE.out]; simp [ha])
            clear ha
            go_wp2
            go_ret
            exact ⟨ret_bool HE1.out, HBB.out⟩
        · by_cases ha : lb = x
          · have da : (lb == x) = true := by simp [ha]
            have HE1 : Hid (true = choB N s kk x) := Lib.hid (by rw [HE.out]; simp [ha])
            clear ha
            go_wp2
            go_ret
            exact ⟨ret_bool HE1.out, HBB.out⟩
          · have da : (lb == x) = false := by simp [ha]
            have HE1 : Hid (false = choB N s kk x) := Lib.hid (by rw [HE.out]; simp [ha])
            clear ha
            go_wp2
            go_ret
            exact ⟨ret_bool HE1.out, HBB.out⟩
      · have hd : (p == (kk : Int)) = false := by simp [hp]
        have HS2 := Lib.hid (HST.out hd)
        clear hp HAT HST
        go_wp2
        go_roundw
        case rel => exact ⟨k + 1, by omega, by go_num, HS2.out, HB.out⟩
        case measure => simp [intOf]; omega
    · have hkl : k = (prkN N).length := by omega
      subst hkl
      have HE1 : Hid (true = choB N s kk x) := Lib.hid (cho_none HN.out).symm
      have HBB := Lib.hid (HB0.out.trans (hB01.mono HB0.out.size))
      go_wp2
      go_ret
      exact ⟨ret_bool HE1.out, HBB.out⟩
end
section
set_option linter.unusedSimpArgs false
set_option linter.unusedVariables false
open Go.ChangeAt Go.ChangeShapes Go.RowKit Go.WideShapes

/-- The cells of a row of arcs. -/
def flA : List Ac → List Int
  | [] => []
  | a :: ar => a.w :: a.f :: a.t :: flA ar
theorem flA_len : ∀ ar : List Ac, (flA ar).length = ar.length * 3
  | [] => rfl
  | a :: ar => by simp only [flA, List.length_cons, flA_len ar]; omega
theorem flA_app : ∀ xs ys : List Ac, flA (xs ++ ys) = flA xs ++ flA ys
  | [], _ => rfl
  | x :: xs, ys => by simp only [flA, List.cons_append, flA_app xs ys]
theorem flA_at : ∀ (ar : List Ac) (i : Nat), i < ar.length → (flA ar).getD (i * 3) 0 = (ar.getD i Ac.nil).w ∧ (flA ar).getD (i * 3 + 1) 0 = (ar.getD i Ac.nil).f ∧ (flA ar).getD (i * 3 + 2) 0 = (ar.getD i Ac.nil).t
  | [], i, h => absurd h (by simp)
  | a :: ar, 0, _ => ⟨rfl, rfl, rfl⟩
  | a :: ar, i + 1, h => by
    have ih := flA_at ar i (by simpa using h)
    have e : ∀ t, (flA (a :: ar)).getD ((i + 1) * 3 + t) 0 = (flA ar).getD (i * 3 + t) 0 := fun t => by
      have : (i + 1) * 3 + t = i * 3 + t + 1 + 1 + 1 := by omega
      rw [this]; rfl
    have e0 := e 0
    rw [Nat.add_zero, Nat.add_zero] at e0
    rw [e0, e 1, e 2]
    exact ih
/-- The slice value '.slice A n c' reads as the arcs ar, below block B. -/
def RdA (w : World) (B : Nat) (A : Option Addr) (n : Nat) (ar : List Ac) : Prop := ar.length = n ∧ RdI w B A (n * 3) (flA ar)
section
variable {w w' : World} {B B' n : Nat} {A : Option Addr} {ar : List Ac}
theorem RdA.below (h : RdA w B A n ar) (hb : Below B w w') : RdA w' B A n ar := ⟨h.1, h.2.below hb⟩
theorem RdA.more (h : RdA w B A n ar) (hB : B ≤ B') : RdA w B' A n ar := ⟨h.1, h.2.more hB⟩
/-- The cells of each arc. -/
theorem RdA.at (h : RdA w B A n ar) (hn : 0 < n) : ∃ b off, A = some ⟨b, off, none⟩ ∧ b < B ∧ ∀ i, i < n → w.cell? ⟨b, off + i * 3, none⟩ = some (.int .i64 (ar.getD i Ac.nil).w) ∧ w.cell? ⟨b, off + i * 3 + 1, none⟩ = some (.int .i64 (ar.getD i Ac.nil).f) ∧ w.cell? ⟨b, off + i * 3 + 2, none⟩ = some (.int .i64 (ar.getD i Ac.nil).t) := by
  obtain ⟨b, off, e, hb, hc⟩ := h.2.2 (by omega)
  refine ⟨b, off, e, hb, fun i hi => ?_⟩
  obtain ⟨f0, f1, f2⟩ := flA_at ar i (by rw [h.1]; exact hi)
  refine ⟨?_, ?_, ?_⟩
  · rw [hc (i * 3) (by omega), f0]
  · rw [Nat.add_assoc, hc (i * 3 + 1) (by omega), f1]
  · rw [Nat.add_assoc, hc (i * 3 + 2) (by omega), f2]
theorem RdA.of_own {lo c : Nat} (h : w.ownsRow lo 85 3 (.slice A ar.length c) ar.length ((flA ar).map (Value.int .i64))) : RdA w w.heap.size A ar.length ar := by
  refine ⟨rfl, by rw [flA_len], fun hn => ?_⟩
  obtain ⟨g, cap, hv, hlo, hhi⟩ := h.form (by omega)
  injection hv with e1 e2 e3
  subst e1
  refine ⟨g, 0, rfl, hhi, fun j hj => ?_⟩
  rw [Nat.zero_add, h.cellAt (g := g) j (by omega), List.getElem?_map]
  have hj2 : j < (flA ar).length := by rw [flA_len]; exact hj
  simp [List.getD, hj2]
end
/-- What a function leaves that hands back a row of arcs. -/
def GivesA (w : World) (ar : List Ac) (e : Ending) (w' : World) : Prop :=
  ∃ A c, e = .returned (.slice A ar.length c) ∧ w'.ownsRow w.heap.size 85 3 (.slice A ar.length c) ar.length ((flA ar).map (Value.int .i64)) ∧ Below w.heap.size w w'
theorem own_shape3 {w : World} {base n : Nat} {e : TypeId} {v : Value} {xs : List Value} (h : w.ownsRow base e 3 v n xs) : ∃ A c, v = .slice A n c := by
  rcases h.2 with ⟨rfl, rfl⟩ | ⟨g, cap, cur, rfl, _, _, hn, _⟩
  · exact ⟨_, _, rfl⟩
  · exact ⟨_, _, rfl⟩
theorem info_arc : (Tryz.prog.info? 85).map (fun i => (i.zero, i.size, i.bytes)) = some (some (.agg #[.int .i64 0, .int .i64 0, .int .i64 0]), 3, 24) := by kernel_rfl
theorem lxN_in (p : Lk → List Int) (N : Nt) (x : Int) : -1 ≤ lxN p N x ∧ lxN p N x < N.l.length := by
  rcases lxN_cases p N x with ⟨j, hj, _, e⟩ | ⟨_, e⟩ <;> rw [e] <;> omega
theorem three_new (w : World) (a b c : Value) (t : TypeId) : ∀ j u, [a, b, c][j]? = some u → (w.alloc (.cells #[a, b, c] t)).cell? ((⟨w.heap.size, 0, none⟩ : Addr).add j) = some u := by
  intro j u hu
  have ea : (⟨w.heap.size, 0, none⟩ : Addr).add j = ⟨w.heap.size, j, none⟩ := by simp [Addr.add]; omega
  rw [ea, cell_of_row _ _ j _ _ (0, 0) (heap_alloc_new w _)]
  simpa using hu
set_option maxRecDepth 100000 in
set_option maxHeartbeats 1000000 in
theorem arcsOf_any (h : NH) (N : Nt) (w : World) (hv : valN N = true) (r : RdN w w.heap.size h N) :
    Calls Tryz.prog 125 #[.agg #[.slice h.A N.w.length h.c, .slice h.L N.l.length h.d, .slice h.C N.c.length h.e]] w (GivesA w (arcsU N N.w.length)) := by
  obtain ⟨h48, h48l⟩ := valN_size hv
  obtain ⟨i3, hi3, hz3, hs3, hb3⟩ := info_parts info_arc
  have HI := Lib.hid hi3; have HZ0 := Lib.hid hz3; have HZ1 := Lib.hid hs3; have HZ2 := Lib.hid hb3
  obtain ⟨w0, hw0⟩ : ∃ w0, w0 = w.alloc (.cells #[.slice h.A N.w.length h.c, .slice h.L N.l.length h.d, .slice h.C N.c.length h.e] 30) := ⟨_, rfl⟩
  obtain ⟨hb, hh, hsz⟩ := box3_any w (.slice h.A N.w.length h.c) (.slice h.L N.l.length h.d) (.slice h.C N.c.length h.e) 30
  rw [← hw0] at hb hh hsz
  have HK : Hid (∀ w', Below w0.heap.size w0 w' → w'.cell? ⟨w.heap.size, 0, none⟩ = some (.slice h.A N.w.length h.c) ∧ w'.cell? ⟨w.heap.size, 1, none⟩ = some (.slice h.L N.l.length h.d) ∧ w'.cell? ⟨w.heap.size, 2, none⟩ = some (.slice h.C N.c.length h.e)) := Lib.hid fun w' hw => three_cells ((hw.block _ (by omega)).trans hh)
  have HO := Lib.hid (fun (wx : World) (hx : Below w0.heap.size w0 wx) => linksOut_any h N wx hv ((r.below (hb.trans (hx.mono hb.size))).more (Nat.le_trans hb.size hx.size)))
  have HIN := Lib.hid (fun (wx : World) (hx : Below w0.heap.size w0 wx) => linksIn_any h N wx hv ((r.below (hb.trans (hx.mono hb.size))).more (Nat.le_trans hb.size hx.size)))
  have HB0 := Lib.hid hb
  obtain ⟨y0, y1, y2⟩ := three_cells hh
  clear hb hh hsz r hi3 hz3 hs3 hb3
  go_enter Tryz.func125, Tryz.ntmps125
  go_upto_region 1 with (fail)
  rw [← hw0]
  clear hw0
  go_cut [3, 4] (fun v3 v4 wx => ∃ A c B d, v3 = .slice A (lxL outL N).length c ∧ v4 = .slice B (lxL inL N).length d ∧ RdI wx wx.heap.size A (lxL outL N).length (lxL outL N) ∧ RdI wx wx.heap.size B (lxL inL N).length (lxL inL N) ∧ Below w0.heap.size w0 wx)
  case first =>
    go_region_with (first
      | (go_at_call 120; refine (HO.out _ (Below.refl _ _).drew).mono ?_; rintro e w3 ⟨A3, c3, rfl, own3, bel3⟩; have B3 := Lib.hid (((Below.refl w0.heap.size w0).drew).trans bel3); have R3 := Lib.hid (RdI.of_own own3); have y1' := HK.out _ B3.out; obtain ⟨z0, z1, z2⟩ := y1'; clear own3 bel3 HO)
      | (go_at_call 120; refine (HIN.out _ B3.out).mono ?_; rintro e w4 ⟨A4, c4, rfl, own4, bel4⟩; have B4 := Lib.hid (B3.out.trans (bel4.mono B3.out.size)); have R4 := Lib.hid (RdI.of_own own4); have R34 := Lib.hid ((R3.out.below bel4).more bel4.size); clear own4 bel4))
    all_goals (try go_wp2_with (fail))
    all_goals go_meet
    all_goals exact ⟨A3, c3, A4, c4, rfl, rfl, R34.out, R4.out, B4.out⟩
  case rest =>
    obtain ⟨A, c, B, d, rfl, rfl, RA, RB, hBc⟩ := hcut
    have RA1 := Lib.hid RA; have RB1 := Lib.hid RB; have HBC := Lib.hid hBc
    have HLO := Lib.hid (lxL_len outL N); have HLI := Lib.hid (lxL_len inL N)
    clear RA RB hBc HIN y0 y1 y2
    have hl1 : (lxL inL N).length ≤ 48 := by rw [HLI.out]; exact h48
    go_wp2
    go_loopw [5, 14] (fun v i wr => ∃ k : Nat, k ≤ (lxL inL N).length ∧ i = .int .i64 k ∧ wr.ownsRow wc.heap.size 85 3 v (arcsU N k).length ((flA (arcsU N k)).map (Value.int .i64)) ∧ Below wc.heap.size wc wr) (fun _ i _ => (lxL inL N).length - (intOf i).toNat)
    case atStart => exact ⟨0, Nat.zero_le _, rfl, World.ownsRow_nil _ _ _ _, Below.refl _ _⟩
    case round =>
      obtain ⟨k, hk, rfl, hO, hB⟩ := hrel
      by_cases hlt : k < (lxL inL N).length
      · have hkw : k < N.w.length := by rw [← HLI.out]; exact hlt
        obtain ⟨bB, oB, hBe, hbb, hcb⟩ := RB1.out.2 (by omega)
        obtain ⟨bA, oA, hAe, hba, hca⟩ := RA1.out.2 (by rw [HLO.out]; omega)
        have cb := (hB.cell (p := ⟨bB, oB + k, none⟩) (by show bB < _; omega)).trans (hcb k hlt)
        have ca := (hB.cell (p := ⟨bA, oA + k, none⟩) (by show bA < _; omega)).trans (hca k (by rw [HLO.out]; exact hkw))
        rw [lxL_at inL N hkw] at cb
        rw [lxL_at outL N hkw] at ca
        have HYE := Lib.hid (fun e => arcsU_yes (N := N) (k := k) e)
        have HNO := Lib.hid (fun e => arcsU_no (N := N) (k := k) e)
        have HAR : Hid (arcA N k = ⟨(k : Int), lxN outL N (k : Int), lxN inL N (k : Int)⟩) := Lib.hid rfl
        have hln := arcsU_len N k
        have hkA : (k : Int) < ((lxL outL N).length : Int) := by rw [HLO.out]; omega
        have HO := Lib.hid hO; have HB := Lib.hid hB
        have hsz1 := hB.size
        generalize lxN outL N (k : Int) = p at *
        generalize lxN inL N (k : Int) = q at *
        subst hBe; subst hAe
        clear hO hB hcb hca
        by_cases hq : q = -1
        · have hd : (q != -1) = false := by simp [hq]
          have HS := Lib.hid (HNO.out hq)
          have HO1 := HO.out
          rw [← HS.out] at HO1
          have HO2 := Lib.hid HO1
          clear hq HO1
          go_wp2
          go_roundw
          case rel => exact ⟨k + 1, by omega, by go_num, HO2.out, HB.out⟩
          case measure => simp [intOf]; omega
        · have hd : (q != -1) = true := by simp [hq]
          have HS := Lib.hid (HYE.out hq)
          have HLN : Hid ((arcsU N (k + 1)).length = (arcsU N k).length + 1) := Lib.hid (by rw [HS.out]; simp)
          clear hq
          go_wp2_with (at_builtin; refine wpList_append_own _ rfl _ _ 82 rfl wc.heap.size 85 i3 (.agg #[.int .i64 0, .int .i64 0, .int .i64 0]) 3 24 Tryz.underlying82 HI.out HZ0.out HZ1.out HZ2.out rfl (by decide) _ _ _ rfl (HO.out.alloc _) ⟨wr.heap.size, 0, none⟩ 1 1 [.int .i64 k, .int .i64 p, .int .i64 q] rfl rfl ?c1 ?c2 ?c3 ?c4 ?c5 ?_)
          case c1 => exact three_new _ _ _ _ _
          case c2 => intro u hu; simp at hu; rcases hu with rfl | rfl | rfl <;> rfl
          case c3 => unfold maxLen; omega
          case c4 => omega
          case c5 => simp; omega
          intro v' w2 hown' hgrow _
          have hb2 := Lib.hid ((HB.out.alloc hsz1 (.cells #[.int .i64 k, .int .i64 p, .int .i64 q] 85)).grown hgrow (by simp; omega) (fun q hq => (HO.out.lt q hq).1))
          have hown2 : w2.ownsRow wc.heap.size 85 3 v' (arcsU N (k + 1)).length ((flA (arcsU N (k + 1))).map (Value.int .i64)) := by
            rw [HLN.out, HS.out, flA_app, List.map_append, HAR.out]; exact hown'
          have hown1 := Lib.hid hown2
          clear hown' hgrow hown2 hsz1
          go_wp2
          go_roundw
          case rel => exact ⟨k + 1, by omega, by go_num, hown1.out, hb2.out⟩
          case measure => simp [intOf]; omega
      · have hkl : k = N.w.length := by rw [← HLI.out]; omega
        subst hkl
        obtain ⟨A5, c5, rfl⟩ := own_shape3 hO
        have HG : Hid (GivesA w (arcsU N N.w.length) (.returned (.slice A5 (arcsU N N.w.length).length c5)) wr) := Lib.hid ⟨A5, c5, rfl, hO.mono (Nat.le_trans HB0.out.size HBC.out.size), HB0.out.trans ((HBC.out.trans (hB.mono HBC.out.size)).mono HB0.out.size)⟩
        clear hO hB
        go_wp2
        go_ret
        exact HG.out
end
section
set_option linter.unusedSimpArgs false
set_option linter.unusedVariables false
open Go.ChangeAt Go.ChangeShapes Go.RowKit Go.WideShapes

set_option maxRecDepth 100000 in
set_option maxHeartbeats 2000000 in
theorem parLinks_impl (h : NH) (N : Nt) (w : World) (r : RdN w w.heap.size h N) (sm : SmallN N) (ht : Arit w) (hu : Dual w) :
    Calls Tryz.prog 126 #[.agg #[.slice h.A N.w.length h.c, .slice h.L N.l.length h.d, .slice h.C N.c.length h.e]] w (Gives w (kinN N 4)) := by
  obtain ⟨w0, hw0⟩ : ∃ w0, w0 = w.alloc (.cells #[.slice h.A N.w.length h.c, .slice h.L N.l.length h.d, .slice h.C N.c.length h.e] 30) := ⟨_, rfl⟩
  obtain ⟨hb, hh, hsz⟩ := box3_any w (.slice h.A N.w.length h.c) (.slice h.L N.l.length h.d) (.slice h.C N.c.length h.e) 30
  rw [← hw0] at hb hh hsz
  have HP := Lib.hid (linksOfKind_impl h N 4 w0 ((r.below hb).more hb.size) sm (ht.below hb ht.lt) (hu.below hb hu.lt))
  have HB0 := Lib.hid hb
  obtain ⟨y0, y1, y2⟩ := three_cells hh
  clear hb hh hsz r ht hu sm
  generalize kinN N 4 = V at *
  go_enter Tryz.func126, Tryz.ntmps126
  go_wp2_with (fail)
  rw [← hw0]
  clear hw0
  refine HP.out.mono ?_
  rintro e w2 ⟨A, c, rfl, own2, bel2⟩
  have HG : Hid (Gives w V (.returned (.slice A V.length c)) w2) := Lib.hid ⟨A, c, rfl, own2.mono HB0.out.size, HB0.out.trans (bel2.mono HB0.out.size)⟩
  clear own2 bel2
  go_wp2
  go_ret
  exact HG.out
end
end Go.Proofs.YtfdpkhiiboghiaaGreatDoor
