/- Valid nets: plain mathematics. -/
import Derived.Test.YtjfhbofgnagfaaaDoorNetM
import Derived.Test.YtjfhbofgnagfaaaDoorFrag
namespace Go.Proofs.YtjfhbofgnagfaaaDoor
open Go.ChangeAt Go.ChangeShapes Go.RowKit Go.WideShapes

/-- A formula of a net. -/
def formN (q : List Int) : Bool := decide (0 ≤ fragV q ∧ fragV q ≤ 1)
theorem formN_valid {q : List Int} (h : formN q = true) : validB q = true := by
  cases hv : validB q with
  | true => rfl
  | false => unfold formN at h; rw [fragV_no hv] at h; simp at h
/-- A number below n. -/
def inW (n : Nat) (x : Int) : Bool := decide (0 ≤ x ∧ x ≤ (n : Int) - 1)
theorem inW_yes {n : Nat} {x : Int} (h : inW n x = true) : 0 ≤ x ∧ x.toNat < n ∧ x = (x.toNat : Nat) := by
  have := of_decide_eq_true h
  omega
/-- The formula of a wire. -/
def wAt (ws : List (List Int)) (x : Int) : List Int := ws.getD x.toNat []
theorem wAt_valid {ws : List (List Int)} {x : Int} (hf : ws.all formN = true) (h : inW ws.length x = true) : formN (wAt ws x) = true := by
  obtain ⟨_, h1, _⟩ := inW_yes h
  exact (List.all_eq_true.1 hf) _ (getD_mem h1)
/-- What the formulas of a link must be. -/
def rightN (ws : List (List Int)) (l : Lk) : Bool :=
  if l.k = 1 ∨ l.k = 2 then decide (l.c = 0) && decide (wAt ws l.b = (wAt ws l.a).map duZ)
  else if l.k = 3 then decide (wAt ws l.c = 11 :: (wAt ws l.a ++ wAt ws l.b))
  else if l.k = 4 then decide (wAt ws l.c = 12 :: (wAt ws l.a ++ wAt ws l.b)) else false
def fitsN (ws : List (List Int)) (l : Lk) : Bool := inW ws.length l.a && (inW ws.length l.b && (inW ws.length l.c && rightN ws l))
theorem fitsN_yes {ws : List (List Int)} {l : Lk} (h : fitsN ws l = true) : inW ws.length l.a = true ∧ inW ws.length l.b = true ∧ inW ws.length l.c = true ∧ rightN ws l = true := by
  simp only [fitsN, Bool.and_eq_true] at h
  exact h
theorem fitsN_kind {ws : List (List Int)} {l : Lk} (h : fitsN ws l = true) : l.k = 1 ∨ l.k = 2 ∨ l.k = 3 ∨ l.k = 4 := by
  have := (fitsN_yes h).2.2.2
  unfold rightN at this
  by_cases h1 : l.k = 1 ∨ l.k = 2
  · omega
  · rw [if_neg h1] at this
    by_cases h3 : l.k = 3
    · omega
    · rw [if_neg h3] at this
      by_cases h4 : l.k = 4
      · omega
      · rw [if_neg h4] at this; cases this
/-- One, if. -/
def one (p : Prop) [Decidable p] : Int := if p then 1 else 0
theorem one_le (p : Prop) [Decidable p] : 0 ≤ one p ∧ one p ≤ 1 := by unfold one; split <;> omega
/-- How often a link makes, or uses, a wire. -/
def mk1 (l : Lk) (x : Nat) : Int := if l.k = 1 then one (l.a.toNat = x) + one (l.b.toNat = x) else if l.k = 2 then 0 else one (l.c.toNat = x)
def us1 (l : Lk) (x : Nat) : Int := if l.k = 1 then 0 else one (l.a.toNat = x) + one (l.b.toNat = x)
theorem mk1_le (l : Lk) (x : Nat) : 0 ≤ mk1 l x ∧ mk1 l x ≤ 2 := by
  have h1 := one_le (l.a.toNat = x); have h2 := one_le (l.b.toNat = x); have h3 := one_le (l.c.toNat = x)
  unfold mk1; split
  · omega
  · split <;> omega
theorem us1_le (l : Lk) (x : Nat) : 0 ≤ us1 l x ∧ us1 l x ≤ 2 := by
  have h1 := one_le (l.a.toNat = x); have h2 := one_le (l.b.toNat = x)
  unfold us1; split <;> omega
def madeN (ls : List Lk) (x : Nat) : Int := (ls.map fun l => mk1 l x).sum
def usedN (ls : List Lk) (x : Nat) : Int := (ls.map fun l => us1 l x).sum
def concN (cs : List Int) (x : Nat) : Int := (cs.map fun c => one (c.toNat = x)).sum
theorem getL_mem {α : Type} {d : α} {l : List α} {k : Nat} (h : k < l.length) : l.getD k d ∈ l := by
  simp [List.getD, h]
theorem takeL_succ {α : Type} {d : α} {l : List α} {k : Nat} (h : k < l.length) : l.take (k + 1) = l.take k ++ [l.getD k d] := by
  rw [List.take_succ_eq_append_getElem h]
  simp [List.getD, h]
theorem madeN_step {ls : List Lk} {k : Nat} (h : k < ls.length) (x : Nat) : madeN (ls.take (k + 1)) x = madeN (ls.take k) x + mk1 (ls.getD k Lk.nil) x := by
  rw [takeL_succ (d := Lk.nil) h]; simp [madeN]
theorem usedN_step {ls : List Lk} {k : Nat} (h : k < ls.length) (x : Nat) : usedN (ls.take (k + 1)) x = usedN (ls.take k) x + us1 (ls.getD k Lk.nil) x := by
  rw [takeL_succ (d := Lk.nil) h]; simp [usedN]
theorem concN_step {cs : List Int} {k : Nat} (h : k < cs.length) (x : Nat) : concN (cs.take (k + 1)) x = concN (cs.take k) x + one ((cs.getD k 0).toNat = x) := by
  rw [takeL_succ (d := 0) h]; simp [concN]
theorem madeN_le (ls : List Lk) (x : Nat) : 0 ≤ madeN ls x ∧ madeN ls x ≤ 2 * (ls.length : Int) := by
  induction ls with
  | nil => simp [madeN]
  | cons l ls ih =>
    have := mk1_le l x
    simp only [madeN, List.map_cons, List.sum_cons, List.length_cons] at ih ⊢
    omega
theorem usedN_le (ls : List Lk) (x : Nat) : 0 ≤ usedN ls x ∧ usedN ls x ≤ 2 * (ls.length : Int) := by
  induction ls with
  | nil => simp [usedN]
  | cons l ls ih =>
    have := us1_le l x
    simp only [usedN, List.map_cons, List.sum_cons, List.length_cons] at ih ⊢
    omega
theorem concN_le (cs : List Int) (x : Nat) : 0 ≤ concN cs x ∧ concN cs x ≤ (cs.length : Int) := by
  induction cs with
  | nil => simp [concN]
  | cons c cs ih =>
    have := one_le (c.toNat = x)
    simp only [concN, List.map_cons, List.sum_cons, List.length_cons] at ih ⊢
    omega
/-- A row of counts. -/
def cnts (n : Nat) (f : Nat → Int) : List Int := (List.range n).map f
theorem cnts_len (n : Nat) (f : Nat → Int) : (cnts n f).length = n := by simp [cnts]
theorem cnts_at {n : Nat} {f : Nat → Int} {i : Nat} (h : i < n) : (cnts n f).getD i 0 = f i := by simp [cnts, List.getD, h]
theorem cnts_ext {n : Nat} {f g : Nat → Int} (h : ∀ x, x < n → f x = g x) : cnts n f = cnts n g := by
  apply List.map_congr_left
  intro x hx
  exact h x (List.mem_range.1 hx)
theorem cnts_zero (n : Nat) : List.replicate n (0 : Int) = cnts n fun _ => 0 := by
  apply List.ext_getElem?
  intro i
  by_cases h : i < n <;> simp [cnts, h]
theorem cnts_bump {n : Nat} {f : Nat → Int} {i : Nat} (h : i < n) : (cnts n f).set i (f i + 1) = cnts n fun x => f x + one (i = x) := by
  apply List.ext_getElem?
  intro j
  by_cases hj : j < n
  · by_cases e : i = j
    · subst e
      rw [List.getElem?_set_self (by rw [cnts_len]; exact hj)]
      simp [cnts, one, h]
    · rw [List.getElem?_set_ne e]
      simp [cnts, one, hj, e]
  · rw [List.getElem?_eq_none (by rw [List.length_set, cnts_len]; omega), List.getElem?_eq_none (by rw [cnts_len]; omega)]
/-- The net is valid. -/
def evenN (N : Nt) : Bool := (List.range N.w.length).all fun x => decide (madeN N.l x = 1 ∧ usedN N.l x + concN N.c x = 1)
def valN (N : Nt) : Bool := decide (N.w.length ≤ 48 ∧ N.l.length ≤ 48) && (N.w.all formN && (N.l.all (fitsN N.w) && (N.c.all (inW N.w.length) && evenN N)))
section
variable {N : Nt}
theorem valN_size (h : valN N = true) : N.w.length ≤ 48 ∧ N.l.length ≤ 48 := by
  simp only [valN, Bool.and_eq_true] at h
  exact of_decide_eq_true h.1
theorem valN_forms (h : valN N = true) : N.w.all formN = true := by simp only [valN, Bool.and_eq_true] at h; exact h.2.1
theorem valN_fits (h : valN N = true) : N.l.all (fitsN N.w) = true := by simp only [valN, Bool.and_eq_true] at h; exact h.2.2.1
theorem valN_concl (h : valN N = true) : N.c.all (inW N.w.length) = true := by simp only [valN, Bool.and_eq_true] at h; exact h.2.2.2.1
theorem valN_even (h : valN N = true) : evenN N = true := by simp only [valN, Bool.and_eq_true] at h; exact h.2.2.2.2
theorem valN_great (h : 48 < N.w.length ∨ 48 < N.l.length) : valN N = false := by unfold valN; rw [decide_eq_false (by omega)]; rfl
theorem all_bad {α : Type} {p : α → Bool} {l : List α} {k : Nat} {d : α} (h : k < l.length) (hb : p (l.getD k d) = false) : l.all p = false := by
  rw [List.all_eq_false]
  exact ⟨_, getL_mem h, by rw [hb]; decide⟩
theorem all_step {α : Type} {p : α → Bool} {l : List α} {k : Nat} {d : α} (h : k < l.length) (ha : (l.take k).all p = true) (hb : p (l.getD k d) = true) : (l.take (k + 1)).all p = true := by
  rw [takeL_succ (d := d) h, List.all_append, ha, List.all_cons, hb]; rfl
theorem all_at {α : Type} {p : α → Bool} {l : List α} {k : Nat} {d : α} (ha : l.all p = true) (h : k < l.length) : p (l.getD k d) = true := (List.all_eq_true.1 ha) _ (getL_mem h)
theorem valN_badw {k : Nat} (h : k < N.w.length) (hb : formN (N.w.getD k []) = false) : valN N = false := by unfold valN; rw [all_bad h hb]; simp
theorem valN_badl {k : Nat} (h : k < N.l.length) (hb : fitsN N.w (N.l.getD k Lk.nil) = false) : valN N = false := by unfold valN; rw [all_bad h hb]; simp
theorem valN_badc {k : Nat} (h : k < N.c.length) (hb : inW N.w.length (N.c.getD k 0) = false) : valN N = false := by unfold valN; rw [all_bad h hb]; simp
theorem valN_uneven {x : Nat} (h : x < N.w.length) (hb : ¬ (madeN N.l x = 1 ∧ usedN N.l x + concN N.c x = 1)) : valN N = false := by
  have : evenN N = false := by
    unfold evenN
    rw [List.all_eq_false]
    exact ⟨x, List.mem_range.2 h, by simpa using hb⟩
  unfold valN; rw [this]; simp
theorem valN_yes (h1 : N.w.length ≤ 48 ∧ N.l.length ≤ 48) (h2 : N.w.all formN = true) (h3 : N.l.all (fitsN N.w) = true) (h4 : N.c.all (inW N.w.length) = true) (h5 : ∀ x, x < N.w.length → madeN N.l x = 1 ∧ usedN N.l x + concN N.c x = 1) : valN N = true := by
  have : evenN N = true := by
    unfold evenN
    rw [List.all_eq_true]
    intro x hx
    exact decide_eq_true (h5 x (List.mem_range.1 hx))
  unfold valN; rw [decide_eq_true h1, h2, h3, h4, this]; rfl
theorem valN_at (h : valN N = true) {x : Nat} (hx : x < N.w.length) : madeN N.l x = 1 ∧ usedN N.l x + concN N.c x = 1 := by
  have := (List.all_eq_true.1 (valN_even h)) x (List.mem_range.2 hx)
  exact of_decide_eq_true this
/-- The conclusions are no more than the wires. -/
theorem sum_le {n : Nat} {f : Nat → Int} (h : ∀ x, x < n → f x ≤ 1) : ((List.range n).map f).sum ≤ n := by
  induction n with
  | zero => simp
  | succ n ih =>
    have h1 := ih fun x hx => h x (by omega)
    have h2 := h n (by omega)
    rw [List.range_succ, List.map_append, List.sum_append]
    simp
    omega
theorem sum_zero (n : Nat) : ((List.range n).map fun _ => (0 : Int)).sum = 0 := by
  induction n with
  | zero => rfl
  | succ n ih => rw [List.range_succ, List.map_append, List.sum_append, ih]; rfl
theorem sum_one {n a : Nat} (h : a < n) : ((List.range n).map fun x => one (a = x)).sum = 1 := by
  induction n with
  | zero => omega
  | succ n ih =>
    rw [List.range_succ, List.map_append, List.sum_append]
    by_cases e : a = n
    · subst e
      have : ((List.range a).map fun x => one (a = x)) = (List.range a).map fun _ => (0 : Int) := by
        apply List.map_congr_left
        intro x hx
        have := List.mem_range.1 hx
        unfold one; rw [if_neg (by omega)]
      rw [this, sum_zero]
      simp [one]
    · rw [ih (by omega)]
      simp [one, e]
theorem sum_conc {n : Nat} : ∀ {cs : List Int}, cs.all (inW n) = true → ((List.range n).map fun x => concN cs x).sum = cs.length
  | [], _ => by
    have : ((List.range n).map fun x => concN [] x) = (List.range n).map fun _ => (0 : Int) := by simp [concN]
    rw [this, sum_zero]; rfl
  | c :: cs, h => by
    simp only [List.all_cons, Bool.and_eq_true] at h
    obtain ⟨_, h1, _⟩ := inW_yes h.1
    have ih := sum_conc h.2
    have e : ∀ m, ((List.range m).map fun x => concN (c :: cs) x).sum = ((List.range m).map fun x => one (c.toNat = x)).sum + ((List.range m).map fun x => concN cs x).sum := by
      intro m
      induction m with
      | zero => simp
      | succ m ihm =>
        rw [List.range_succ]
        simp only [List.map_append, List.sum_append, ihm, List.map_cons, List.map_nil, List.sum_cons, List.sum_nil]
        simp only [concN, List.map_cons, List.sum_cons]
        omega
    rw [e, ih, sum_one h1]
    simp; omega
theorem valN_conc_le (h : valN N = true) : N.c.length ≤ N.w.length := by
  have h1 := sum_conc (valN_concl h)
  have h2 := sum_le (n := N.w.length) (f := fun x => concN N.c x) fun x hx => by
    have h3 := valN_at h hx
    have h4 := usedN_le N.l x
    show concN N.c x ≤ 1
    omega
  omega
end
end Go.Proofs.YtjfhbofgnagfaaaDoor
