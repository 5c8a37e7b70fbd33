/- Valid nets: plain mathematics. Permutations, of the model. -/
import Derived.Test.YtjfhbofgnagfaaaDoorQSeqV
import Derived.Test.YtjfhbofgnagfaaaDoorQNetD
import Derived.Test.YtjfhbofgnagfaaaDoorQMath
namespace Go.Proofs.YtjfhbofgnagfaaaDoor
set_option linter.unusedSimpArgs false
set_option linter.unusedVariables false
section
open Go.ChangeAt Go.ChangeShapes Go.RowKit Go.WideShapes

/-- A formula of a net. -/
def formN (q : List Int) : Bool := decide (0 ≤ fragV q ∧ fragV q ≤ 1)
theorem formN_valid {q : List Int} (h : formN q = true) : validB q = true := by
  cases hv : validB q with
  | true => rfl
  | false => unfold formN at h; rw [fragV_no hv] at h; simp at h
/-- A number below n. -/
def inW (n : Nat) (x : Int) : Bool := decide (0 ≤ x ∧ x ≤ (n : Int) - 1)
theorem inW_yes {n : Nat} {x : Int} (h : inW n x = true) : 0 ≤ x ∧ x.toNat < n ∧ x = (x.toNat : Nat) := by
  have := of_decide_eq_true h
  omega
/-- The formula of a wire. -/
def wAt (ws : List (List Int)) (x : Int) : List Int := ws.getD x.toNat []
theorem wAt_valid {ws : List (List Int)} {x : Int} (hf : ws.all formN = true) (h : inW ws.length x = true) : formN (wAt ws x) = true := by
  obtain ⟨_, h1, _⟩ := inW_yes h
  exact (List.all_eq_true.1 hf) _ (getD_mem h1)
/-- What the formulas of a link must be. -/
def rightN (ws : List (List Int)) (l : Lk) : Bool :=
  if l.k = 1 ∨ l.k = 2 then decide (l.c = 0) && decide (wAt ws l.b = (wAt ws l.a).map duZ)
  else if l.k = 3 then decide (wAt ws l.c = 11 :: (wAt ws l.a ++ wAt ws l.b))
  else if l.k = 4 then decide (wAt ws l.c = 12 :: (wAt ws l.a ++ wAt ws l.b)) else false
def fitsN (ws : List (List Int)) (l : Lk) : Bool := inW ws.length l.a && (inW ws.length l.b && (inW ws.length l.c && rightN ws l))
theorem fitsN_yes {ws : List (List Int)} {l : Lk} (h : fitsN ws l = true) : inW ws.length l.a = true ∧ inW ws.length l.b = true ∧ inW ws.length l.c = true ∧ rightN ws l = true := by
  simp only [fitsN, Bool.and_eq_true] at h
  exact h
theorem fitsN_kind {ws : List (List Int)} {l : Lk} (h : fitsN ws l = true) : l.k = 1 ∨ l.k = 2 ∨ l.k = 3 ∨ l.k = 4 := by
  have := (fitsN_yes h).2.2.2
  unfold rightN at this
  by_cases h1 : l.k = 1 ∨ l.k = 2
  · omega
  · rw [if_neg h1] at this
    by_cases h3 : l.k = 3
    · omega
    · rw [if_neg h3] at this
      by_cases h4 : l.k = 4
      · omega
      · rw [if_neg h4] at this; cases this
/-- One, if. -/
def one (p : Prop) [Decidable p] : Int := if p then 1 else 0
theorem one_le (p : Prop) [Decidable p] : 0 ≤ one p ∧ one p ≤ 1 := by unfold one; split <;> omega
/-- How often a link makes, or uses, a wire. -/
def mk1 (l : Lk) (x : Nat) : Int := if l.k = 1 then one (l.a.toNat = x) + one (l.b.toNat = x) else if l.k = 2 then 0 else one (l.c.toNat = x)
def us1 (l : Lk) (x : Nat) : Int := if l.k = 1 then 0 else one (l.a.toNat = x) + one (l.b.toNat = x)
theorem mk1_le (l : Lk) (x : Nat) : 0 ≤ mk1 l x ∧ mk1 l x ≤ 2 := by
  have h1 := one_le (l.a.toNat = x); have h2 := one_le (l.b.toNat = x); have h3 := one_le (l.c.toNat = x)
  unfold mk1; split
  · omega
  · split <;> omega
theorem us1_le (l : Lk) (x : Nat) : 0 ≤ us1 l x ∧ us1 l x ≤ 2 := by
  have h1 := one_le (l.a.toNat = x); have h2 := one_le (l.b.toNat = x)
  unfold us1; split <;> omega
def madeN (ls : List Lk) (x : Nat) : Int := (ls.map fun l => mk1 l x).sum
def usedN (ls : List Lk) (x : Nat) : Int := (ls.map fun l => us1 l x).sum
def concN (cs : List Int) (x : Nat) : Int := (cs.map fun c => one (c.toNat = x)).sum
theorem getL_mem {α : Type} {d : α} {l : List α} {k : Nat} (h : k < l.length) : l.getD k d ∈ l := by
  simp [List.getD, h]
theorem takeL_succ {α : Type} {d : α} {l : List α} {k : Nat} (h : k < l.length) : l.take (k + 1) = l.take k ++ [l.getD k d] := by
  rw [List.take_succ_eq_append_getElem h]
  simp [List.getD, h]
theorem madeN_step {ls : List Lk} {k : Nat} (h : k < ls.length) (x : Nat) : madeN (ls.take (k + 1)) x = madeN (ls.take k) x + mk1 (ls.getD k Lk.nil) x := by
  rw [takeL_succ (d := Lk.nil) h]; simp [madeN]
theorem usedN_step {ls : List Lk} {k : Nat} (h : k < ls.length) (x : Nat) : usedN (ls.take (k + 1)) x = usedN (ls.take k) x + us1 (ls.getD k Lk.nil) x := by
  rw [takeL_succ (d := Lk.nil) h]; simp [usedN]
theorem concN_step {cs : List Int} {k : Nat} (h : k < cs.length) (x : Nat) : concN (cs.take (k + 1)) x = concN (cs.take k) x + one ((cs.getD k 0).toNat = x) := by
  rw [takeL_succ (d := 0) h]; simp [concN]
theorem madeN_le (ls : List Lk) (x : Nat) : 0 ≤ madeN ls x ∧ madeN ls x ≤ 2 * (ls.length : Int) := by
  induction ls with
  | nil => simp [madeN]
  | cons l ls ih =>
    have := mk1_le l x
    simp only [madeN, List.map_cons, List.sum_cons, List.length_cons] at ih ⊢
    omega
theorem usedN_le (ls : List Lk) (x : Nat) : 0 ≤ usedN ls x ∧ usedN ls x ≤ 2 * (ls.length : Int) := by
  induction ls with
  | nil => simp [usedN]
  | cons l ls ih =>
    have := us1_le l x
    simp only [usedN, List.map_cons, List.sum_cons, List.length_cons] at ih ⊢
    omega
theorem concN_le (cs : List Int) (x : Nat) : 0 ≤ concN cs x ∧ concN cs x ≤ (cs.length : Int) := by
  induction cs with
  | nil => simp [concN]
  | cons c cs ih =>
    have := one_le (c.toNat = x)
    simp only [concN, List.map_cons, List.sum_cons, List.length_cons] at ih ⊢
    omega
/-- A row of counts. -/
def cnts (n : Nat) (f : Nat → Int) : List Int := (List.range n).map f
theorem cnts_len (n : Nat) (f : Nat → Int) : (cnts n f).length = n := by simp [cnts]
theorem cnts_at {n : Nat} {f : Nat → Int} {i : Nat} (h : i < n) : (cnts n f).getD i 0 = f i := by simp [cnts, List.getD, h]
theorem cnts_ext {n : Nat} {f g : Nat → Int} (h : ∀ x, x < n → f x = g x) : cnts n f = cnts n g := by
  apply List.map_congr_left
  intro x hx
  exact h x (List.mem_range.1 hx)
theorem cnts_zero (n : Nat) : List.replicate n (0 : Int) = cnts n fun _ => 0 := by
  apply List.ext_getElem?
  intro i
  by_cases h : i < n <;> simp [cnts, h]
theorem cnts_bump {n : Nat} {f : Nat → Int} {i : Nat} (h : i < n) : (cnts n f).set i (f i + 1) = cnts n fun x => f x + one (i = x) := by
  apply List.ext_getElem?
  intro j
  by_cases hj : j < n
  · by_cases e : i = j
    · subst e
      rw [List.getElem?_set_self (by rw [cnts_len]; exact hj)]
      simp [cnts, one, h]
    · rw [List.getElem?_set_ne e]
      simp [cnts, one, hj, e]
  · rw [List.getElem?_eq_none (by rw [List.length_set, cnts_len]; omega), List.getElem?_eq_none (by rw [cnts_len]; omega)]
/-- The net is valid. -/
def evenN (N : Nt) : Bool := (List.range N.w.length).all fun x => decide (madeN N.l x = 1 ∧ usedN N.l x + concN N.c x = 1)
def valN (N : Nt) : Bool := decide (N.w.length ≤ 48 ∧ N.l.length ≤ 48) && (N.w.all formN && (N.l.all (fitsN N.w) && (N.c.all (inW N.w.length) && evenN N)))
section
variable {N : Nt}
theorem valN_size (h : valN N = true) : N.w.length ≤ 48 ∧ N.l.length ≤ 48 := by
  simp only [valN, Bool.and_eq_true] at h
  exact of_decide_eq_true h.1
theorem valN_forms (h : valN N = true) : N.w.all formN = true := by simp only [valN, Bool.and_eq_true] at h; exact h.2.1
theorem valN_fits (h : valN N = true) : N.l.all (fitsN N.w) = true := by simp only [valN, Bool.and_eq_true] at h; exact h.2.2.1
theorem valN_concl (h : valN N = true) : N.c.all (inW N.w.length) = true := by simp only [valN, Bool.and_eq_true] at h; exact h.2.2.2.1
theorem valN_even (h : valN N = true) : evenN N = true := by simp only [valN, Bool.and_eq_true] at h; exact h.2.2.2.2
theorem valN_great (h : 48 < N.w.length ∨ 48 < N.l.length) : valN N = false := by unfold valN; rw [decide_eq_false (by omega)]; rfl
theorem all_bad {α : Type} {p : α → Bool} {l : List α} {k : Nat} {d : α} (h : k < l.length) (hb : p (l.getD k d) = false) : l.all p = false := by
  rw [List.all_eq_false]
  exact ⟨_, getL_mem h, by rw [hb]; decide⟩
theorem all_step {α : Type} {p : α → Bool} {l : List α} {k : Nat} {d : α} (h : k < l.length) (ha : (l.take k).all p = true) (hb : p (l.getD k d) = true) : (l.take (k + 1)).all p = true := by
  rw [takeL_succ (d := d) h, List.all_append, ha, List.all_cons, hb]; rfl
theorem all_at {α : Type} {p : α → Bool} {l : List α} {k : Nat} {d : α} (ha : l.all p = true) (h : k < l.length) : p (l.getD k d) = true := (List.all_eq_true.1 ha) _ (getL_mem h)
theorem valN_badw {k : Nat} (h : k < N.w.length) (hb : formN (N.w.getD k []) = false) : valN N = false := by unfold valN; rw [all_bad h hb]; simp
theorem valN_badl {k : Nat} (h : k < N.l.length) (hb : fitsN N.w (N.l.getD k Lk.nil) = false) : valN N = false := by unfold valN; rw [all_bad h hb]; simp
theorem valN_badc {k : Nat} (h : k < N.c.length) (hb : inW N.w.length (N.c.getD k 0) = false) : valN N = false := by unfold valN; rw [all_bad h hb]; simp
theorem valN_uneven {x : Nat} (h : x < N.w.length) (hb : ¬ (madeN N.l x = 1 ∧ usedN N.l x + concN N.c x = 1)) : valN N = false := by
  have : evenN N = false := by
    unfold evenN
    rw [List.all_eq_false]
    exact ⟨x, List.mem_range.2 h, by simpa using hb⟩
  unfold valN; rw [this]; simp
theorem valN_yes (h1 : N.w.length ≤ 48 ∧ N.l.length ≤ 48) (h2 : N.w.all formN = true) (h3 : N.l.all (fitsN N.w) = true) (h4 : N.c.all (inW N.w.length) = true) (h5 : ∀ x, x < N.w.length → madeN N.l x = 1 ∧ usedN N.l x + concN N.c x = 1) : valN N = true := by
  have : evenN N = true := by
    unfold evenN
    rw [List.all_eq_true]
    intro x hx
    exact decide_eq_true (h5 x (List.mem_range.1 hx))
  unfold valN; rw [decide_eq_true h1, h2, h3, h4, this]; rfl
theorem valN_at (h : valN N = true) {x : Nat} (hx : x < N.w.length) : madeN N.l x = 1 ∧ usedN N.l x + concN N.c x = 1 := by
  have := (List.all_eq_true.1 (valN_even h)) x (List.mem_range.2 hx)
  exact of_decide_eq_true this
/-- The conclusions are no more than the wires. -/
theorem sum_le {n : Nat} {f : Nat → Int} (h : ∀ x, x < n → f x ≤ 1) : ((List.range n).map f).sum ≤ n := by
  induction n with
  | zero => simp
  | succ n ih =>
    have h1 := ih fun x hx => h x (by omega)
    have h2 := h n (by omega)
    rw [List.range_succ, List.map_append, List.sum_append]
    simp
    omega
theorem sum_zero (n : Nat) : ((List.range n).map fun _ => (0 : Int)).sum = 0 := by
  induction n with
  | zero => rfl
  | succ n ih => rw [List.range_succ, List.map_append, List.sum_append, ih]; rfl
theorem sum_one {n a : Nat} (h : a < n) : ((List.range n).map fun x => one (a = x)).sum = 1 := by
  induction n with
  | zero => omega
  | succ n ih =>
    rw [List.range_succ, List.map_append, List.sum_append]
    by_cases e : a = n
    · subst e
      have : ((List.range a).map fun x => one (a = x)) = (List.range a).map fun _ => (0 : Int) := by
        apply List.map_congr_left
        intro x hx
        have := List.mem_range.1 hx
        unfold one; rw [if_neg (by omega)]
      rw [this, sum_zero]
      simp [one]
    · rw [ih (by omega)]
      simp [one, e]
theorem sum_conc {n : Nat} : ∀ {cs : List Int}, cs.all (inW n) = true → ((List.range n).map fun x => concN cs x).sum = cs.length
  | [], _ => by
    have : ((List.range n).map fun x => concN [] x) = (List.range n).map fun _ => (0 : Int) := by simp [concN]
    rw [this, sum_zero]; rfl
  | c :: cs, h => by
    simp only [List.all_cons, Bool.and_eq_true] at h
    obtain ⟨_, h1, _⟩ := inW_yes h.1
    have ih := sum_conc h.2
    have e : ∀ m, ((List.range m).map fun x => concN (c :: cs) x).sum = ((List.range m).map fun x => one (c.toNat = x)).sum + ((List.range m).map fun x => concN cs x).sum := by
      intro m
      induction m with
      | zero => simp
      | succ m ihm =>
        rw [List.range_succ]
        simp only [List.map_append, List.sum_append, ihm, List.map_cons, List.map_nil, List.sum_cons, List.sum_nil]
        simp only [concN, List.map_cons, List.sum_cons]
        omega
    rw [e, ih, sum_one h1]
    simp; omega
theorem valN_conc_le (h : valN N = true) : N.c.length ≤ N.w.length := by
  have h1 := sum_conc (valN_concl h)
  have h2 := sum_le (n := N.w.length) (f := fun x => concN N.c x) fun x hx => by
    have h3 := valN_at h hx
    have h4 := usedN_le N.l x
    show concN N.c x ≤ 1
    omega
  omega
end
end
section
open Go.ChangeAt Go.ChangeShapes Go.RowKit Go.WideShapes

/-- The number is among the first k. -/
def seenB (xs : List Int) (k x : Nat) : Bool := ((xs.take k).map Int.toNat).contains x
/-- The first k numbers lie below n and differ. -/
def perm1 (xs : List Int) (n k : Nat) : Bool := (xs.take k).all (inW n) && decide ((xs.take k).map Int.toNat).Nodup
/-- The list holds each number below n once and nothing else. -/
def permB (xs : List Int) (n : Nat) : Bool := perm1 xs n xs.length && decide (xs.length = n)
theorem nodup_snoc {l : List Nat} {a : Nat} : (l ++ [a]).Nodup ↔ l.Nodup ∧ a ∉ l := by
  rw [List.nodup_append]
  constructor
  · rintro ⟨h1, _, h2⟩
    exact ⟨h1, fun h => h2 a h a (by simp) rfl⟩
  · rintro ⟨h1, h2⟩
    exact ⟨h1, by simp, fun x hx y hy e => by simp at hy; subst hy; subst e; exact h2 hx⟩
theorem perm1_step {xs : List Int} {n k : Nat} (h : k < xs.length) : perm1 xs n (k + 1) = (perm1 xs n k && (inW n (xs.getD k 0) && !seenB xs k (xs.getD k 0).toNat)) := by
  unfold perm1 seenB
  rw [takeL_succ (d := 0) h, List.map_append, List.all_append]
  generalize xs.getD k 0 = z
  generalize xs.take k = l
  rw [Bool.eq_iff_iff]
  simp only [Bool.and_eq_true, decide_eq_true_eq, List.map_cons, List.map_nil, nodup_snoc, List.all_cons, List.all_nil, Bool.and_true, Bool.not_eq_true', List.contains_eq_mem, decide_eq_false_iff_not]
  constructor
  · rintro ⟨⟨a, b⟩, c, d⟩; exact ⟨⟨a, c⟩, b, d⟩
  · rintro ⟨⟨a, c⟩, b, d⟩; exact ⟨⟨a, b⟩, c, d⟩
theorem perm1_mono {xs : List Int} {n : Nat} : ∀ m k, k ≤ m → m ≤ xs.length → perm1 xs n m = true → perm1 xs n k = true
  | 0, k, h, _, e => by obtain rfl : k = 0 := by omega
                        exact e
  | m + 1, k, h, hm, e => by
    by_cases hk : k = m + 1
    · subst hk; exact e
    · rw [perm1_step (by omega)] at e
      simp only [Bool.and_eq_true] at e
      exact perm1_mono m k (by omega) (by omega) e.1
theorem permB_no {xs : List Int} {n k : Nat} (h : k < xs.length) (hb : (inW n (xs.getD k 0) && !seenB xs k (xs.getD k 0).toNat) = false) : permB xs n = false := by
  cases e : permB xs n with
  | false => rfl
  | true =>
    unfold permB at e
    simp only [Bool.and_eq_true] at e
    have h2 := perm1_mono xs.length (k + 1) (by omega) (Nat.le_refl _) e.1
    rw [perm1_step h, hb, Bool.and_false] at h2
    cases h2
/-- A row of marks. -/
def marks (n : Nat) (f : Nat → Bool) : List Value := (List.range n).map fun x => .bool (f x)
theorem marks_at {n : Nat} {f : Nat → Bool} {i : Nat} (h : i < n) : (marks n f)[i]? = some (.bool (f i)) := by simp [marks, h]
theorem marks_set {n : Nat} {f : Nat → Bool} {i : Nat} (h : i < n) : (marks n f).set i (.bool true) = marks n fun x => f x || x == i := by
  apply List.ext_getElem?
  intro j
  by_cases hj : j < n
  · by_cases e : i = j
    · subst e
      rw [List.getElem?_set_self (by simp [marks]; exact hj)]
      simp [marks, h]
    · rw [List.getElem?_set_ne e]
      have : (j == i) = false := by simp; omega
      simp [marks, hj, this]
  · rw [List.getElem?_eq_none (by simp [marks]; omega), List.getElem?_eq_none (by simp [marks]; omega)]
theorem seen_step {xs : List Int} {k : Nat} (h : k < xs.length) (x : Nat) : seenB xs (k + 1) x = (seenB xs k x || x == (xs.getD k 0).toNat) := by
  unfold seenB
  rw [takeL_succ (d := 0) h, List.map_append]
  rw [Bool.eq_iff_iff]
  simp [List.contains_eq_mem]
theorem info_bool : (Tryd.prog.info? 4).map (fun i => (i.zero, i.size, i.bytes)) = some (some (.bool false), 1, 1) := by kernel_rfl
theorem info_parts_b : ∃ i, Tryd.prog.info? 4 = some i ∧ i.zero = some (.bool false) ∧ i.size = 1 ∧ i.bytes = 1 := by
  obtain ⟨i, hi, he⟩ := Option.map_eq_some_iff.1 info_bool
  simp only [Prod.mk.injEq] at he
  exact ⟨i, hi, he.1, he.2.1, he.2.2⟩
theorem marks_new {w : World} {g n : Nat} (h : w.ownsRow g 4 1 (.slice (some ⟨g, 0, none⟩) n n) n (madeCells (Value.bool false).cells (n * 1)).toList) (xs : List Int) : w.ownsRow g 4 1 (.slice (some ⟨g, 0, none⟩) n n) n (marks n fun x => seenB xs 0 x) := by
  have e : marks n (fun x => seenB xs 0 x) = List.replicate n (Value.bool false) := by
    apply List.ext_getElem?
    intro j
    by_cases hj : j < n <;> simp [marks, hj, seenB]
  rw [e, ← toList_madeCells_one]
  simpa [Value.cells] using h
set_option maxHeartbeats 2000000 in
theorem sIsPerm_any (A : Option Addr) (m c n : Nat) (xs : List Int) (w : World) (r : RdI w w.heap.size A m xs) (hm : m ≤ 1048576) (hn : n ≤ 1048576) :
    Calls Tryd.prog 102 #[.slice A m c, .int .i64 n] w fun e w' => e = .returned (.bool (permB xs n)) ∧ Below w.heap.size w w' := by
  obtain ⟨i0, hi0, hz0, hz1, hz2⟩ := info_parts_b
  have hl := r.len
  subst hl
  have b2 : i0.bytes * n ≤ 281474976710656 := by rw [hz2]; omega
  have b3 : n ≤ maxLen := by unfold maxLen; omega
  go_enter Tryd.func102, Tryd.ntmps102
  go_wp2_with (at_make; refine wpList_make_full _ rfl _ _ _ rfl w.heap.size 4 i0 (.bool false) 1 Tryd.underlying116 hi0 hz0 hz1 _ _ _ _ n rfl rfl rfl rfl b2 b3 (Nat.le_refl _) ?_; intro w1 hown hg)
  have hbel : Below w.heap.size w w1 := (Below.refl _ _).grown hg (Nat.le_refl _) (by intro k hk; cases hk)
  have HO := Lib.hid (marks_new hown xs)
  have HB := Lib.hid hbel
  clear hg hown b2 b3 hi0 hz0 hz1 hz2 hbel
  go_loopw [6] (fun i wr => ∃ k : Nat, k ≤ xs.length ∧ i = .int .i64 k ∧ perm1 xs n k = true ∧ wr.ownsRow w.heap.size 4 1 (.slice (some ⟨w.heap.size, 0, none⟩) n n) n (marks n fun x => seenB xs k x) ∧ Below w.heap.size w wr) (fun i _ => xs.length - (intOf i).toNat)
  case atStart => exact ⟨0, Nat.zero_le _, rfl, by simp [perm1], HO.out, HB.out⟩
  case round =>
    obtain ⟨k, hk, rfl, hp, hO, hB⟩ := hrel
    clear HO HB
    by_cases hlt : k < xs.length
    · obtain ⟨b, off, rfl, hbb, hcells⟩ := r.2 (by omega)
      have hc := (hB.cell (p := ⟨b, off + k, none⟩) hbb).trans (hcells k hlt)
      obtain ⟨z, hz⟩ : ∃ z, xs.getD k 0 = z := ⟨_, rfl⟩
      rw [hz] at hc
      have HR := Lib.hid (show Calls Tryd.prog 98 #[.int .i64 z, .int .i64 0, .int .i64 ((n : Int) - 1)] wr fun e w' => e = .returned (.bool (inW n z)) ∧ wr = w' from inRange_any z 0 ((n : Int) - 1) wr)
      have HP := Lib.hid hp
      cases hin : inW n z with
      | false =>
        have HE : Hid (false = permB xs n) := Lib.hid (permB_no hlt (by rw [hz, hin]; rfl)).symm
        rw [hin] at HR
        have HB := Lib.hid hB
        clear hin hB hO hp hz hcells
        go_wp2_with (fail)
        refine HR.out.mono ?_
        rintro e w' ⟨rfl, rfl⟩
        go_wp2
        go_ret
        exact ⟨ret_bool' HE.out, HB.out⟩
      | true =>
        rw [hin] at HR
        obtain ⟨_, hix, ez⟩ := inW_yes hin
        have ho := (hO.cellAt z.toNat (by omega)).trans (marks_at hix)
        have hf := hO.frozenAt z.toNat
        cases hse : seenB xs k z.toNat with
        | true =>
          have HE : Hid (false = permB xs n) := Lib.hid (permB_no hlt (by rw [hz, hin, hse]; rfl)).symm
          rw [hse] at ho
          have HB := Lib.hid hB
          clear hin hB hO hp hz hcells hse
          generalize z.toNat = iz at *
          subst ez
          go_wp2_with (fail)
          refine HR.out.mono ?_
          rintro e w' ⟨rfl, rfl⟩
          go_wp2
          go_ret
          exact ⟨ret_bool' HE.out, HB.out⟩
        | false =>
          have HS : Hid (perm1 xs n (k + 1) = true) := Lib.hid (by rw [perm1_step hlt, hp, hz, hin, hse]; rfl)
          rw [hse] at ho
          have hst := (hO.stored z.toNat (.bool true)).1
          rw [marks_set hix] at hst
          have hfe : (fun x => seenB xs k x || x == z.toNat) = fun x => seenB xs (k + 1) x := by
            funext x; rw [seen_step hlt, hz]
          rw [hfe] at hst
          have HO := Lib.hid hst
          have HB := Lib.hid (hB.setCell (p := ⟨w.heap.size, z.toNat, none⟩) (Nat.le_refl _) (.bool true))
          clear hin hB hO hp hz hcells hse hst hfe
          generalize z.toNat = iz at *
          subst ez
          go_wp2_with (fail)
          refine HR.out.mono ?_
          rintro e w' ⟨rfl, rfl⟩
          go_wp2
          go_roundw
          case rel => exact ⟨k + 1, by omega, by go_num, HS.out, HO.out, HB.out⟩
          case measure => simp [intOf]; omega
    · have hkl : k = xs.length := by omega
      subst hkl
      have HE : Hid (((xs.length : Int) == (n : Int)) = permB xs n) := Lib.hid (by
        unfold permB; rw [hp, Bool.true_and]
        by_cases e : xs.length = n
        · rw [decide_eq_true e]; simp [e]
        · rw [decide_eq_false e]; simp; omega)
      have HB := Lib.hid hB
      clear hp hO hB
      cases hd : ((xs.length : Int) == (n : Int)) with
      | true =>
        rw [hd] at HE
        go_wp2
        go_ret
        exact ⟨ret_bool' HE.out, HB.out⟩
      | false =>
        rw [hd] at HE
        go_wp2
        go_ret
        exact ⟨ret_bool' HE.out, HB.out⟩
end
end Go.Proofs.YtjfhbofgnagfaaaDoor
