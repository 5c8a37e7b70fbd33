/- Valid nets: plain mathematics. The laws' helpers at links and nets: sizes, copies. A net that came in, opened. -/
import Derived.Test.YtfdpkhiiboghiaaGreatDoorJQSeqV
import Derived.Deep.Slices
namespace Go.Proofs.YtfdpkhiiboghiaaGreatDoor
set_option linter.unusedSimpArgs false
set_option linter.unusedVariables false
section
open Go.ChangeAt Go.ChangeShapes Go.RowKit Go.WideShapes

/-- A formula of a net. -/
def formN (q : List Int) : Bool := decide (0 ≤ fragV q ∧ fragV q ≤ 1)
theorem formN_valid {q : List Int} (h : formN q = true) : validB q = true := by
  cases hv : validB q with
  | true => rfl
  | false => unfold formN at h; rw [fragV_no hv] at h; simp at h
/-- A number below n. -/
def inW (n : Nat) (x : Int) : Bool := decide (0 ≤ x ∧ x ≤ (n : Int) - 1)
theorem inW_yes {n : Nat} {x : Int} (h : inW n x = true) : 0 ≤ x ∧ x.toNat < n ∧ x = (x.toNat : Nat) := by
  have := of_decide_eq_true h
  omega
/-- The formula of a wire. -/
def wAt (ws : List (List Int)) (x : Int) : List Int := ws.getD x.toNat []
theorem wAt_valid {ws : List (List Int)} {x : Int} (hf : ws.all formN = true) (h : inW ws.length x = true) : formN (wAt ws x) = true := by
  obtain ⟨_, h1, _⟩ := inW_yes h
  exact (List.all_eq_true.1 hf) _ (getD_mem h1)
/-- What the formulas of a link must be. -/
def rightN (ws : List (List Int)) (l : Lk) : Bool :=
  if l.k = 1 ∨ l.k = 2 then decide (l.c = 0) && decide (wAt ws l.b = (wAt ws l.a).map duZ)
  else if l.k = 3 then decide (wAt ws l.c = 11 :: (wAt ws l.a ++ wAt ws l.b))
  else if l.k = 4 then decide (wAt ws l.c = 12 :: (wAt ws l.a ++ wAt ws l.b)) else false
def fitsN (ws : List (List Int)) (l : Lk) : Bool := inW ws.length l.a && (inW ws.length l.b && (inW ws.length l.c && rightN ws l))
theorem fitsN_yes {ws : List (List Int)} {l : Lk} (h : fitsN ws l = true) : inW ws.length l.a = true ∧ inW ws.length l.b = true ∧ inW ws.length l.c = true ∧ rightN ws l = true := by
  simp only [fitsN, Bool.and_eq_true] at h
  exact h
theorem fitsN_kind {ws : List (List Int)} {l : Lk} (h : fitsN ws l = true) : l.k = 1 ∨ l.k = 2 ∨ l.k = 3 ∨ l.k = 4 := by
  have := (fitsN_yes h).2.2.2
  unfold rightN at this
  by_cases h1 : l.k = 1 ∨ l.k = 2
  · omega
  · rw [if_neg h1] at this
    by_cases h3 : l.k = 3
    · omega
    · rw [if_neg h3] at this
      by_cases h4 : l.k = 4
      · omega
      · rw [if_neg h4] at this; cases this
/-- One, if. -/
def one (p : Prop) [Decidable p] : Int := if p then 1 else 0
theorem one_le (p : Prop) [Decidable p] : 0 ≤ one p ∧ one p ≤ 1 := by unfold one; split <;> omega
/-- How often a link makes, or uses, a wire. -/
def mk1 (l : Lk) (x : Nat) : Int := if l.k = 1 then one (l.a.toNat = x) + one (l.b.toNat = x) else if l.k = 2 then 0 else one (l.c.toNat = x)
def us1 (l : Lk) (x : Nat) : Int := if l.k = 1 then 0 else one (l.a.toNat = x) + one (l.b.toNat = x)
theorem mk1_le (l : Lk) (x : Nat) : 0 ≤ mk1 l x ∧ mk1 l x ≤ 2 := by
  have h1 := one_le (l.a.toNat = x); have h2 := one_le (l.b.toNat = x); have h3 := one_le (l.c.toNat = x)
  unfold mk1; split
  · omega
  · split <;> omega
theorem us1_le (l : Lk) (x : Nat) : 0 ≤ us1 l x ∧ us1 l x ≤ 2 := by
  have h1 := one_le (l.a.toNat = x); have h2 := one_le (l.b.toNat = x)
  unfold us1; split <;> omega
def madeN (ls : List Lk) (x : Nat) : Int := (ls.map fun l => mk1 l x).sum
def usedN (ls : List Lk) (x : Nat) : Int := (ls.map fun l => us1 l x).sum
def concN (cs : List Int) (x : Nat) : Int := (cs.map fun c => one (c.toNat = x)).sum
theorem getL_mem {α : Type} {d : α} {l : List α} {k : Nat} (h : k < l.length) : l.getD k d ∈ l := by
  simp [List.getD, h]
theorem takeL_succ {α : Type} {d : α} {l : List α} {k : Nat} (h : k < l.length) : l.take (k + 1) = l.take k ++ [l.getD k d] := by
  rw [List.take_succ_eq_append_getElem h]
  simp [List.getD, h]
theorem madeN_step {ls : List Lk} {k : Nat} (h : k < ls.length) (x : Nat) : madeN (ls.take (k + 1)) x = madeN (ls.take k) x + mk1 (ls.getD k Lk.nil) x := by
  rw [takeL_succ (d := Lk.nil) h]; simp [madeN]
theorem usedN_step {ls : List Lk} {k : Nat} (h : k < ls.length) (x : Nat) : usedN (ls.take (k + 1)) x = usedN (ls.take k) x + us1 (ls.getD k Lk.nil) x := by
  rw [takeL_succ (d := Lk.nil) h]; simp [usedN]
theorem concN_step {cs : List Int} {k : Nat} (h : k < cs.length) (x : Nat) : concN (cs.take (k + 1)) x = concN (cs.take k) x + one ((cs.getD k 0).toNat = x) := by
  rw [takeL_succ (d := 0) h]; simp [concN]
theorem madeN_le (ls : List Lk) (x : Nat) : 0 ≤ madeN ls x ∧ madeN ls x ≤ 2 * (ls.length : Int) := by
  induction ls with
  | nil => simp [madeN]
  | cons l ls ih =>
    have := mk1_le l x
    simp only [madeN, List.map_cons, List.sum_cons, List.length_cons] at ih ⊢
    omega
theorem usedN_le (ls : List Lk) (x : Nat) : 0 ≤ usedN ls x ∧ usedN ls x ≤ 2 * (ls.length : Int) := by
  induction ls with
  | nil => simp [usedN]
  | cons l ls ih =>
    have := us1_le l x
    simp only [usedN, List.map_cons, List.sum_cons, List.length_cons] at ih ⊢
    omega
theorem concN_le (cs : List Int) (x : Nat) : 0 ≤ concN cs x ∧ concN cs x ≤ (cs.length : Int) := by
  induction cs with
  | nil => simp [concN]
  | cons c cs ih =>
    have := one_le (c.toNat = x)
    simp only [concN, List.map_cons, List.sum_cons, List.length_cons] at ih ⊢
    omega
/-- A row of counts. -/
def cnts (n : Nat) (f : Nat → Int) : List Int := (List.range n).map f
theorem cnts_len (n : Nat) (f : Nat → Int) : (cnts n f).length = n := by simp [cnts]
theorem cnts_at {n : Nat} {f : Nat → Int} {i : Nat} (h : i < n) : (cnts n f).getD i 0 = f i := by simp [cnts, List.getD, h]
theorem cnts_ext {n : Nat} {f g : Nat → Int} (h : ∀ x, x < n → f x = g x) : cnts n f = cnts n g := by
  apply List.map_congr_left
  intro x hx
  exact h x (List.mem_range.1 hx)
theorem cnts_zero (n : Nat) : List.replicate n (0 : Int) = cnts n fun _ => 0 := by
  apply List.ext_getElem?
  intro i
  by_cases h : i < n <;> simp [cnts, h]
theorem cnts_bump {n : Nat} {f : Nat → Int} {i : Nat} (h : i < n) : (cnts n f).set i (f i + 1) = cnts n fun x => f x + one (i = x) := by
  apply List.ext_getElem?
  intro j
  by_cases hj : j < n
  · by_cases e : i = j
    · subst e
      rw [List.getElem?_set_self (by rw [cnts_len]; exact hj)]
      simp [cnts, one, h]
    · rw [List.getElem?_set_ne e]
      simp [cnts, one, hj, e]
  · rw [List.getElem?_eq_none (by rw [List.length_set, cnts_len]; omega), List.getElem?_eq_none (by rw [cnts_len]; omega)]
/-- The net is valid. -/
def evenN (N : Nt) : Bool := (List.range N.w.length).all fun x => decide (madeN N.l x = 1 ∧ usedN N.l x + concN N.c x = 1)
def valN (N : Nt) : Bool := decide (N.w.length ≤ 48 ∧ N.l.length ≤ 48) && (N.w.all formN && (N.l.all (fitsN N.w) && (N.c.all (inW N.w.length) && evenN N)))
section
variable {N : Nt}
theorem valN_size (h : valN N = true) : N.w.length ≤ 48 ∧ N.l.length ≤ 48 := by
  simp only [valN, Bool.and_eq_true] at h
  exact of_decide_eq_true h.1
theorem valN_fits (h : valN N = true) : N.l.all (fitsN N.w) = true := by simp only [valN, Bool.and_eq_true] at h; exact h.2.2.1
theorem valN_even (h : valN N = true) : evenN N = true := by simp only [valN, Bool.and_eq_true] at h; exact h.2.2.2.2
theorem valN_great (h : 48 < N.w.length ∨ 48 < N.l.length) : valN N = false := by unfold valN; rw [decide_eq_false (by omega)]; rfl
theorem all_bad {α : Type} {p : α → Bool} {l : List α} {k : Nat} {d : α} (h : k < l.length) (hb : p (l.getD k d) = false) : l.all p = false := by
  rw [List.all_eq_false]
  exact ⟨_, getL_mem h, by rw [hb]; decide⟩
theorem all_step {α : Type} {p : α → Bool} {l : List α} {k : Nat} {d : α} (h : k < l.length) (ha : (l.take k).all p = true) (hb : p (l.getD k d) = true) : (l.take (k + 1)).all p = true := by
  rw [takeL_succ (d := d) h, List.all_append, ha, List.all_cons, hb]; rfl
theorem all_at {α : Type} {p : α → Bool} {l : List α} {k : Nat} {d : α} (ha : l.all p = true) (h : k < l.length) : p (l.getD k d) = true := (List.all_eq_true.1 ha) _ (getL_mem h)
theorem valN_badw {k : Nat} (h : k < N.w.length) (hb : formN (N.w.getD k []) = false) : valN N = false := by unfold valN; rw [all_bad h hb]; simp
theorem valN_badl {k : Nat} (h : k < N.l.length) (hb : fitsN N.w (N.l.getD k Lk.nil) = false) : valN N = false := by unfold valN; rw [all_bad h hb]; simp
theorem valN_badc {k : Nat} (h : k < N.c.length) (hb : inW N.w.length (N.c.getD k 0) = false) : valN N = false := by unfold valN; rw [all_bad h hb]; simp
theorem valN_uneven {x : Nat} (h : x < N.w.length) (hb : ¬ (madeN N.l x = 1 ∧ usedN N.l x + concN N.c x = 1)) : valN N = false := by
  have : evenN N = false := by
    unfold evenN
    rw [List.all_eq_false]
    exact ⟨x, List.mem_range.2 h, by simpa using hb⟩
  unfold valN; rw [this]; simp
theorem valN_yes (h1 : N.w.length ≤ 48 ∧ N.l.length ≤ 48) (h2 : N.w.all formN = true) (h3 : N.l.all (fitsN N.w) = true) (h4 : N.c.all (inW N.w.length) = true) (h5 : ∀ x, x < N.w.length → madeN N.l x = 1 ∧ usedN N.l x + concN N.c x = 1) : valN N = true := by
  have : evenN N = true := by
    unfold evenN
    rw [List.all_eq_true]
    intro x hx
    exact decide_eq_true (h5 x (List.mem_range.1 hx))
  unfold valN; rw [decide_eq_true h1, h2, h3, h4, this]; rfl
theorem valN_at (h : valN N = true) {x : Nat} (hx : x < N.w.length) : madeN N.l x = 1 ∧ usedN N.l x + concN N.c x = 1 := by
  have := (List.all_eq_true.1 (valN_even h)) x (List.mem_range.2 hx)
  exact of_decide_eq_true this
theorem sum_zero (n : Nat) : ((List.range n).map fun _ => (0 : Int)).sum = 0 := by
  induction n with
  | zero => rfl
  | succ n ih => rw [List.range_succ, List.map_append, List.sum_append, ih]; rfl
theorem sum_one {n a : Nat} (h : a < n) : ((List.range n).map fun x => one (a = x)).sum = 1 := by
  induction n with
  | zero => omega
  | succ n ih =>
    rw [List.range_succ, List.map_append, List.sum_append]
    by_cases e : a = n
    · subst e
      have : ((List.range a).map fun x => one (a = x)) = (List.range a).map fun _ => (0 : Int) := by
        apply List.map_congr_left
        intro x hx
        have := List.mem_range.1 hx
        unfold one; rw [if_neg (by omega)]
      rw [this, sum_zero]
      simp [one]
    · rw [ih (by omega)]
      simp [one, e]
end
end
section
open Go.ChangeAt Go.ChangeShapes Go.RowKit Go.WideShapes

theorem szL_any (A : Option Addr) (n c : Nat) (left : Int) (w : World) (hn : n ≤ maxLen) (h0 : 0 ≤ left) (h1 : left ≤ 1073741824) :
    Calls Tryz.prog 43 #[.slice A n c, .int .i64 left] w fun e w' => e = .returned (.int .i64 (szR left n)) ∧ w = w' := by
  unfold maxLen at hn
  by_cases hc : left - n < 0
  · have HE : Hid ((-1 : Int) = szR left n) := Lib.hid (szR_neg (by omega)).symm
    have hd : decide (left - (n : Int) < 0) = true := decide_eq_true hc
    go_enter Tryz.func43, Tryz.ntmps43
    go_wp2
    go_ret
    exact ⟨ret_i64 HE.out, rfl⟩
  · have HE : Hid (left - (n : Int) = szR left n) := Lib.hid (szR_pos (by omega)).symm
    have hd : decide (left - (n : Int) < 0) = false := decide_eq_false hc
    go_enter Tryz.func43, Tryz.ntmps43
    go_wp2
    go_ret
    exact ⟨ret_i64 HE.out, rfl⟩
theorem szI_any (A : Option Addr) (n c : Nat) (left : Int) (w : World) (hn : n ≤ maxLen) (h0 : 0 ≤ left) (h1 : left ≤ 1073741824) :
    Calls Tryz.prog 44 #[.slice A n c, .int .i64 left] w fun e w' => e = .returned (.int .i64 (szR left n)) ∧ w = w' := by
  unfold maxLen at hn
  by_cases hc : left - n < 0
  · have HE : Hid ((-1 : Int) = szR left n) := Lib.hid (szR_neg (by omega)).symm
    have hd : decide (left - (n : Int) < 0) = true := decide_eq_true hc
    go_enter Tryz.func44, Tryz.ntmps44
    go_wp2
    go_ret
    exact ⟨ret_i64 HE.out, rfl⟩
  · have HE : Hid (left - (n : Int) = szR left n) := Lib.hid (szR_pos (by omega)).symm
    have hd : decide (left - (n : Int) < 0) = false := decide_eq_false hc
    go_enter Tryz.func44, Tryz.ntmps44
    go_wp2
    go_ret
    exact ⟨ret_i64 HE.out, rfl⟩
/-- The size of a net. -/
def nsz (N : Nt) : Nat := N.w.length + total N.w + N.l.length + N.c.length
theorem box3_any (w : World) (a b c : Value) (t : TypeId) : Below w.heap.size w (w.alloc (.cells #[a, b, c] t)) ∧ (w.alloc (.cells #[a, b, c] t)).heap[w.heap.size]? = some (.cells #[a, b, c] t (0, 0)) ∧ (w.alloc (.cells #[a, b, c] t)).heap.size = w.heap.size + 1 :=
  ⟨(Below.refl _ _).alloc (Nat.le_refl _) _, heap_alloc_new _ _, by simp⟩
/-- The three cells of a net. -/
theorem three_cells {w : World} {b : Nat} {a0 a1 a2 : Value} {t : TypeId} (h : w.heap[b]? = some (.cells #[a0, a1, a2] t (0, 0))) :
    w.cell? ⟨b, 0, none⟩ = some a0 ∧ w.cell? ⟨b, 1, none⟩ = some a1 ∧ w.cell? ⟨b, 2, none⟩ = some a2 :=
  ⟨cell_of_row _ _ 0 _ _ (0, 0) h, cell_of_row _ _ 1 _ _ (0, 0) h, cell_of_row _ _ 2 _ _ (0, 0) h⟩
set_option maxHeartbeats 1000000 in
theorem szN_any (h : NH) (N : Nt) (left : Int) (w : World) (r : RdN w w.heap.size h N) (hq : ∀ q ∈ N.w, q.length ≤ maxLen) (hn : N.w.length ≤ maxLen) (hl : N.l.length ≤ maxLen) (hc : N.c.length ≤ maxLen) (h0 : 0 ≤ left) (h1 : left ≤ 1073741824) :
    Calls Tryz.prog 13 #[.agg #[.slice h.A N.w.length h.c, .slice h.L N.l.length h.d, .slice h.C N.c.length h.e], .int .i64 left] w fun e w' => e = .returned (.int .i64 (szR left (nsz N))) ∧ Below w.heap.size w w' := by
  obtain ⟨A, c, hs, L, d, C, e0⟩ := h
  obtain ⟨ws, ls, cs⟩ := N
  obtain ⟨w0, hw0⟩ : ∃ w0, w0 = w.alloc (.cells #[.slice A ws.length c, .slice L ls.length d, .slice C cs.length e0] 26) := ⟨_, rfl⟩
  obtain ⟨hb, hh, hsz⟩ := box3_any w (.slice A ws.length c) (.slice L ls.length d) (.slice C cs.length e0) 26
  rw [← hw0] at hb hh hsz
  obtain ⟨y0, y1, y2⟩ := three_cells hh
  have HS := Lib.hid (szSS_any A ws.length c ws left w0 _ (r.1.below hb) hq hn h0 h1)
  have HB := Lib.hid hb
  have hez : nsz ⟨ws, ls, cs⟩ = ws.length + total ws + ls.length + cs.length := rfl
  have HEZ := Lib.hid hez
  clear r hb hh hq hsz hez
  dsimp only at hn hl hc ⊢
  rw [HEZ.out]
  generalize total ws = T at *
  by_cases c1 : left - (ws.length + T : Nat) < 0
  · rw [szR_neg c1] at HS
    have HE : Hid ((-1 : Int) = szR left (ws.length + T + ls.length + cs.length)) := Lib.hid (szR_neg (by omega)).symm
    clear c1
    go_enter Tryz.func13, Tryz.ntmps13
    go_wp2_with (fail)
    rw [← hw0]
    clear hw0
    refine HS.out.mono ?_
    rintro e w' ⟨rfl, rfl⟩
    go_wp2
    go_ret
    exact ⟨ret_i64 HE.out, HB.out⟩
  · rw [szR_pos c1] at HS
    obtain ⟨M, hM⟩ : ∃ M : Int, left - (ws.length + T : Nat) = M := ⟨_, rfl⟩
    rw [hM] at HS
    have HSL := Lib.hid (szL_any L ls.length d M w0 hl (by omega) (by omega))
    have hd1 : decide (M < 0) = false := decide_eq_false (by omega)
    by_cases c2 : M - ls.length < 0
    · rw [szR_neg c2] at HSL
      have HE : Hid ((-1 : Int) = szR left (ws.length + T + ls.length + cs.length)) := Lib.hid (szR_neg (by omega)).symm
      clear c1 c2 hM
      go_enter Tryz.func13, Tryz.ntmps13
      go_wp2_with (fail)
      rw [← hw0]
      clear hw0
      refine HS.out.mono ?_
      rintro e w' ⟨rfl, rfl⟩
      go_wp2_with (fail)
      refine HSL.out.mono ?_
      rintro e w' ⟨rfl, rfl⟩
      go_wp2
      go_ret
      exact ⟨ret_i64 HE.out, HB.out⟩
    · rw [szR_pos c2] at HSL
      obtain ⟨M2, hM2⟩ : ∃ M2 : Int, M - ls.length = M2 := ⟨_, rfl⟩
      rw [hM2] at HSL
      have HSI := Lib.hid (szI_any C cs.length e0 M2 w0 hc (by omega) (by omega))
      have hd2 : decide (M2 < 0) = false := decide_eq_false (by omega)
      have HE : Hid (szR M2 cs.length = szR left (ws.length + T + ls.length + cs.length)) := Lib.hid (by
        unfold szR
        rw [show left - ((ws.length + T + ls.length + cs.length : Nat) : Int) = M2 - (cs.length : Nat) by omega])
      clear c1 c2 hM hM2
      generalize szR M2 cs.length = R at *
      by_cases c3 : R < 0
      · have hd3 : decide (R < 0) = true := decide_eq_true c3
        have HR : Hid ((-1 : Int) = R) := Lib.hid (by
          have := HE.out
          unfold szR at this
          by_cases h5 : left - (ws.length + T + ls.length + cs.length : Nat) < 0
          · rw [if_pos h5] at this; exact this.symm
          · rw [if_neg h5] at this; omega)
        clear c3
        go_enter Tryz.func13, Tryz.ntmps13
        go_wp2_with (fail)
        rw [← hw0]
        clear hw0
        refine HS.out.mono ?_
        rintro e w' ⟨rfl, rfl⟩
        go_wp2_with (fail)
        refine HSL.out.mono ?_
        rintro e w' ⟨rfl, rfl⟩
        go_wp2_with (fail)
        refine HSI.out.mono ?_
        rintro e w' ⟨rfl, rfl⟩
        go_wp2
        go_ret
        exact ⟨ret_i64 (HR.out.trans HE.out), HB.out⟩
      · have hd3 : decide (R < 0) = false := decide_eq_false c3
        clear c3
        go_enter Tryz.func13, Tryz.ntmps13
        go_wp2_with (fail)
        rw [← hw0]
        clear hw0
        refine HS.out.mono ?_
        rintro e w' ⟨rfl, rfl⟩
        go_wp2_with (fail)
        refine HSL.out.mono ?_
        rintro e w' ⟨rfl, rfl⟩
        go_wp2_with (fail)
        refine HSI.out.mono ?_
        rintro e w' ⟨rfl, rfl⟩
        go_wp2
        go_ret
        exact ⟨ret_i64 HE.out, HB.out⟩
/-- A link copied. -/
theorem set4_at {w : World} {b : Nat} {c0 c1 c2 c3 : Value} {t : TypeId} (h : w.heap[b]? = some (.cells #[c0, c1, c2, c3] t (0, 0))) (v0 v1 v2 v3 : Value) :
    ((((w.setCell ⟨b, 0, none⟩ v0).setCell ⟨b, 1, none⟩ v1).setCell ⟨b, 2, none⟩ v2).setCell ⟨b, 3, none⟩ v3).heap[b]? = some (.cells #[v0, v1, v2, v3] t (0, 0)) := by
  have h0 := heap_setCell_same w b 0 _ t v0 h
  have h1 := heap_setCell_same _ b 1 _ t v1 h0
  have h2 := heap_setCell_same _ b 2 _ t v2 h1
  have h3 := heap_setCell_same _ b 3 _ t v3 h2
  simpa using h3
theorem set4_below {w0 w : World} {B b : Nat} (h : Below B w0 w) (hb : B ≤ b) (v0 v1 v2 v3 : Value) : Below B w0 ((((w.setCell ⟨b, 0, none⟩ v0).setCell ⟨b, 1, none⟩ v1).setCell ⟨b, 2, none⟩ v2).setCell ⟨b, 3, none⟩ v3) :=
  (((h.setCell (p := ⟨b, 0, none⟩) hb v0).setCell (p := ⟨b, 1, none⟩) hb v1).setCell (p := ⟨b, 2, none⟩) hb v2).setCell (p := ⟨b, 3, none⟩) hb v3
theorem toLk_any (x : Lk) (w : World) :
    Calls Tryz.prog 101 #[.agg #[.int .i64 x.k, .int .i64 x.a, .int .i64 x.b, .int .i64 x.c]] w fun e w' => e = .returned (.agg #[.int .i64 x.k, .int .i64 x.a, .int .i64 x.b, .int .i64 x.c]) ∧ Below w.heap.size w w' := by
  obtain ⟨k, a, b, c⟩ := x
  dsimp only
  go_enter Tryz.func101, Tryz.ntmps101
  go_wp2
  (try simp only [Exit.inBlock, Exit.then])
  refine bodyPost_ret (results_cell_row rfl _ _ (w.heap.size + 1) _ _ (0, 0) _ rfl (heap_two _ _ _ _) Tryz.underlying103 rfl (by kernel_rfl)) rfl ?_
  exact ⟨rfl, (((Below.refl _ _).alloc (Nat.le_refl _) _).alloc (by simp) _).alloc (by simp; omega) _⟩
/-- Four cells of a row stored, one after another. -/
def fourW (w : World) (b o : Nat) (v0 v1 v2 v3 : Value) : World := (((w.setCell ⟨b, o, none⟩ v0).setCell ⟨b, o + 1, none⟩ v1).setCell ⟨b, o + 2, none⟩ v2).setCell ⟨b, o + 3, none⟩ v3
def put4 (xs : List Value) (o : Nat) (v0 v1 v2 v3 : Value) : List Value := (((xs.set o v0).set (o + 1) v1).set (o + 2) v2).set (o + 3) v3
theorem put4_len (xs : List Value) (o : Nat) (v0 v1 v2 v3 : Value) : (put4 xs o v0 v1 v2 v3).length = xs.length := by simp [put4]
theorem put4_at {xs : List Value} {o : Nat} (h : o + 4 ≤ xs.length) (v0 v1 v2 v3 : Value) : (put4 xs o v0 v1 v2 v3)[o]? = some v0 ∧ (put4 xs o v0 v1 v2 v3)[o + 1]? = some v1 ∧ (put4 xs o v0 v1 v2 v3)[o + 2]? = some v2 ∧ (put4 xs o v0 v1 v2 v3)[o + 3]? = some v3 := by
  unfold put4
  refine ⟨?_, ?_, ?_, ?_⟩
  · rw [List.getElem?_set_ne (by omega), List.getElem?_set_ne (by omega), List.getElem?_set_ne (by omega), List.getElem?_set_self (by omega)]
  · rw [List.getElem?_set_ne (by omega), List.getElem?_set_ne (by omega), List.getElem?_set_self (by simp; omega)]
  · rw [List.getElem?_set_ne (by omega), List.getElem?_set_self (by simp; omega)]
  · rw [List.getElem?_set_self (by simp; omega)]
theorem put4_far {xs : List Value} {o j : Nat} (h : j < o ∨ o + 4 ≤ j) (v0 v1 v2 v3 : Value) : (put4 xs o v0 v1 v2 v3)[j]? = xs[j]? := by
  unfold put4
  rw [List.getElem?_set_ne (by omega), List.getElem?_set_ne (by omega), List.getElem?_set_ne (by omega), List.getElem?_set_ne (by omega)]
theorem four_own {w : World} {base g n cap o : Nat} {e : TypeId} {xs : List Value} (h : w.ownsRow base e 4 (.slice (some ⟨g, 0, none⟩) n cap) n xs) (v0 v1 v2 v3 : Value) :
    (fourW w g o v0 v1 v2 v3).ownsRow base e 4 (.slice (some ⟨g, 0, none⟩) n cap) n (put4 xs o v0 v1 v2 v3) ∧ w.grownBy (fourW w g o v0 v1 v2 v3) (some g) := by
  have h0 := h.stored o v0
  have h1 := h0.1.stored (o + 1) v1
  have h2 := h1.1.stored (o + 2) v2
  have h3 := h2.1.stored (o + 3) v3
  exact ⟨h3.1, grownBy_trans (grownBy_trans (grownBy_trans h0.2 h1.2) h2.2) h3.2⟩
/-- The first k links of a row that is being filled. -/
def Upto4 (xs : List Value) (ls : List Lk) (k : Nat) : Prop := xs.length = ls.length * 4 ∧ ∀ j, j < k * 4 → xs[j]? = some (.int .i64 ((flL ls).getD j 0))
theorem Upto4.step {xs : List Value} {ls : List Lk} {k : Nat} (h : Upto4 xs ls k) (hk : k < ls.length) : Upto4 (put4 xs (k * 4) (.int .i64 (ls.getD k Lk.nil).k) (.int .i64 (ls.getD k Lk.nil).a) (.int .i64 (ls.getD k Lk.nil).b) (.int .i64 (ls.getD k Lk.nil).c)) ls (k + 1) := by
  obtain ⟨hl, hc⟩ := h
  refine ⟨by rw [put4_len]; exact hl, fun j hj => ?_⟩
  obtain ⟨f0, f1, f2, f3⟩ := flL_at ls k hk
  obtain ⟨p0, p1, p2, p3⟩ := put4_at (xs := xs) (o := k * 4) (by omega) (.int .i64 (ls.getD k Lk.nil).k) (.int .i64 (ls.getD k Lk.nil).a) (.int .i64 (ls.getD k Lk.nil).b) (.int .i64 (ls.getD k Lk.nil).c)
  by_cases e : j < k * 4
  · rw [put4_far (.inl e)]; exact hc j e
  · have : j = k * 4 ∨ j = k * 4 + 1 ∨ j = k * 4 + 2 ∨ j = k * 4 + 3 := by omega
    rcases this with rfl | rfl | rfl | rfl
    · rw [p0, f0]
    · rw [p1, f1]
    · rw [p2, f2]
    · rw [p3, f3]
theorem Upto4.done {xs : List Value} {ls : List Lk} (h : Upto4 xs ls ls.length) : xs = (flL ls).map (Value.int .i64) := by
  obtain ⟨hl, hc⟩ := h
  apply List.ext_getElem?
  intro j
  by_cases e : j < ls.length * 4
  · rw [hc j e]
    simp [List.getD, flL_len, e]
  · rw [List.getElem?_eq_none (by omega), List.getElem?_eq_none (by rw [List.length_map, flL_len]; omega)]
theorem info_link : (Tryz.prog.info? 103).map (fun i => (i.zero, i.size, i.bytes)) = some (some (.agg #[.int .i64 0, .int .i64 0, .int .i64 0, .int .i64 0]), 4, 32) := by kernel_rfl
theorem info_parts_link : ∃ i, Tryz.prog.info? 103 = some i ∧ i.zero = some (.agg #[.int .i64 0, .int .i64 0, .int .i64 0, .int .i64 0]) ∧ i.size = 4 ∧ i.bytes = 32 := by
  obtain ⟨i, hi, he⟩ := Option.map_eq_some_iff.1 info_link
  simp only [Prod.mk.injEq] at he
  exact ⟨i, hi, he.1, he.2.1, he.2.2⟩
set_option maxHeartbeats 4000000 in
theorem toLS_any (A : Option Addr) (n c : Nat) (ls : List Lk) (w : World) (h : RdL w w.heap.size A n ls) (hn : n ≤ 1048576) :
    Calls Tryz.prog 48 #[.slice A n c] w fun e w' => e = .returned (.slice (some ⟨w.heap.size, 0, none⟩) n n) ∧ w'.ownsRow w.heap.size 103 4 (.slice (some ⟨w.heap.size, 0, none⟩) n n) n ((flL ls).map (Value.int .i64)) ∧ Below w.heap.size w w' := by
  obtain ⟨i0, hi0, hz0, hz1, hz2⟩ := info_parts_link
  have hl := h.len
  subst hl
  have b2 : i0.bytes * ls.length ≤ 281474976710656 := by rw [hz2]; omega
  have b3 : ls.length ≤ maxLen := by unfold maxLen; omega
  go_enter Tryz.func48, Tryz.ntmps48
  go_wp2_with (at_make; refine wpList_make_full _ rfl _ _ _ rfl w.heap.size 103 i0 (.agg #[.int .i64 0, .int .i64 0, .int .i64 0, .int .i64 0]) 4 Tryz.underlying28 hi0 hz0 hz1 _ _ _ _ ls.length rfl rfl rfl rfl b2 b3 (Nat.le_refl _) ?_; intro w1 hown hg)
  have hbel : Below w.heap.size w w1 := (Below.refl _ _).grown hg (Nat.le_refl _) (by intro k hk; cases hk)
  obtain ⟨xs, hxs, hxl⟩ : ∃ xs : List Value, w1.ownsRow w.heap.size 103 4 (.slice (some ⟨w.heap.size, 0, none⟩) ls.length ls.length) ls.length xs ∧ xs.length = ls.length * 4 := ⟨_, hown, hown.1⟩
  have HO := Lib.hid hxs
  have HU : Hid (Upto4 xs ls 0) := Lib.hid ⟨hxl, fun j hj => absurd hj (by omega)⟩
  have HB := Lib.hid hbel
  have HR := Lib.hid h
  clear hg hown b2 b3 hi0 hz0 hz1 hz2 hbel hxs hxl h
  go_loopw [4] (fun i wr => ∃ (k : Nat) (xs : List Value), k ≤ ls.length ∧ i = .int .i64 k ∧ Upto4 xs ls k ∧ wr.ownsRow w.heap.size 103 4 (.slice (some ⟨w.heap.size, 0, none⟩) ls.length ls.length) ls.length xs ∧ Below w.heap.size w wr) (fun i _ => ls.length - (intOf i).toNat)
  case atStart => exact ⟨0, xs, Nat.zero_le _, rfl, HU.out, HO.out, HB.out⟩
  case round =>
    obtain ⟨k, ys, hk, rfl, hU, hO, hB⟩ := hrel
    clear HU HO HB
    by_cases hlt : k < ls.length
    · obtain ⟨b, off, rfl, hbb, hcells⟩ := HR.out.at (by omega)
      obtain ⟨x0, x1, x2, x3⟩ := hcells k hlt
      have hblt := hbb
      replace x0 := (hB.cell (p := ⟨b, off + k * 4, none⟩) hbb).trans x0
      replace x1 := (hB.cell (p := ⟨b, off + k * 4 + 1, none⟩) hbb).trans x1
      replace x2 := (hB.cell (p := ⟨b, off + k * 4 + 2, none⟩) hbb).trans x2
      replace x3 := (hB.cell (p := ⟨b, off + k * 4 + 3, none⟩) hbb).trans x3
      have HT := Lib.hid (toLk_any (ls.getD k Lk.nil) wr)
      have HS := Lib.hid (hU.step hlt)
      have HO := Lib.hid hO; have HB := Lib.hid hB
      have hyl := hU.1
      clear hcells hU hO hB
      generalize (ls.getD k Lk.nil).k = sk at *; generalize (ls.getD k Lk.nil).a = sa at *; generalize (ls.getD k Lk.nil).b = sb at *; generalize (ls.getD k Lk.nil).c = sc at *
      go_wp2_with (fail)
      refine HT.out.mono ?_
      rintro e w2 ⟨rfl, bel⟩
      have o2 := own_below HO.out bel (Nat.le_refl _)
      have B2 := Lib.hid (HB.out.trans (bel.mono HB.out.size))
      obtain ⟨q1, q2⟩ := four_own (o := k * 4) o2 (.int .i64 sk) (.int .i64 sa) (.int .i64 sb) (.int .i64 sc)
      have HQ1 := Lib.hid q1
      have HQ2 := Lib.hid (B2.out.grown q2 B2.out.size (by intro r hr; injection hr with hr; omega))
      have cl := fun t (ht : t < 4) => o2.cellAt (g := w.heap.size) (k * 4 + t) (by omega)
      have fr := fun t => o2.frozenAt (g := w.heap.size) (k * 4 + t)
      obtain ⟨d0, e0⟩ : ∃ u, w2.cell? ⟨w.heap.size, k * 4, none⟩ = some u := ⟨_, (cl 0 (by omega)).trans (List.getElem?_eq_getElem (show k * 4 + 0 < ys.length by omega))⟩
      obtain ⟨d1, e1⟩ : ∃ u, w2.cell? ⟨w.heap.size, k * 4 + 1, none⟩ = some u := ⟨_, (cl 1 (by omega)).trans (List.getElem?_eq_getElem (show k * 4 + 1 < ys.length by omega))⟩
      obtain ⟨d2, e2⟩ : ∃ u, w2.cell? ⟨w.heap.size, k * 4 + 2, none⟩ = some u := ⟨_, (cl 2 (by omega)).trans (List.getElem?_eq_getElem (show k * 4 + 2 < ys.length by omega))⟩
      obtain ⟨d3, e3⟩ : ∃ u, w2.cell? ⟨w.heap.size, k * 4 + 3, none⟩ = some u := ⟨_, (cl 3 (by omega)).trans (List.getElem?_eq_getElem (show k * 4 + 3 < ys.length by omega))⟩
      have fr0 : w2.frozen? ⟨w.heap.size, k * 4, none⟩ = false := fr 0
      have fr1 := fr 1; have fr2 := fr 2; have fr3 := fr 3
      clear cl fr o2 bel q1 q2 HT x0 x1 x2 x3 HO HB hyl
      go_wp2
      go_roundw
      case rel => exact ⟨k + 1, _, by omega, by go_num, HS.out, HQ1.out, HQ2.out⟩
      case measure => simp [intOf]; omega
    · have hkl : k = ls.length := by omega
      subst hkl
      have hd := hU.done
      subst hd
      have HO := Lib.hid hO; have HB := Lib.hid hB
      clear hU hO hB
      go_wp2
      go_ret
      exact ⟨rfl, HO.out, HB.out⟩
end
section
open Go.ChangeShapes Go.WideShapes Go.ChangeAt Go.RowKit

theorem array_three {α : Type} {cs : Array α} (h : cs.size = 3) : ∃ c0 c1 c2, cs = #[c0, c1, c2] := by
  obtain ⟨l⟩ := cs
  match l, h with
  | [c0, c1, c2], _ => exact ⟨c0, c1, c2, rfl⟩
theorem open_agg3 {H : Type} {enc : TypeId × Value → H} {P : Program} {w : World} {base : Nat} {spare : Nat → Bool} {held : Bool} {r : Reach} {b0 : Nat} {t : TypeId} {f0 f1 f2 : Field} {v : Value} {d : DataW H} {p : List MemPlace} (hs : P.underlying t = some (.struct #[f0, f1, f2]))
    (o0 : f0.offset = 0) (o1 : f1.offset = 1) (o2 : f2.offset = 2) (k0 : P.cellsOf f0.type = 1) (k1 : P.cellsOf f1.type = 1) (k2 : P.cellsOf f2.type = 1)
    (hC : P.cellsOf t = 3) (hv : Value.okWide P w r b0 t v) (h : DataW.Trod enc P w base spare held t v d p) :
    ∃ (v0 v1 v2 : Value) (n : Nat) (y0 y1 y2 : DataW H × List MemPlace), v = .agg #[v0, v1, v2] ∧ DataW.trod enc P w base spare held n f0.type [v0] = some y0 ∧ DataW.trod enc P w base spare held n f1.type [v1] = some y1 ∧ DataW.trod enc P w base spare held n f2.type [v2] = some y2 := by
  obtain ⟨cs, rfl, hsz⟩ := okWide_struct hs hv
  obtain ⟨c0, c1, c2, rfl⟩ := array_three (hsz.trans hC)
  obtain ⟨fuel, hf⟩ := h
  obtain ⟨xs, n, _, _, _, hlen, hx⟩ := DataW.trod_struct hs hf
  match xs, hlen with
  | [y0, y1, y2], _ =>
    exact ⟨c0, c1, c2, n, y0, y1, y2, rfl, by simpa [Value.cells, o0, k0] using hx 0 f0 rfl, by simpa [Value.cells, o1, k1] using hx 1 f1 rfl, by simpa [Value.cells, o2, k2] using hx 2 f2 rfl⟩
theorem list_four {α : Type} {l : List α} (h : l.length = 4) : ∃ c0 c1 c2 c3, l = [c0, c1, c2, c3] := by
  match l, h with
  | [c0, c1, c2, c3], _ => exact ⟨c0, c1, c2, c3, rfl⟩
theorem trod_four {H : Type} {enc : TypeId × Value → H} {P : Program} {w : World} {base fuel : Nat} {spare : Nat → Bool} {held : Bool} {t : TypeId} {f0 f1 f2 f3 : Field} {cs : List Value} {x : DataW H × List MemPlace} (hs : P.underlying t = some (.struct #[f0, f1, f2, f3]))
    (o0 : f0.offset = 0) (o1 : f1.offset = 1) (o2 : f2.offset = 2) (o3 : f3.offset = 3) (k0 : P.cellsOf f0.type = 1) (k1 : P.cellsOf f1.type = 1) (k2 : P.cellsOf f2.type = 1) (k3 : P.cellsOf f3.type = 1)
    (hC : P.cellsOf t = 4) (h : DataW.trod enc P w base spare held fuel t cs = some x) :
    ∃ (v0 v1 v2 v3 : Value) (n : Nat) (y0 y1 y2 y3 : DataW H × List MemPlace), cs = [v0, v1, v2, v3] ∧ DataW.trod enc P w base spare held n f0.type [v0] = some y0 ∧ DataW.trod enc P w base spare held n f1.type [v1] = some y1 ∧
      DataW.trod enc P w base spare held n f2.type [v2] = some y2 ∧ DataW.trod enc P w base spare held n f3.type [v3] = some y3 := by
  obtain ⟨xs, n, _, _, hcl, hlen, hx⟩ := DataW.trod_struct hs h
  obtain ⟨c0, c1, c2, c3, rfl⟩ := list_four (hcl.trans hC)
  match xs, hlen with
  | [y0, y1, y2, y3], _ =>
    exact ⟨c0, c1, c2, c3, n, y0, y1, y2, y3, rfl, by simpa [o0, k0] using hx 0 f0 rfl, by simpa [o1, k1] using hx 1 f1 rfl, by simpa [o2, k2] using hx 2 f2 rfl, by simpa [o3, k3] using hx 3 f3 rfl⟩
set_option maxRecDepth 100000 in
/-- The four cells of a link that came in. -/
theorem cells_link {H : Type} {enc : TypeId × Value → H} {W : World} {fuel : Nat} {cs : List Value} {x : DataW H × List MemPlace} (h : DataW.trod enc Tryz.prog W 0 (fun _ => true) true fuel 112 cs = some x) :
    ∃ l : Lk, cs = [.int .i64 l.k, .int .i64 l.a, .int .i64 l.b, .int .i64 l.c] := by
  have e := trod_four (P := Tryz.prog) (w := W) (enc := enc) (base := 0) (spare := fun _ => true) (held := true) (cs := cs) (x := x) (fuel := fuel) Tryz.underlying112 (by kernel_rfl) (by kernel_rfl) (by kernel_rfl) (by kernel_rfl) (by kernel_rfl) (by kernel_rfl) (by kernel_rfl) (by kernel_rfl) (by kernel_rfl)
  obtain ⟨v0, v1, v2, v3, n, y0, y1, y2, y3, rfl, h0, h1, h2, h3⟩ := e h
  obtain ⟨r, e0, _, _⟩ := DataW.trod_int Tryz.underlying2 h0
  obtain ⟨a, e1, _, _⟩ := DataW.trod_int Tryz.underlying2 h1
  obtain ⟨b, e2, _, _⟩ := DataW.trod_int Tryz.underlying2 h2
  obtain ⟨i, e3, _, _⟩ := DataW.trod_int Tryz.underlying2 h3
  obtain rfl : v0 = _ := List.singleton_inj.1 e0
  obtain rfl : v1 = _ := List.singleton_inj.1 e1
  obtain rfl : v2 = _ := List.singleton_inj.1 e2
  obtain rfl : v3 = _ := List.singleton_inj.1 e3
  exact ⟨⟨r, a, b, i⟩, rfl⟩
theorem addN {b off : Nat} {m : Nat} : (⟨b, off, none⟩ : Addr).add m = ⟨b, off + m, none⟩ := by
  unfold Addr.add
  split <;> simp_all
instance : Inhabited Lk := ⟨Lk.nil⟩
/-- The row of links made of its cells. -/
theorem rdl_of {w : World} {B b off : Nat} {ls : List Lk} (hb : b < B) (hc : ∀ i, i < ls.length → w.cell? ⟨b, off + i * 4, none⟩ = some (.int .i64 (ls.getD i Lk.nil).k) ∧ w.cell? ⟨b, off + i * 4 + 1, none⟩ = some (.int .i64 (ls.getD i Lk.nil).a) ∧ w.cell? ⟨b, off + i * 4 + 2, none⟩ = some (.int .i64 (ls.getD i Lk.nil).b) ∧ w.cell? ⟨b, off + i * 4 + 3, none⟩ = some (.int .i64 (ls.getD i Lk.nil).c)) :
    RdL w B (some ⟨b, off, none⟩) ls.length ls := by
  refine ⟨rfl, flL_len ls, fun _ => ⟨b, off, rfl, hb, fun j hj => ?_⟩⟩
  have h4 : j / 4 < ls.length := by omega
  obtain ⟨c0, c1, c2, c3⟩ := hc (j / 4) h4
  obtain ⟨f0, f1, f2, f3⟩ := flL_at ls (j / 4) h4
  have : j = j / 4 * 4 ∨ j = j / 4 * 4 + 1 ∨ j = j / 4 * 4 + 2 ∨ j = j / 4 * 4 + 3 := by omega
  rcases this with e | e | e | e
  · rw [e, f0]; exact c0
  · rw [e, f1, ← Nat.add_assoc]; exact c1
  · rw [e, f2, ← Nat.add_assoc]; exact c2
  · rw [e, f3, ← Nat.add_assoc]; exact c3
/-- A slice of links that came in. -/
theorem open_links {H : Type} {enc : TypeId × Value → H} {W : World} {fuel : Nat} {v : Value} {x : DataW H × List MemPlace}
    (hf : DataW.trod enc Tryz.prog W 0 (fun _ => true) true fuel 23 [v] = some x) : ∃ a n c ls, v = .slice a n c ∧ RdL W W.heap.size a n ls ∧ n ≤ c ∧ n ≤ maxLen := by
  have c4 : Tryz.prog.cellsOf 112 = 4 := by kernel_rfl
  rcases DataW.trod_slice Tryz.underlying23 hf with ⟨hcs, _⟩ | ⟨x, l, c, elems, rest, n, _, hcs, _, _, hl, hm, hlen, hel, _⟩
  · obtain rfl : v = .slice none 0 0 := by simpa using hcs
    exact ⟨none, 0, 0, [], rfl, RdL.nil _ _ _, Nat.le_refl _, Nat.zero_le _⟩
  · obtain rfl : v = .slice (some x) l c := by simpa using hcs
    rw [c4] at hel
    have each : ∀ i, i < l → ∃ y : Lk, ∀ t, t < 4 → W.cell? ((x.add (i * 4)).add t) = [Value.int .i64 y.k, .int .i64 y.a, .int .i64 y.b, .int .i64 y.c][t]? := by
      intro i hi
      have he := hel i hi
      rw [List.getElem?_eq_getElem (by omega)] at he
      obtain ⟨cs, hc, ht⟩ := Option.bind_eq_some_iff.1 he
      obtain ⟨s, rfl⟩ := cells_link ht
      obtain ⟨_, hcl, hcc⟩ := World.cells?_some hc
      exact ⟨s, fun t ht => hcc t ht⟩
    obtain ⟨y, hy⟩ := Go.Deep.choose_lt each
    by_cases hn : 0 < l
    · obtain ⟨b, off, spot⟩ := x
      have h0 := hy 0 hn 0 (by omega)
      have hs : spot = none := by
        have : W.cell? ((⟨b, off, spot⟩ : Addr).add (0 * 4) |>.add 0) = some (.int .i64 (y 0).k) := h0
        simpa [Addr.add] using World.cell?_spot this
      subst hs
      have hlt : b < W.heap.size := by
        have : W.cell? ((⟨b, off, none⟩ : Addr).add (0 * 4) |>.add 0) = some (.int .i64 (y 0).k) := h0
        have := World.block_lt_of_cell? W _ this
        rw [addN, addN] at this
        exact this
      have hle : ((List.range l).map y).length = l := by simp
      have key := rdl_of (w := W) (b := b) (off := off) (ls := (List.range l).map y) hlt (fun k hk => by
        rw [hle] at hk
        have e : ((List.range l).map y).getD k Lk.nil = y k := by simp [List.getD, hk]
        rw [e]
        have gt : ∀ t, t < 4 → W.cell? ⟨b, off + k * 4 + t, none⟩ = [Value.int .i64 (y k).k, .int .i64 (y k).a, .int .i64 (y k).b, .int .i64 (y k).c][t]? := fun t ht => by
          have := hy k hk t ht
          rw [addN, addN] at this
          exact this
        exact ⟨gt 0 (by omega), gt 1 (by omega), gt 2 (by omega), gt 3 (by omega)⟩)
      rw [hle] at key
      exact ⟨_, l, c, _, rfl, key, hl, by omega⟩
    · obtain rfl : l = 0 := by omega
      exact ⟨_, 0, c, [], rfl, RdL.nil _ _ _, hl, Nat.zero_le _⟩
set_option maxRecDepth 100000 in
/-- A net that came in. -/
theorem open_net {H : Type} {enc : TypeId × Value → H} {W : World} {base : Nat} {v : Value} {d : DataW H} {p : List MemPlace} (hv : Value.okWide Tryz.prog W .any base 26 v)
    (h : DataW.Trod enc Tryz.prog W 0 (fun _ => true) true 26 v d p) :
    ∃ (h : NH) (N : Nt), v = .agg #[.slice h.A N.w.length h.c, .slice h.L N.l.length h.d, .slice h.C N.c.length h.e] ∧ RdN W W.heap.size h N ∧ (N.w.length ≤ maxLen ∧ N.l.length ≤ maxLen ∧ N.c.length ≤ maxLen) ∧ ∀ q ∈ N.w, q.length ≤ maxLen := by
  have e := open_agg3 (r := .any) (b0 := base) (v := v) (d := d) (p := p) (P := Tryz.prog) (w := W) (enc := enc) (base := 0) (spare := fun _ => true) (held := true) Tryz.underlying26 (by kernel_rfl) (by kernel_rfl) (by kernel_rfl) (by kernel_rfl) (by kernel_rfl) (by kernel_rfl) (by kernel_rfl)
  obtain ⟨v0, v1, v2, n, y0, y1, y2, rfl, h0, h1, h2⟩ := e hv h
  obtain ⟨a, n0, c, qs, rfl, r0, _, m0, q0, _⟩ := open_rows h0
  obtain ⟨L, n1, d1, ls, rfl, r1, _, m1⟩ := open_links h1
  have hsl : ∃ A l c, v2 = .slice A l c ∧ l ≤ maxLen := by
    rcases open_ints Tryz.underlying24 Tryz.underlying2 (by kernel_rfl) h2 with ⟨hcs, _⟩ | ⟨x, l, c, zs, hcs, _, hl, hm, _⟩
    · exact ⟨none, 0, 0, List.singleton_inj.1 hcs, Nat.zero_le _⟩
    · exact ⟨some x, l, c, List.singleton_inj.1 hcs, by omega⟩
  obtain ⟨C, n2, e2, rfl, m2⟩ := hsl
  obtain ⟨f, r2, _, _⟩ := open_i64s (d := y2.1) (p := y2.2) ⟨n, by simpa [Value.cells] using h2⟩
  have l0 := r0.len; have l1 := r1.len; have l2 := r2.len
  subst l0 l1 l2
  exact ⟨⟨a, c, fun _ => (none, 0), L, d1, C, e2⟩, ⟨qs, ls, f⟩, rfl, ⟨r0, r1, r2⟩, ⟨m0, m1, m2⟩, q0⟩
/-- Too great, or within the laws' bound. -/
theorem sz_casesN (left : Int) (hl : left ≤ 1048576) (N : Nt) : szR left (nsz N) = -1 ∨ ∃ L, szR left (nsz N) = L ∧ 0 ≤ L ∧ L ≤ 1048576 ∧ N.w.length ≤ 1048576 ∧ total N.w ≤ 1048576 ∧ N.l.length ≤ 1048576 ∧ N.c.length ≤ 1048576 := by
  by_cases h : left - (nsz N : Nat) < 0
  · exact .inl (szR_neg h)
  · have hz : nsz N = N.w.length + total N.w + N.l.length + N.c.length := rfl
    exact .inr ⟨left - (nsz N : Nat), szR_pos h, by omega, by omega, by omega, by omega, by omega, by omega⟩
end
end Go.Proofs.YtfdpkhiiboghiaaGreatDoor
