/- Mathematics: the leaves of the tree of links above a wire. -/
import Derived.Test.YtfanapddopafiaaDoorTrM
namespace Go.Proofs.YtfanapddopafiaaDoor
open Go.ChangeAt Go.ChangeShapes Go.RowKit Go.WideShapes

theorem src_kind {ws : List (List Int)} {x : Int} {l : Lk} (hf : fitsN ws l = true) (hs : srcB x l = true) (h1 : ¬ l.k = 1) : l.k = 3 ∨ l.k = 4 := by
  unfold srcB at hs
  rcases fitsN_kind hf with e | e | e | e
  · exact absurd e h1
  · rw [e] at hs; simp at hs
  · exact .inl e
  · exact .inr e
theorem src_no {l : Lk} {x : Nat} {ws : List (List Int)} (hf : fitsN ws l = true) (h : srcB (x : Int) l = false) : mk1 l x = 0 := by
  obtain ⟨ha, hb, hc, _⟩ := fitsN_yes hf
  obtain ⟨_, _, ea⟩ := inW_yes ha
  obtain ⟨_, _, eb⟩ := inW_yes hb
  obtain ⟨_, _, ec⟩ := inW_yes hc
  unfold srcB at h
  unfold mk1 one
  rcases fitsN_kind hf with e | e | e | e
  · rw [if_pos e]
    simp only [e] at h
    have h1 : ¬ l.a = (x : Int) := fun q => by simp [q] at h
    have h2 : ¬ l.b = (x : Int) := fun q => by simp [q] at h
    rw [if_neg (by omega), if_neg (by omega)]; rfl
  · rw [if_neg (by omega), if_pos e]
  · rw [if_neg (by omega), if_neg (by omega)]
    have h1 : ¬ l.c = (x : Int) := fun q => by simp [e, q] at h
    rw [if_neg (by omega)]
  · rw [if_neg (by omega), if_neg (by omega)]
    have h1 : ¬ l.c = (x : Int) := fun q => by simp [e, q] at h
    rw [if_neg (by omega)]
theorem src_some {N : Nt} (hv : valN N = true) {x : Int} (hx : inW N.w.length x = true) : ∃ k, N.l.findIdx? (srcB x) = some k := by
  obtain ⟨_, h1, h2⟩ := inW_yes hx
  cases hs : N.l.findIdx? (srcB x) with
  | some k => exact ⟨k, rfl⟩
  | none =>
    exfalso
    have hm := (valN_at hv h1).1
    have h0 : madeN N.l x.toNat = 0 := by
      unfold madeN
      have hz : ∀ z ∈ N.l.map (fun l => mk1 l x.toNat), z = 0 := fun z hz => by
        obtain ⟨l, hl, rfl⟩ := List.mem_map.1 hz
        have hq := List.findIdx?_eq_none_iff.1 hs l hl
        exact src_no ((List.all_eq_true.1 (valN_fits hv)) l hl) (by rw [← h2]; exact hq)
      generalize N.l.map (fun l => mk1 l x.toNat) = L at hz
      induction L with
      | nil => rfl
      | cons a L ih =>
        rw [List.sum_cons, hz a (by simp), ih fun z h => hz z (by simp [h])]
        rfl
    omega
/-- The leaves of the tree above a wire, so many links deep at most. -/
def lvG (N : Nt) : Nat → Int → List Int
  | 0, _ => []
  | f + 1, x => match N.l.findIdx? (srcB x) with
    | none => []
    | some k => if (N.l.getD k Lk.nil).k = 1 then [x] else lvG N f (N.l.getD k Lk.nil).a ++ lvG N f (N.l.getD k Lk.nil).b
/-- More depth than the formula is long changes nothing. -/
theorem lvG_more {N : Nt} (hv : valN N = true) : ∀ (f : Nat) (x : Int), wlen N x < f → lvG N (f + 1) x = lvG N f x
  | 0, x, h => absurd h (by omega)
  | f + 1, x, h => by
    conv => lhs; unfold lvG
    conv => rhs; unfold lvG
    cases hs : N.l.findIdx? (srcB x) with
    | none => rfl
    | some k =>
      obtain ⟨hk, hp⟩ := src_find hs
      have hf := link_fits hv hk
      dsimp only
      generalize N.l.getD k Lk.nil = l at *
      by_cases h1 : l.k = 1
      · rw [if_pos h1, if_pos h1]
      · have := src_less hf hp (src_kind hf hp h1)
        rw [if_neg h1, if_neg h1, lvG_more hv f l.a (by omega), lvG_more hv f l.b (by omega)]
theorem lvG_deep {N : Nt} (hv : valN N = true) (x : Int) : ∀ d, lvG N (wlen N x + 1 + d) x = lvG N (wlen N x + 1) x
  | 0 => rfl
  | d + 1 => by rw [← Nat.add_assoc, lvG_more hv _ x (by omega), lvG_deep hv x d]
/-- The leaves of the tree above a wire. -/
def lvT (N : Nt) (x : Int) : List Int := lvG N (wlen N x + 1) x
theorem lvT_at {N : Nt} (hv : valN N = true) {x : Int} {f : Nat} (h : wlen N x < f) : lvG N f x = lvT N x := by
  obtain ⟨d, rfl⟩ : ∃ d, f = wlen N x + 1 + d := ⟨f - (wlen N x + 1), by omega⟩
  exact lvG_deep hv x d
theorem lvT_leaf {N : Nt} {x : Int} {k : Nat} (h : N.l.findIdx? (srcB x) = some k) (h1 : (N.l.getD k Lk.nil).k = 1) : lvT N x = [x] := by
  unfold lvT lvG
  rw [h]
  exact if_pos h1
theorem lvT_node {N : Nt} (hv : valN N = true) {x : Int} {k : Nat} (h : N.l.findIdx? (srcB x) = some k) (h1 : ¬ (N.l.getD k Lk.nil).k = 1) : lvT N x = lvT N (N.l.getD k Lk.nil).a ++ lvT N (N.l.getD k Lk.nil).b := by
  obtain ⟨hkl, hp⟩ := src_find h
  have hf := link_fits hv hkl
  conv => lhs; unfold lvT lvG
  rw [h]
  dsimp only
  generalize N.l.getD k Lk.nil = l at *
  have hl := src_less hf hp (src_kind hf hp h1)
  rw [if_neg h1, lvT_at hv (f := wlen N x) (x := l.a) (by omega), lvT_at hv (f := wlen N x) (x := l.b) (by omega)]
theorem wlen_some {N : Nt} (hv : valN N = true) {x : Int} (hx : inW N.w.length x = true) : 1 ≤ wlen N x ∧ wlen N x ≤ 24 := by
  have hv2 := formN_valid (wAt_valid (valN_forms hv) hx)
  exact ⟨(valid_len hv2).1, (valid_len hv2).2.1⟩
theorem lvT_len {N : Nt} (hv : valN N = true) : ∀ (n : Nat) (x : Int), wlen N x ≤ n → inW N.w.length x = true → (lvT N x).length ≤ wlen N x
  | n, x, hn, hx => by
    have h1 := (wlen_some hv hx).1
    cases hs : N.l.findIdx? (srcB x) with
    | none => unfold lvT lvG; rw [hs]; exact Nat.zero_le _
    | some k =>
      obtain ⟨hk, hp⟩ := src_find hs
      have hf := link_fits hv hk
      by_cases hk1 : (N.l.getD k Lk.nil).k = 1
      · rw [lvT_leaf hs hk1]; exact h1
      · rw [lvT_node hv hs hk1, List.length_append]
        have hl := src_less hf hp (src_kind hf hp hk1)
        have ha := lvT_len hv (n - 1) (N.l.getD k Lk.nil).a (by omega) (fitsN_yes hf).1
        have hb := lvT_len hv (n - 1) (N.l.getD k Lk.nil).b (by omega) (fitsN_yes hf).2.1
        omega
  termination_by n => n
  decreasing_by all_goals omega
theorem lvT_pos {N : Nt} (hv : valN N = true) : ∀ (n : Nat) (x : Int), wlen N x ≤ n → inW N.w.length x = true → 0 < (lvT N x).length
  | n, x, hn, hx => by
    obtain ⟨k, hs⟩ := src_some hv hx
    obtain ⟨hk, hp⟩ := src_find hs
    have hf := link_fits hv hk
    by_cases hk1 : (N.l.getD k Lk.nil).k = 1
    · rw [lvT_leaf hs hk1]; exact Nat.one_pos
    · rw [lvT_node hv hs hk1, List.length_append]
      have hl := src_less hf hp (src_kind hf hp hk1)
      have ha := lvT_pos hv (n - 1) (N.l.getD k Lk.nil).a (by omega) (fitsN_yes hf).1
      omega
  termination_by n => n
  decreasing_by all_goals omega
/-- The leaves above the first k conclusions. -/
def lwU (N : Nt) (k : Nat) : List Int := (N.c.take k).flatMap (lvT N)
theorem lwU_zero (N : Nt) : lwU N 0 = [] := rfl
theorem lwU_succ {N : Nt} {k : Nat} (h : k < N.c.length) : lwU N (k + 1) = lwU N k ++ lvT N (N.c.getD k 0) := by
  unfold lwU
  rw [takeL_succ (d := 0) h, List.flatMap_append]
  simp
theorem lwU_len {N : Nt} (hv : valN N = true) : ∀ k, k ≤ N.c.length → (lwU N k).length ≤ 24 * k
  | 0, _ => by rw [lwU_zero]; exact Nat.zero_le _
  | k + 1, h => by
    have hx : inW N.w.length (N.c.getD k 0) = true := (List.all_eq_true.1 (valN_concl hv)) _ (getL_mem (d := 0) (show k < N.c.length by omega))
    have h1 := lvT_len hv _ _ (Nat.le_refl _) hx
    have h2 := (wlen_some hv hx).2
    have h3 := lwU_len hv k (by omega)
    rw [lwU_succ (by omega), List.length_append]
    omega
/-- LeafWires. -/
def lwN (N : Nt) : List Int := if valN N then lwU N N.c.length else []
theorem lwN_yes {N : Nt} (hv : valN N = true) : lwN N = lwU N N.c.length := by unfold lwN; rw [if_pos hv]
theorem lwN_no {N : Nt} (hv : valN N = false) : lwN N = [] := by unfold lwN; rw [hv]; rfl
theorem lwN_len (N : Nt) : (lwN N).length ≤ 1048576 := by
  cases hv : valN N with
  | false => rw [lwN_no hv]; exact Nat.zero_le _
  | true =>
    rw [lwN_yes hv]
    have h1 := lwU_len hv N.c.length (Nat.le_refl _)
    have h2 := valN_conc_le hv
    have h3 := (valN_size hv).1
    omega
end Go.Proofs.YtfanapddopafiaaDoor
