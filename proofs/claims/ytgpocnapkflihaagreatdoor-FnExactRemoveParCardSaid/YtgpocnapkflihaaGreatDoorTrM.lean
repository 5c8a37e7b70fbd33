/- Mathematics: the text of the tree of links above a wire, with the numbers' texts given by 'dec'. -/
import Derived.Test.YtgpocnapkflihaaGreatDoorQPgG
namespace Go.Proofs.YtgpocnapkflihaaGreatDoor
open Go.ChangeAt Go.ChangeShapes Go.RowKit Go.WideShapes

/-- The text of the tree above a wire, so many links deep at most. -/
def treeG (dec : Nat → ByteArray) (N : Nt) : Nat → Int → ByteArray
  | 0, _ => ⟨#[]⟩
  | f + 1, x => match N.l.findIdx? (srcB x) with
    | none => ⟨#[]⟩
    | some k =>
      if (N.l.getD k Lk.nil).k = 3 then ⟨#[40]⟩ ++ treeG dec N f (N.l.getD k Lk.nil).a ++ ⟨#[42]⟩ ++ treeG dec N f (N.l.getD k Lk.nil).b ++ ⟨#[41]⟩
      else if (N.l.getD k Lk.nil).k = 4 then ⟨#[40]⟩ ++ treeG dec N f (N.l.getD k Lk.nil).a ++ ⟨#[124]⟩ ++ treeG dec N f (N.l.getD k Lk.nil).b ++ ⟨#[41]⟩
      else if (N.l.getD k Lk.nil).a = x then ⟨#[97]⟩ ++ dec k else ⟨#[98]⟩ ++ dec k
/-- How long the formula of a wire is. -/
def wlen (N : Nt) (x : Int) : Nat := (wAt N.w x).length
theorem src_find {N : Nt} {x : Int} {k : Nat} (h : N.l.findIdx? (srcB x) = some k) : k < N.l.length ∧ srcB x (N.l.getD k Lk.nil) = true := by
  obtain ⟨hk, hp, _⟩ := List.findIdx?_eq_some_iff_getElem.1 h
  exact ⟨hk, by simpa [List.getD, hk] using hp⟩
theorem src_less {N : Nt} {x : Int} {l : Lk} (hf : fitsN N.w l = true) (hs : srcB x l = true) (hk : l.k = 3 ∨ l.k = 4) : wlen N l.a + wlen N l.b + 1 = wlen N x := by
  have hr := (fitsN_yes hf).2.2.2
  have hc : l.c = x := by
    unfold srcB at hs
    rcases hk with e | e <;> simpa [e] using hs
  unfold wlen
  rw [← hc]
  unfold rightN at hr
  rcases hk with e | e
  · rw [if_neg (by omega), if_pos e] at hr
    rw [of_decide_eq_true hr]; simp
  · rw [if_neg (by omega), if_neg (by omega), if_pos e] at hr
    rw [of_decide_eq_true hr]; simp
theorem link_fits {N : Nt} (hv : valN N = true) {k : Nat} (hk : k < N.l.length) : fitsN N.w (N.l.getD k Lk.nil) = true := (List.all_eq_true.1 (valN_fits hv)) _ (getL_mem hk)
/-- More depth than the formula is long changes nothing. -/
theorem treeG_more {dec : Nat → ByteArray} {N : Nt} (hv : valN N = true) : ∀ (f : Nat) (x : Int), wlen N x < f → treeG dec N (f + 1) x = treeG dec N f x
  | 0, x, h => absurd h (by omega)
  | f + 1, x, h => by
    conv => lhs; unfold treeG
    conv => rhs; unfold treeG
    cases hs : N.l.findIdx? (srcB x) with
    | none => rfl
    | some k =>
      obtain ⟨hk, hp⟩ := src_find hs
      have hf := link_fits hv hk
      dsimp only
      generalize N.l.getD k Lk.nil = l at *
      by_cases h3 : l.k = 3
      · have := src_less hf hp (.inl h3)
        rw [if_pos h3, if_pos h3, treeG_more hv f l.a (by omega), treeG_more hv f l.b (by omega)]
      · by_cases h4 : l.k = 4
        · have := src_less hf hp (.inr h4)
          rw [if_neg h3, if_neg h3, if_pos h4, if_pos h4, treeG_more hv f l.a (by omega), treeG_more hv f l.b (by omega)]
        · rw [if_neg h3, if_neg h3, if_neg h4, if_neg h4]
theorem treeG_deep {dec : Nat → ByteArray} {N : Nt} (hv : valN N = true) (x : Int) : ∀ d, treeG dec N (wlen N x + 1 + d) x = treeG dec N (wlen N x + 1) x
  | 0 => rfl
  | d + 1 => by rw [← Nat.add_assoc, treeG_more hv _ x (by omega), treeG_deep hv x d]
/-- The text of the tree above a wire. -/
def trT (dec : Nat → ByteArray) (N : Nt) (x : Int) : ByteArray := treeG dec N (wlen N x + 1) x
theorem trT_at {dec : Nat → ByteArray} {N : Nt} (hv : valN N = true) {x : Int} {f : Nat} (h : wlen N x < f) : treeG dec N f x = trT dec N x := by
  obtain ⟨d, rfl⟩ : ∃ d, f = wlen N x + 1 + d := ⟨f - (wlen N x + 1), by omega⟩
  exact treeG_deep hv x d
theorem trT_none {dec : Nat → ByteArray} {N : Nt} {x : Int} (h : N.l.findIdx? (srcB x) = none) : trT dec N x = ⟨#[]⟩ := by
  unfold trT treeG
  rw [h]
/-- The tree above the output of a tensor or par; the leaves. -/
theorem trT_node {dec : Nat → ByteArray} {N : Nt} (hv : valN N = true) {x : Int} {k : Nat} (h : N.l.findIdx? (srcB x) = some k) (hk : (N.l.getD k Lk.nil).k = 3 ∨ (N.l.getD k Lk.nil).k = 4) :
    trT dec N x = ⟨#[40]⟩ ++ trT dec N (N.l.getD k Lk.nil).a ++ (if (N.l.getD k Lk.nil).k = 3 then ⟨#[42]⟩ else ⟨#[124]⟩) ++ trT dec N (N.l.getD k Lk.nil).b ++ ⟨#[41]⟩ := by
  obtain ⟨hkl, hp⟩ := src_find h
  have hf := link_fits hv hkl
  conv => lhs; unfold trT treeG
  rw [h]
  dsimp only
  generalize N.l.getD k Lk.nil = l at *
  have hl := src_less hf hp hk
  rw [trT_at hv (f := wlen N x) (x := l.a) (by omega), trT_at hv (f := wlen N x) (x := l.b) (by omega)]
  by_cases h3 : l.k = 3
  · rw [if_pos h3, if_pos h3]
  · rw [if_neg h3, if_neg h3, if_pos (by omega)]
theorem trT_leaf {dec : Nat → ByteArray} {N : Nt} {x : Int} {k : Nat} (h : N.l.findIdx? (srcB x) = some k) (h3 : ¬ (N.l.getD k Lk.nil).k = 3) (h4 : ¬ (N.l.getD k Lk.nil).k = 4) :
    trT dec N x = (if (N.l.getD k Lk.nil).a = x then ⟨#[97]⟩ else ⟨#[98]⟩) ++ dec k := by
  unfold trT treeG
  rw [h]
  dsimp only
  rw [if_neg h3, if_neg h4]
  by_cases ha : (N.l.getD k Lk.nil).a = x
  · rw [if_pos ha, if_pos ha]
  · rw [if_neg ha, if_neg ha]
/-- How long the text is. -/
theorem trT_size {dec : Nat → ByteArray} {N : Nt} (hv : valN N = true) (hd : ∀ k, k < 48 → (dec k).size ≤ 2) : ∀ (n : Nat) (x : Int), wlen N x ≤ n → (trT dec N x).size ≤ 6 * wlen N x + 3
  | n, x, hn => by
    cases hs : N.l.findIdx? (srcB x) with
    | none => rw [trT_none hs]; exact Nat.zero_le _
    | some k =>
      obtain ⟨hk, hp⟩ := src_find hs
      have hf := link_fits hv hk
      have h48 := (valN_size hv).2
      by_cases h34 : (N.l.getD k Lk.nil).k = 3 ∨ (N.l.getD k Lk.nil).k = 4
      · rw [trT_node hv hs h34]
        have hl := src_less hf hp h34
        have ha := trT_size hv hd (n - 1) (N.l.getD k Lk.nil).a (by omega)
        have hb := trT_size hv hd (n - 1) (N.l.getD k Lk.nil).b (by omega)
        have hi : (if (N.l.getD k Lk.nil).k = 3 then (⟨#[42]⟩ : ByteArray) else ⟨#[124]⟩).size = 1 := by split <;> rfl
        have h1 : (⟨#[40]⟩ : ByteArray).size = 1 := rfl
        have h2 : (⟨#[41]⟩ : ByteArray).size = 1 := rfl
        simp only [ByteArray.size_append, hi, h1, h2]
        omega
      · rw [trT_leaf hs (fun e => h34 (.inl e)) (fun e => h34 (.inr e))]
        have hi : (if (N.l.getD k Lk.nil).a = x then (⟨#[97]⟩ : ByteArray) else ⟨#[98]⟩).size = 1 := by split <;> rfl
        have := hd k (by omega)
        simp only [ByteArray.size_append, hi]
        omega
  termination_by n => n
  decreasing_by all_goals omega
end Go.Proofs.YtgpocnapkflihaaGreatDoor
