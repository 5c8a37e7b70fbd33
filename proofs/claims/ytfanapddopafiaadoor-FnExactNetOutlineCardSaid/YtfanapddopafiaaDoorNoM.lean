/- Mathematics: the outline of a net, line by line. -/
import Derived.Test.YtfanapddopafiaaDoorTrP
import Derived.Test.YtfanapddopafiaaDoorLwW
namespace Go.Proofs.YtfanapddopafiaaDoor
set_option linter.unusedSimpArgs false
set_option linter.unusedVariables false
open Go.ChangeAt Go.ChangeShapes Go.RowKit Go.WideShapes

def coW : ByteArray := ⟨#[99, 111, 110, 99, 108, 32]⟩
def cuW : ByteArray := ⟨#[99, 117, 116, 32]⟩
/-- The line of a conclusion, of a cut. -/
noncomputable def coT (N : Nt) (x : Int) : ByteArray := coW ++ trT dcN N x
noncomputable def cuT (N : Nt) (l : Lk) : ByteArray := cuW ++ (trT dcN N l.a ++ ⟨#[32]⟩ ++ trT dcN N l.b)
noncomputable def coN (N : Nt) (x : Int) : List UInt8 := (coT N x).data.toList ++ [10]
noncomputable def cuN (N : Nt) (l : Lk) : List UInt8 := if l.k = 2 then (cuT N l).data.toList ++ [10] else []
noncomputable def cosN (N : Nt) (k : Nat) : List UInt8 := ((N.c.take k).map (coN N)).flatten
noncomputable def cusN (N : Nt) (k : Nat) : List UInt8 := cosN N N.c.length ++ ((N.l.take k).map (cuN N)).flatten
noncomputable def noL (N : Nt) : List UInt8 := cusN N N.l.length
/-- NetOutline. -/
noncomputable def noT (N : Nt) : ByteArray := if valN N then ⟨(noL N).toArray⟩ else ⟨#[]⟩
theorem noT_yes {N : Nt} (h : valN N = true) : noT N = ⟨(noL N).toArray⟩ := by unfold noT; rw [if_pos h]
theorem noT_no {N : Nt} (h : valN N = false) : noT N = ⟨#[]⟩ := by unfold noT; rw [h]; rfl
theorem ba_lenN (b : ByteArray) : b.data.toList.length = b.size := by rw [Array.length_toList]; rfl
theorem flat_takeN {α β : Type} {d : α} {g : α → List β} {xs : List α} {k : Nat} (h : k < xs.length) : ((xs.take (k + 1)).map g).flatten = ((xs.take k).map g).flatten ++ g (xs.getD k d) := by
  rw [takeL_succ (d := d) h, List.map_append, List.flatten_append]
  simp
theorem cosN_succ {N : Nt} {k : Nat} (h : k < N.c.length) : cosN N (k + 1) = cosN N k ++ coN N (N.c.getD k 0) := flat_takeN h
theorem cusN_succ {N : Nt} {k : Nat} (h : k < N.l.length) : cusN N (k + 1) = cusN N k ++ cuN N (N.l.getD k Lk.nil) := by
  unfold cusN
  rw [flat_takeN (d := Lk.nil) h, List.append_assoc]
theorem cusN_zero (N : Nt) : cusN N 0 = cosN N N.c.length := by unfold cusN; simp
theorem coT_size {N : Nt} (hv : valN N = true) (x : Int) : (coT N x).size ≤ 1006 := by
  have h1 := trT_some hv x
  have h2 : coW.size = 6 := rfl
  unfold coT
  rw [ByteArray.size_append]; omega
theorem cuT_size {N : Nt} (hv : valN N = true) (l : Lk) : (cuT N l).size ≤ 2005 := by
  have h1 := trT_some hv l.a; have h3 := trT_some hv l.b
  have h2 : cuW.size = 4 := rfl
  have h4 : (⟨#[32]⟩ : ByteArray).size = 1 := rfl
  unfold cuT
  rw [ByteArray.size_append, ByteArray.size_append, ByteArray.size_append]; omega
theorem coN_len {N : Nt} (hv : valN N = true) (x : Int) : (coN N x).length ≤ 1007 := by
  have := coT_size hv x
  unfold coN
  rw [List.length_append, ba_lenN]; simp; omega
theorem cuN_len {N : Nt} (hv : valN N = true) (l : Lk) : (cuN N l).length ≤ 2006 := by
  have := cuT_size hv l
  unfold cuN
  split
  · rw [List.length_append, ba_lenN]; simp; omega
  · simp
theorem cosN_len {N : Nt} (hv : valN N = true) : ∀ k, k ≤ N.c.length → (cosN N k).length ≤ 1007 * k
  | 0, _ => by simp [cosN]
  | k + 1, h => by
    have h1 := cosN_len hv k (by omega)
    have h2 := coN_len hv (N.c.getD k 0)
    rw [cosN_succ (by omega), List.length_append]; omega
theorem cusN_len {N : Nt} (hv : valN N = true) : ∀ k, k ≤ N.l.length → (cusN N k).length ≤ 48336 + 2006 * k
  | 0, _ => by
    have h1 := cosN_len hv N.c.length (Nat.le_refl _)
    have h2 := valN_conc_le hv
    have h3 := (valN_size hv).1
    rw [cusN_zero]; omega
  | k + 1, h => by
    have h1 := cusN_len hv k (by omega)
    have h2 := cuN_len hv (N.l.getD k Lk.nil)
    rw [cusN_succ (by omega), List.length_append]; omega
theorem coN_ne (N : Nt) (x : Int) (L : List UInt8) : L ++ coN N x ≠ [] := by unfold coN; simp
theorem cuN_yes {N : Nt} {l : Lk} (h : l.k = 2) : cuN N l = (cuT N l).data.toList ++ [10] := by unfold cuN; rw [if_pos h]
theorem cuN_not {N : Nt} {l : Lk} (h : ¬ l.k = 2) : cuN N l = [] := by unfold cuN; rw [if_neg h]
theorem cells_appN (T : List UInt8) (s : ByteArray) : (Lib.byteCells T ++ Lib.strCells s) ++ [.int .u8 10] = Lib.byteCells (T ++ (s.data.toList ++ [10])) := by
  simp [Lib.byteCells, Lib.strCells]
/-- The text as it grows. -/
theorem ba_line (L : List UInt8) (s : ByteArray) : (⟨L.toArray⟩ : ByteArray) ++ s ++ ⟨#[10]⟩ = ⟨(L ++ (s.data.toList ++ [10])).toArray⟩ := by
  apply ba_ext
  simp
theorem ba_sz (L : List UInt8) : (⟨L.toArray⟩ : ByteArray).size = L.length := by rw [← ba_lenN]
end Go.Proofs.YtfanapddopafiaaDoor
