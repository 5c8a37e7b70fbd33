/- The laws' helpers at rows of arcs: eq, mark, held. -/
import Derived.Test.YtlcapifgpcimpaaDoorSgD
import Derived.Test.YtlcapifgpcimpaaDoorQCopyS
import Derived.Deep.RegionHeldLaw
import Derived.Deep.DeepCutAuto
import Derived.BigQuiet
namespace Go.Proofs.YtlcapifgpcimpaaDoor
set_option linter.unusedSimpArgs false
set_option linter.unusedVariables false
open Go.ChangeAt Go.ChangeShapes Go.RowKit Go.WideShapes

/-- The marks of a row of arcs. -/
def mkAt (k : Int) (i : Nat) : Ac := ⟨k + (i * 3 : Nat), k + (i * 3 : Nat) + 1, k + (i * 3 : Nat) + 1 + 1⟩
def mkA (k : Int) (n : Nat) : List Ac := (List.range n).map fun i => mkAt k i
theorem mkA_len (k : Int) (n : Nat) : (mkA k n).length = n := by simp [mkA]
theorem mkA_at (k : Int) {n i : Nat} (h : i < n) : (mkA k n).getD i Ac.nil = mkAt k i := by simp [mkA, List.getD, h]
theorem mkA_is {k : Int} {n : Nat} {ar : List Ac} (hl : ar.length = n) (h : ∀ i, i < n → ar.getD i Ac.nil = mkAt k i) : ar = mkA k n := by
  refine List.ext_getElem? fun i => ?_
  by_cases hi : i < n
  · have e := h i hi
    have h1 : i < ar.length := by omega
    have h2 : i < (mkA k n).length := by rw [mkA_len]; exact hi
    rw [← mkA_at k hi] at e
    simp only [List.getD, List.getElem?_eq_getElem h1, List.getElem?_eq_getElem h2, Option.getD_some] at e
    rw [List.getElem?_eq_getElem h1, List.getElem?_eq_getElem h2, e]
  · rw [List.getElem?_eq_none (by omega), List.getElem?_eq_none (by rw [mkA_len]; omega)]
theorem setA_at {ar : List Ac} {j i : Nat} {a : Ac} (h : j < ar.length) : (ar.set j a).getD i Ac.nil = if i = j then a else ar.getD i Ac.nil := by
  by_cases e : i = j
  · subst e; simp [List.getD, h]
  · rw [if_neg e]; simp [List.getD, List.getElem?_set, Ne.symm e]
/-- A row of arcs in memory of its own, its block in [lo, hi). -/
structure OwnA (w : World) (lo hi : Nat) (v : Value) (n : Nat) (ar : List Ac) : Prop where
  outer : w.ownsRow lo 59 3 v n ((flA ar).map (Value.int .i64))
  top : ∀ k, v.ownBlock = some k → k < hi
theorem OwnA.of_own {w : World} {lo n : Nat} {v : Value} {ar : List Ac} (h : w.ownsRow lo 59 3 v n ((flA ar).map (Value.int .i64))) : OwnA w lo w.heap.size v n ar := ⟨h, fun k hk => (h.lt k hk).2⟩
theorem OwnA.below {w w' : World} {lo hi n : Nat} {v : Value} {ar : List Ac} (h : OwnA w lo hi v n ar) (hb : Below w.heap.size w w') : OwnA w' lo hi v n ar := ⟨own_same h.outer fun k e => hb.block k (h.outer.lt k e).2, h.top⟩
theorem OwnA.kept {w w' : World} {lo hi lo' hi' n : Nat} {v : Value} {ar : List Ac} (h : OwnA w lo hi v n ar) (hk : Kept lo' hi' w w') (hd : hi ≤ lo' ∨ hi' ≤ lo) : OwnA w' lo hi v n ar :=
  ⟨own_same h.outer fun k e => hk.block k (h.outer.lt k e).2 (by have h1 := (h.outer.lt k e).1; have h2 := h.top k e; omega), h.top⟩
theorem OwnA.rd {w : World} {lo hi n c : Nat} {A : Option Addr} {ar : List Ac} (h : OwnA w lo hi (.slice A n c) n ar) : RdA w w.heap.size A n ar := by
  have hl : ar.length = n := by have := h.outer.1; rw [List.length_map, flA_len] at this; omega
  subst hl
  exact RdA.of_own h.outer
/-- How many cells. -/
def aTot (n : Nat) : Nat := n * 3
end Go.Proofs.YtlcapifgpcimpaaDoor
