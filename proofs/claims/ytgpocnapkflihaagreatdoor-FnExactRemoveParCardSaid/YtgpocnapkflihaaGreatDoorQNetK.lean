/- The links of a kind, of the model. The sequent of the conclusions of a net, of the model. The program's ConclusionSeq. Answers of chapter 8 are small. -/
import Derived.Test.YtgpocnapkflihaaGreatDoorQPgG
import Derived.Test.YtgpocnapkflihaaGreatDoorQMath
import Derived.Test.YtgpocnapkflihaaGreatDoorNetC
import Derived.Test.YtgpocnapkflihaaGreatDoorSeqV
import Derived.Test.YtgpocnapkflihaaGreatDoorQCopyS
import Derived.Test.YtgpocnapkflihaaGreatDoorQNetO
import Derived.Deep.RegionHeldLaw
import Derived.Test.YtgpocnapkflihaaGreatDoorQNetE
namespace Go.Proofs.YtgpocnapkflihaaGreatDoor
set_option linter.unusedSimpArgs false
set_option linter.unusedVariables false
section
open Go.ChangeAt Go.ChangeShapes Go.RowKit Go.WideShapes

/-- The links of a kind among the first k. -/
def kinU (x : Int) (ls : List Lk) (k : Nat) : List Int := ((List.range k).filter fun i => (ls.getD i Lk.nil).k == x).map fun i : Nat => (i : Int)
theorem kinU_zero (x : Int) (ls : List Lk) : kinU x ls 0 = [] := rfl
theorem kinU_yes {x : Int} {ls : List Lk} {k : Nat} (h : (ls.getD k Lk.nil).k = x) : kinU x ls (k + 1) = kinU x ls k ++ [(k : Int)] := by
  unfold kinU; rw [List.range_succ, List.filter_append, List.map_append]
  simp only [List.filter_cons, List.filter_nil]
  rw [if_pos (by simpa using h)]; rfl
theorem kinU_no {x : Int} {ls : List Lk} {k : Nat} (h : ¬ (ls.getD k Lk.nil).k = x) : kinU x ls (k + 1) = kinU x ls k := by
  unfold kinU; rw [List.range_succ, List.filter_append, List.map_append]
  simp only [List.filter_cons, List.filter_nil]
  rw [if_neg (by simpa using h)]; simp
theorem kinU_len (x : Int) (ls : List Lk) (k : Nat) : (kinU x ls k).length ≤ k := by
  unfold kinU
  rw [List.length_map]
  exact Nat.le_trans (List.length_filter_le _ _) (by simp)
/-- LinksOfKind. -/
def kinN (N : Nt) (x : Int) : List Int := if valN N then kinU x N.l N.l.length else []
theorem kinN_len (N : Nt) (x : Int) : (kinN N x).length ≤ 48 := by
  unfold kinN
  cases hv : valN N with
  | false => simp
  | true => rw [if_pos rfl]; exact Nat.le_trans (kinU_len x N.l _) (valN_size hv).2
/-- No round, or the net is valid. -/
def OrV (k : Nat) (N : Nt) : Prop := k = 0 ∨ valN N = true
theorem gives_of {w w' : World} {v : Value} {n : Nat} {xs ys : List Int} {b : Nat} (h : w'.ownsRow b 2 1 v n (xs.map (Value.int .i64))) (hn : n = xs.length) (hx : xs = ys) (hb : w.heap.size ≤ b) (bel : Below w.heap.size w w') : Gives w ys (.returned v) w' := by
  subst hn; subst hx
  obtain ⟨A, c, rfl⟩ := own_shape h
  exact ⟨A, c, rfl, h.mono hb, bel⟩
end
section
open Go.ChangeAt Go.ChangeShapes Go.RowKit Go.WideShapes

/-- The formulas of the conclusions. -/
def cfL (N : Nt) : List (List Int) := N.c.map (wAt N.w)
/-- ConclusionSeq. -/
def cqB (N : Nt) : Bool := valN N && validQ (cfL N)
def cqL (N : Nt) : List (List Int) := if cqB N = true then cfL N else []
theorem cqB_no {N : Nt} (h : valN N = false) : cqB N = false := by unfold cqB; rw [h]; rfl
theorem cqB_is {N : Nt} (h : valN N = true) : cqB N = validQ (cfL N) := by unfold cqB; rw [h]; rfl
theorem cqL_no {N : Nt} (h : cqB N = false) : cqL N = [] := by unfold cqL; rw [h]; rfl
theorem cqL_yes {N : Nt} (h : cqB N = true) : cqL N = cfL N := by unfold cqL; rw [if_pos h]
theorem cqL_small (N : Nt) : (cqL N).length ≤ 1048576 ∧ total (cqL N) ≤ 1048576 := by
  cases h : cqB N with
  | false => rw [cqL_no h]; simp [total]
  | true =>
    rw [cqL_yes h]
    have hv : validQ (cfL N) = true := by
      cases hn : valN N with
      | false => rw [cqB_no hn] at h; cases h
      | true => rw [cqB_is hn] at h; exact h
    have h1 := validQ_len hv
    have h2 : total (cfL N) ≤ 24 * (cfL N).length := total_valid (List.all_eq_true.2 fun q hq => validQ_mem hv hq)
    omega
theorem mapW_take {ws : List (List Int)} {cs : List Int} {k : Nat} (h : k < cs.length) : (cs.take k).map (wAt ws) ++ [wAt ws (cs.getD k 0)] = (cs.take (k + 1)).map (wAt ws) := by
  rw [takeL_succ (d := 0) h, List.map_append]; rfl
theorem gSeqB_mk {w w' : World} {V V' : List (List Int)} {b b' : Bool} {hs : Nat → Option Addr × Nat} {A : Option Addr} {c n : Nat} (h1 : V.length = n) (own : OwnQ w' w.heap.size w'.heap.size (.slice A n c) hs V) (bel : Below w.heap.size w w') (hV : V = V') (hb : b = b') :
    GivesSeqB w V' b' (.returned (.tuple #[.agg #[.slice A n c], .bool b])) w' := by
  subst hV; subst hb; subst h1
  exact ⟨hs, A, c, rfl, own, bel⟩
end
section
set_option linter.unusedSimpArgs false
set_option linter.unusedVariables false
open Go.ChangeAt Go.ChangeShapes Go.RowKit Go.WideShapes

end
section
open Go.ChangeAt Go.ChangeShapes Go.RowKit Go.WideShapes
end
end Go.Proofs.YtgpocnapkflihaaGreatDoor
