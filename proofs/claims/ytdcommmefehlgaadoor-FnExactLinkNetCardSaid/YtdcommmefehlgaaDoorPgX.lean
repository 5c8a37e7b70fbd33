/- The program's LinkNet, whole. Made by mklk.py. -/
import Derived.Test.YtdcommmefehlgaaDoorPgU
import Derived.Test.YtdcommmefehlgaaDoorPgW
namespace Go.Proofs.YtdcommmefehlgaaDoor
set_option linter.unusedSimpArgs false
set_option linter.unusedVariables false
open Go.ChangeAt Go.ChangeShapes Go.RowKit Go.WideShapes

theorem linkNet_impl (h : NH) (N : Nt) (k i j : Int) (w : World) (r : RdN w w.heap.size h N) (sm : SmallN N) (ht : Arit w) (hu : Dual w) :
    Calls Tryd.prog 17 #[.agg #[.slice h.A N.w.length h.c, .slice h.L N.l.length h.d, .slice h.C N.c.length h.e], .int .i64 k, .int .i64 i, .int .i64 j] w (GivesNB w (lnV N k i j) (lnB N k i j)) := by
  have no : lnB N k i j = false → Calls Tryd.prog 17 #[.agg #[.slice h.A N.w.length h.c, .slice h.L N.l.length h.d, .slice h.C N.c.length h.e], .int .i64 k, .int .i64 i, .int .i64 j] w (GivesNB w Nt.nil false) → Calls Tryd.prog 17 #[.agg #[.slice h.A N.w.length h.c, .slice h.L N.l.length h.d, .slice h.C N.c.length h.e], .int .i64 k, .int .i64 i, .int .i64 j] w (GivesNB w (lnV N k i j) (lnB N k i j)) := fun e c => by
    rw [lnV_no e, e]; exact c
  cases hv : valN N with
  | false => exact no (by unfold lnB; rw [hv]; rfl) (linkNet_no h N k i j w r sm ht hu (by rw [hv]; cases kindB k <;> rfl))
  | true =>
  cases hk : kindB k with
  | false => exact no (by unfold lnB; rw [hv, hk]; rfl) (linkNet_no h N k i j w r sm ht hu (by rw [hk]; rfl))
  | true =>
  cases hi : inW N.c.length i with
  | false => exact no (by unfold lnB; rw [hv, hk, hi]; rfl) (linkNet_no h N k i j w r sm ht hu (by rw [hk, hv, hi]; rfl))
  | true =>
  cases hj : inW N.c.length j with
  | false => exact no (by unfold lnB; rw [hv, hk, hi, hj]; rfl) (linkNet_no h N k i j w r sm ht hu (by rw [hk, hv, hi, hj]; rfl))
  | true =>
  cases he : (i == j) with
  | true => exact no (by unfold lnB; rw [hv, hk, hi, hj, he]; rfl) (linkNet_no h N k i j w r sm ht hu (by rw [hk, hv, hi, hj, he]; rfl))
  | false =>
  obtain ⟨_, hii, ei⟩ := inW_yes hi
  obtain ⟨_, hjj, ej⟩ := inW_yes hj
  have wa := all_at (d := 0) (valN_concl hv) hii
  have wb := all_at (d := 0) (valN_concl hv) hjj
  obtain ⟨_, hia, ea⟩ := inW_yes wa
  obtain ⟨_, hib, eb⟩ := inW_yes wb
  have hB := lnB_is hv hk hi hj he
  have hV : lnV N k i j = pickN (lnB N k i j) (lkN N k i j) := rfl
  rw [hV, hB]
  generalize hii' : i.toNat = ii at *
  generalize hjj' : j.toNat = jj at *
  generalize (N.c.getD ii 0).toNat = ia at *
  generalize (N.c.getD jj 0).toNat = ib at *
  subst ei ej
  have h3 : k = 2 ∨ k = 3 ∨ k = 4 := by have := of_decide_eq_true hk; omega
  rcases h3 with rfl | rfl | rfl
  · have hX : lkN N 2 (ii : Nat) (jj : Nat) = ⟨N.w, N.l ++ [⟨2, ia, ib, 0⟩], lessL N.c (ii : Nat) (jj : Nat)⟩ := by
      unfold lkN; rw [if_pos rfl, Int.toNat_natCast, Int.toNat_natCast, ea, eb]
    rw [hX]
    exact lk_ok2 h N w r sm.w sm.l sm.c sm ht hu ii jj ia ib _ hv hi hj he hii hjj ea eb hia hib rfl _ rfl
  · have hX : lkN N 3 (ii : Nat) (jj : Nat) = ⟨N.w ++ [11 :: (N.w.getD ia [] ++ N.w.getD ib [])], N.l ++ [⟨3, ia, ib, N.w.length⟩], lessL N.c (ii : Nat) (jj : Nat) ++ [(N.w.length : Int)]⟩ := by
      unfold lkN; rw [if_neg (by decide), if_neg (by decide), Int.toNat_natCast, Int.toNat_natCast, ea, eb]; rfl
    rw [hX]
    exact lk_ok3 h N w r sm.w sm.l sm.c sm ht hu ii jj ia ib _ hv hi hj he hii hjj ea eb hia hib rfl _ rfl
  · have hX : lkN N 4 (ii : Nat) (jj : Nat) = ⟨N.w ++ [12 :: (N.w.getD ia [] ++ N.w.getD ib [])], N.l ++ [⟨4, ia, ib, N.w.length⟩], lessL N.c (ii : Nat) (jj : Nat) ++ [(N.w.length : Int)]⟩ := by
      unfold lkN; rw [if_neg (by decide), if_pos rfl, Int.toNat_natCast, Int.toNat_natCast, ea, eb]; rfl
    rw [hX]
    exact lk_ok4 h N w r sm.w sm.l sm.c sm ht hu ii jj ia ib _ hv hi hj he hii hjj ea eb hia hib rfl _ rfl
end Go.Proofs.YtdcommmefehlgaaDoor
