/- The program: the fault of a graph. -/
import Derived.Test.YtlcapifgpcimpaaDoorSgF
import Derived.Test.YtlcapifgpcimpaaDoorFaM
import Derived.Test.YtlcapifgpcimpaaDoorSgD
import Derived.Deep.RegionHeldLaw
import Derived.Deep.DeepCutAuto
import Derived.BigQuiet
namespace Go.Proofs.YtlcapifgpcimpaaDoor
set_option linter.unusedSimpArgs false
set_option linter.unusedVariables false
open Go.ChangeAt Go.ChangeShapes Go.RowKit Go.WideShapes


theorem parts_mark (n : Nat) : markL ((0 : Nat) : Int) n = parts0 n := by
  unfold markL parts0
  congr 1
  funext i
  simp
theorem setP_at {Q : List Int} {j i : Nat} {x : Int} (h : j < Q.length) : (Q.set j x).getD i 0 = if i = j then x else Q.getD i 0 := by
  by_cases e : i = j
  · subst e; simp [List.getD, h]
  · rw [if_neg e]; simp [List.getD, List.getElem?_set, Ne.symm e]
/-- The parts while one is being renamed. -/
def RenQ (P : List Int) (x y : Int) (j : Nat) (Q : List Int) : Prop := Q.length = P.length ∧ (∀ i, i < j → i < P.length → Q.getD i 0 = (renP P x y).getD i 0) ∧ ∀ i, j ≤ i → i < P.length → Q.getD i 0 = P.getD i 0
theorem RenQ.zero (P : List Int) (x y : Int) : RenQ P x y 0 P := ⟨rfl, fun i hi => absurd hi (by omega), fun _ _ _ => rfl⟩
theorem RenQ.hit {P Q : List Int} {x y : Int} {j : Nat} (h : RenQ P x y j Q) (hj : j < P.length) (e : Q.getD j 0 = y) : RenQ P x y (j + 1) (Q.set j x) := by
  obtain ⟨h1, h2, h3⟩ := h
  have e2 := h3 j (Nat.le_refl _) hj
  refine ⟨by rw [List.length_set, h1], fun i hi hl => ?_, fun i hi hl => ?_⟩
  · rw [setP_at (by omega)]
    by_cases q : i = j
    · subst q; rw [if_pos rfl, renP_at hj, if_pos (by rw [← e2]; exact e)]
    · rw [if_neg q]; exact h2 i (by omega) hl
  · rw [setP_at (by omega), if_neg (by omega)]; exact h3 i (by omega) hl
theorem RenQ.miss {P Q : List Int} {x y : Int} {j : Nat} (h : RenQ P x y j Q) (hj : j < P.length) (e : ¬ Q.getD j 0 = y) : RenQ P x y (j + 1) Q := by
  obtain ⟨h1, h2, h3⟩ := h
  have e2 := h3 j (Nat.le_refl _) hj
  refine ⟨h1, fun i hi hl => ?_, fun i hi hl => h3 i (by omega) hl⟩
  by_cases q : i = j
  · subst q; rw [renP_at hj, e2, if_neg (by rw [← e2]; exact e)]
  · exact h2 i (by omega) hl
theorem RenQ.done {P Q : List Int} {x y : Int} (h : RenQ P x y P.length Q) : Q = renP P x y := by
  obtain ⟨h1, h2, _⟩ := h
  have hr := renP_len P x y
  refine List.ext_getElem? fun i => ?_
  by_cases hi : i < P.length
  · have e := h2 i hi hi
    have q1 : i < Q.length := by omega
    have q2 : i < (renP P x y).length := by omega
    simp only [List.getD, List.getElem?_eq_getElem q1, List.getElem?_eq_getElem q2, Option.getD_some] at e
    rw [List.getElem?_eq_getElem q1, List.getElem?_eq_getElem q2, e]
  · rw [List.getElem?_eq_none (by omega), List.getElem?_eq_none (by omega)]
theorem own_int_at {w : World} {base n g cap : Nat} {P : List Int} (h : w.ownsRow base 2 1 (.slice (some ⟨g, 0, none⟩) n cap) n (P.map (Value.int .i64))) {i : Nat} (hi : i < n) : w.cell? ⟨g, i, none⟩ = some (.int .i64 (P.getD i 0)) := by
  have hl : P.length = n := by have := h.1; simpa using this
  have := h.cellAt (g := g) i (by omega)
  rw [this, List.getElem?_map]
  have hj2 : i < P.length := by omega
  simp [List.getD, hj2]
set_option maxRecDepth 100000 in
set_option maxHeartbeats 1000000 in
theorem faultOf_any (n : Nat) (ar : List Ac) (B : Option Addr) (d : Nat) (w : World) (hn : n ≤ 1048576) (hl : ar.length ≤ 1048576) (hin : ArcsIn n ar) (r : RdA w w.heap.size B ar.length ar) :
    Calls Tryd.prog 53 #[.int .i64 n, .slice B ar.length d] w fun e w' => e = .returned (.int .i64 (ftV n ar)) ∧ Below w.heap.size w w' := by
  have HNF := Lib.hid (show Calls Tryd.prog 80 #[.int .i64 0, .int .i64 n] w (Gives w (markL ((0 : Nat) : Int) n)) from numbersFrom_any 0 n w (by omega) hn)
  rw [parts_mark] at HNF
  have HR := Lib.hid (fun (wx : World) (hx : Below w.heap.size w wx) => show RdA wx wx.heap.size B ar.length ar from (r.below hx).more hx.size)
  have HIN := Lib.hid (fun k (hk : k < ar.length) => hin _ (getL_mem (d := Ac.nil) hk))
  have HCY := Lib.hid (fun k (h : k ≤ ar.length) e => ftV_cycle (n := n) (ar := ar) (k := k) h e)
  have HEN := Lib.hid (fun P e => ftV_end (n := n) (ar := ar) (P := P) e)
  have HSU := Lib.hid (fun k (h : k < ar.length) => runP_succ (n := n) (ar := ar) (k := k) h)
  clear r hin
  go_enter Tryd.func53, Tryd.ntmps53
  go_wp2_with (fail)
  refine HNF.out.mono ?_
  rintro e w1 ⟨A, c, rfl, own, bel⟩
  rw [parts0_len] at own ⊢
  have O1 := Lib.hid own; have B1 := Lib.hid bel
  have HS1 := bel.size
  clear own bel HNF
  go_wp2
  go_loopw [16] (fun i wr => ∃ (k : Nat) (P : List Int), k ≤ ar.length ∧ i = .int .i64 k ∧ runP n ar k = some P ∧ P.length = n ∧ wr.ownsRow w.heap.size 2 1 (.slice A n c) n (P.map (Value.int .i64)) ∧ Below w.heap.size w wr) (fun i _ => ar.length - (intOf i).toNat)
  case atStart => exact ⟨0, parts0 n, Nat.zero_le _, rfl, rfl, parts0_len n, O1.out, B1.out⟩
  case round =>
    obtain ⟨k, P, hk, rfl, hrun, hPl, hO, hB⟩ := hrel
    clear O1 B1
    by_cases hlt : k < ar.length
    · obtain ⟨b, off, hBe, hbb, hcells⟩ := (HR.out _ hB).at (by omega)
      subst hBe
      obtain ⟨x0, x1, x2⟩ := hcells k hlt
      obtain ⟨hf, ht⟩ := HIN.out k hlt
      have HSK := Lib.hid (HSU.out k hlt)
      obtain ⟨⟨aw, af, a3⟩, hl'⟩ : ∃ a, ar.getD k Ac.nil = a := ⟨_, rfl⟩
      rw [hl'] at x0 x1 x2 hf ht HSK
      dsimp only at x0 x1 x2 hf ht
      obtain ⟨_, hf2, ef⟩ := inW_yes hf
      obtain ⟨_, ht2, et⟩ := inW_yes ht
      obtain ⟨g, cap, hv, hbg, hgl⟩ := hO.form (by omega)
      have hA : A = some ⟨g, 0, none⟩ ∧ c = cap := by injection hv with a b c'; exact ⟨a, c'⟩
      obtain ⟨rfl, rfl⟩ := hA
      have hST : Hid (runP n ar (k + 1) = if P.getD af.toNat 0 = P.getD a3.toNat 0 then none else some (renP P (P.getD af.toNat 0) (P.getD a3.toNat 0))) := Lib.hid (by rw [HSK.out, hrun]; rfl)
      obtain ⟨u1, hu1⟩ : ∃ u1, u1 = wr.alloc (.cells #[.int .i64 aw, .int .i64 af, .int .i64 a3] 59) := ⟨_, rfl⟩
      have bu : Below wr.heap.size wr u1 := by rw [hu1]; exact (Below.refl _ _).alloc (Nat.le_refl _) _
      have gu : u1.heap[wr.heap.size]? = some (.cells #[.int .i64 aw, .int .i64 af, .int .i64 a3] 59 (0, 0)) := by rw [hu1]; exact heap_alloc_new _ _
      obtain ⟨z0, z1, z2⟩ := three_cells gu
      have hO2 : u1.ownsRow w.heap.size 2 1 (.slice (some ⟨g, 0, none⟩) n c) n (P.map (Value.int .i64)) := by rw [hu1]; exact hO.alloc _
      generalize hfn : af.toNat = fn at *
      generalize htn : a3.toNat = tn at *
      subst ef; subst et
      have p1 := own_int_at hO2 hf2
      have p2 := own_int_at hO2 ht2
      have HBU := Lib.hid (hB.trans (bu.mono hB.size))
      have HO2 := Lib.hid hO2
      have hfi : (fn : Int) < (n : Int) := by omega
      have hti : (tn : Int) < (n : Int) := by omega
      have hus := bu.size
      clear hcells hf ht hO hB bu gu hO2 hv HSK hl' hrun hfn htn
      generalize hx : P.getD fn 0 = x at *
      generalize hy : P.getD tn 0 = y at *
      by_cases hxy : x = y
      · have hd : (x == y) = true := by simp [hxy]
        have HE := Lib.hid (HCY.out (k + 1) hlt (by rw [hST.out, if_pos hxy]))
        clear hxy hx hy
        go_upto_region 5 with (fail)
        rw [← hu1]
        clear hu1
        go_quiet (fail)
        go_wp2
        go_ret
        exact ⟨ret_i64 HE.out.symm, below_drewN HBU.out nq⟩
      · have hd : (x == y) = false := by simp [hxy]
        have HRN : Hid (runP n ar (k + 1) = some (renP P x y)) := Lib.hid (by rw [hST.out, if_neg hxy])
        clear hxy hx hy
        go_upto_region 5 with (fail)
        rw [← hu1]
        clear hu1
        go_quiet (fail)
        have hbq := below_drewN (Below.refl u1.heap.size u1) nq
        have HO3 : Hid ((u1.drewN nq).ownsRow w.heap.size 2 1 (.slice (some ⟨g, 0, none⟩) n c) n (P.map (Value.int .i64))) := Lib.hid (own_same HO2.out fun q e => hbq.block q (HO2.out.lt q e).2)
        have HB3 := Lib.hid (below_drewN HBU.out nq)
        clear hbq p1 p2 z0 z1 z2 x0 x1 x2 HBU HO2
        go_wp2
        generalize u1.drewN nq = w2 at *
        go_loopw [35] (fun i wr => ∃ (j : Nat) (Q : List Int), j ≤ n ∧ i = .int .i64 j ∧ RenQ P x y j Q ∧ wr.ownsRow w.heap.size 2 1 (.slice (some ⟨g, 0, none⟩) n c) n (Q.map (Value.int .i64)) ∧ Below w.heap.size w wr) (fun i _ => n - (intOf i).toNat)
        case atStart => exact ⟨0, P, Nat.zero_le _, rfl, RenQ.zero P x y, HO3.out, HB3.out⟩
        case round =>
          obtain ⟨j, Q, hj, rfl, hQ, hOq, hBq⟩ := hrel
          clear HO3 HB3
          by_cases hjn : j < n
          · have c0 := own_int_at hOq hjn
            have f0 := hOq.frozenAt (g := g) j
            have HH := Lib.hid (fun e => hQ.hit (by omega) e)
            have HM := Lib.hid (fun e => hQ.miss (by omega) e)
            have HOS := Lib.hid (by have q := (hOq.stored j (.int .i64 x)).1; rw [← List.map_set] at q; exact q)
            have HBS := Lib.hid (hBq.setCell (p := ⟨g, j, none⟩) hbg (.int .i64 x))
            have HOQ := Lib.hid hOq; have HBQ := Lib.hid hBq
            generalize Q.getD j 0 = z at *
            clear hQ hOq hBq
            by_cases hz : z = y
            · have hd2 : (z == y) = true := by simp [hz]
              have HQ2 := Lib.hid (HH.out hz)
              clear hz
              go_wp2
              go_roundw
              case rel => exact ⟨j + 1, _, by omega, by go_num, HQ2.out, HOS.out, HBS.out⟩
              case measure => simp [intOf]; omega
            · have hd2 : (z == y) = false := by simp [hz]
              have HQ2 := Lib.hid (HM.out hz)
              clear hz
              go_wp2
              go_roundw
              case rel => exact ⟨j + 1, _, by omega, by go_num, HQ2.out, HOQ.out, HBQ.out⟩
              case measure => simp [intOf]; omega
          · have hjl : j = P.length := by omega
            have hQ2 : RenQ P x y P.length Q := by rw [← hjl]; exact hQ
            have hQd := RenQ.done hQ2
            subst hQd
            have hrl := renP_len P x y
            have HOQ := Lib.hid hOq; have HBQ := Lib.hid hBq
            have HRL : Hid ((renP P x y).length = n) := Lib.hid (by omega)
            clear hQ hQ2 hOq hBq hjl hrl
            go_wp2
            go_roundw
            case rel => exact ⟨k + 1, _, by omega, by go_num, HRN.out, HRL.out, HOQ.out, HBQ.out⟩
            case measure => simp [intOf]; omega
    · have hkl : k = ar.length := by omega
      subst hkl
      have HE := Lib.hid (HEN.out P hrun)
      have HB := Lib.hid hB
      clear hO hB hrun
      by_cases hq : (ar.length : Int) = (n : Int) - 1
      · have hd : ((ar.length : Int) != (n : Int) - 1) = false := by simp [hq]
        rw [if_pos hq] at HE
        clear hq
        go_wp2
        go_ret
        exact ⟨ret_i64 HE.out.symm, HB.out⟩
      · have hd : ((ar.length : Int) != (n : Int) - 1) = true := by simp; omega
        rw [if_neg hq] at HE
        clear hq
        go_wp2
        go_ret
        exact ⟨ret_i64 HE.out.symm, HB.out⟩
end Go.Proofs.YtlcapifgpcimpaaDoor
