/- The model: the parts of a graph (l11Roots). The model: splitting links. The model: SplittingLinks, LastLink. -/
import Derived.Test.YtgpocnapkflihaaDoorSgM
import Derived.Test.YtgpocnapkflihaaDoorFaM
import Derived.Deep.RegionHeldLaw
import Derived.Deep.DeepCutAuto
import Derived.BigQuiet
import Derived.Test.YtgpocnapkflihaaDoorSrA
import Derived.Test.YtgpocnapkflihaaDoorSqF
import Derived.Test.YtgpocnapkflihaaDoorSqT
namespace Go.Proofs.YtgpocnapkflihaaDoor
set_option linter.unusedSimpArgs false
set_option linter.unusedVariables false
open Go.ChangeAt Go.ChangeShapes Go.RowKit Go.WideShapes

theorem setP_at {Q : List Int} {j i : Nat} {x : Int} (h : j < Q.length) : (Q.set j x).getD i 0 = if i = j then x else Q.getD i 0 := by
  by_cases e : i = j
  · subst e; simp [List.getD, h]
  · rw [if_neg e]; simp [List.getD, List.getElem?_set, Ne.symm e]
/-- The parts while one is being renamed. -/
def RenQ (P : List Int) (x y : Int) (j : Nat) (Q : List Int) : Prop := Q.length = P.length ∧ (∀ i, i < j → i < P.length → Q.getD i 0 = (renP P x y).getD i 0) ∧ ∀ i, j ≤ i → i < P.length → Q.getD i 0 = P.getD i 0
theorem RenQ.zero (P : List Int) (x y : Int) : RenQ P x y 0 P := ⟨rfl, fun i hi => absurd hi (by omega), fun _ _ _ => rfl⟩
theorem RenQ.hit {P Q : List Int} {x y : Int} {j : Nat} (h : RenQ P x y j Q) (hj : j < P.length) (e : Q.getD j 0 = y) : RenQ P x y (j + 1) (Q.set j x) := by
  obtain ⟨h1, h2, h3⟩ := h
  have e2 := h3 j (Nat.le_refl _) hj
  refine ⟨by rw [List.length_set, h1], fun i hi hl => ?_, fun i hi hl => ?_⟩
  · rw [setP_at (by omega)]
    by_cases q : i = j
    · subst q; rw [if_pos rfl, renP_at hj, if_pos (by rw [← e2]; exact e)]
    · rw [if_neg q]; exact h2 i (by omega) hl
  · rw [setP_at (by omega), if_neg (by omega)]; exact h3 i (by omega) hl
theorem RenQ.miss {P Q : List Int} {x y : Int} {j : Nat} (h : RenQ P x y j Q) (hj : j < P.length) (e : ¬ Q.getD j 0 = y) : RenQ P x y (j + 1) Q := by
  obtain ⟨h1, h2, h3⟩ := h
  have e2 := h3 j (Nat.le_refl _) hj
  refine ⟨h1, fun i hi hl => ?_, fun i hi hl => h3 i (by omega) hl⟩
  by_cases q : i = j
  · subst q; rw [renP_at hj, e2, if_neg (by rw [← e2]; exact e)]
  · exact h2 i (by omega) hl
theorem RenQ.done {P Q : List Int} {x y : Int} (h : RenQ P x y P.length Q) : Q = renP P x y := by
  obtain ⟨h1, h2, _⟩ := h
  have hr := renP_len P x y
  refine List.ext_getElem? fun i => ?_
  by_cases hi : i < P.length
  · have e := h2 i hi hi
    have q1 : i < Q.length := by omega
    have q2 : i < (renP P x y).length := by omega
    simp only [List.getD, List.getElem?_eq_getElem q1, List.getElem?_eq_getElem q2, Option.getD_some] at e
    rw [List.getElem?_eq_getElem q1, List.getElem?_eq_getElem q2, e]
  · rw [List.getElem?_eq_none (by omega), List.getElem?_eq_none (by omega)]
theorem own_int_at {w : World} {base n g cap : Nat} {P : List Int} (h : w.ownsRow base 2 1 (.slice (some ⟨g, 0, none⟩) n cap) n (P.map (Value.int .i64))) {i : Nat} (hi : i < n) : w.cell? ⟨g, i, none⟩ = some (.int .i64 (P.getD i 0)) := by
  have hl : P.length = n := by have := h.1; simpa using this
  have := h.cellAt (g := g) i (by omega)
  rw [this, List.getElem?_map]
  have hj2 : i < P.length := by omega
  simp [List.getD, hj2]
theorem own_shape1r {w : World} {base n : Nat} {e : TypeId} {v : Value} {xs : List Value} (h : w.ownsRow base e 1 v n xs) : ∃ A c, v = .slice A n c := by
  rcases h.2 with ⟨rfl, rfl⟩ | ⟨g, cap, cur, rfl, _, _, hn, _⟩
  · exact ⟨_, _, rfl⟩
  · exact ⟨_, _, rfl⟩
theorem parts0_succ (k : Nat) : parts0 (k + 1) = parts0 k ++ [(k : Int)] := by simp [parts0, List.range_succ]
set_option maxRecDepth 100000 in
set_option maxHeartbeats 1000000 in
theorem sRoots_any (n : Nat) (ar : List Ac) (B : Option Addr) (d : Nat) (w : World) (hn : n ≤ 1048576) (hl : ar.length ≤ 1048576) (hin : ArcsIn n ar) (r : RdA w w.heap.size B ar.length ar) :
    Calls Tryd.prog 111 #[.int .i64 n, .slice B ar.length d] w (GivesB w (runR n ar ar.length).1 (runR n ar ar.length).2) := by
  obtain ⟨i0, hi0, hz0, hz1, hz2⟩ := info_parts info_i64
  have HI := Lib.hid hi0; have HZ0 := Lib.hid hz0; have HZ1 := Lib.hid hz1; have HZ2 := Lib.hid hz2
  have HR := Lib.hid (fun (wx : World) (hx : Below w.heap.size w wx) => show RdA wx wx.heap.size B ar.length ar from (r.below hx).more hx.size)
  have HIN := Lib.hid (fun k (hk : k < ar.length) => hin _ (getL_mem (d := Ac.nil) hk))
  have HSU := Lib.hid (fun k (h : k < ar.length) => runR_succ (n := n) (ar := ar) (k := k) h)
  have HLR := Lib.hid (fun k (h : k ≤ ar.length) => runR_len n ar k h)
  have h0 : (w.alloc (.cells #[] 2)).ownsRow w.heap.size 2 1 (.slice (some ⟨w.heap.size, 0, none⟩) 0 0) 0 ((parts0 0).map (Value.int .i64)) := World.ownsRow_made w #[] 0 (Nat.le_refl _) (by simp [maxLen]) rfl
  have hb1 : Below w.heap.size w (w.alloc (.cells #[] 2)) := (Below.refl _ _).alloc (Nat.le_refl _) _
  have H0 := Lib.hid h0; have HB1 := Lib.hid hb1
  clear r hin hi0 hz0 hz1 hz2 h0 hb1
  go_enter Tryd.func111, Tryd.ntmps111
  go_wp2
  go_loopw [6, 7] (fun v i wx => ∃ k : Nat, k ≤ n ∧ i = .int .i64 k ∧ wx.ownsRow w.heap.size 2 1 v k ((parts0 k).map (Value.int .i64)) ∧ Below w.heap.size w wx) (fun _ i _ => n - (intOf i).toNat)
  case atStart => exact ⟨0, Nat.zero_le _, rfl, H0.out, HB1.out⟩
  case round =>
    obtain ⟨k, hk, rfl, hO, hB⟩ := hrel
    clear H0 HB1
    by_cases hlt : k < n
    · have HO := Lib.hid hO; have HB := Lib.hid hB
      have hsz1 := hB.size
      have HS := Lib.hid (parts0_succ k)
      clear hO hB
      go_wp2_with (at_builtin; refine wpList_append_own _ rfl _ _ 24 rfl w.heap.size 2 i0 (.int .i64 0) 1 8 Tryd.underlying24 HI.out HZ0.out HZ1.out HZ2.out rfl (by decide) _ _ _ rfl (HO.out.alloc _) ⟨wr.heap.size, 0, none⟩ 1 1 [.int .i64 k] rfl rfl ?c1 ?c2 ?c3 ?c4 ?c5 ?_)
      case c1 => exact cell_one_new _ _ _
      case c2 => intro u hu; simp at hu; subst hu; rfl
      case c3 => unfold maxLen; omega
      case c4 => omega
      case c5 => simp; omega
      intro v' w2 hown' hgrow _
      have hb2 := Lib.hid ((HB.out.alloc hsz1 (.cells #[.int .i64 k] 2)).grown hgrow (by simp; omega) (fun q hq => (HO.out.lt q hq).1))
      have hown2 : w2.ownsRow w.heap.size 2 1 v' (k + 1) ((parts0 (k + 1)).map (Value.int .i64)) := by
        rw [HS.out, List.map_append]; exact hown'
      have hown1 := Lib.hid hown2
      clear hown' hgrow hown2 hsz1
      go_wp2
      go_roundw
      case rel => exact ⟨k + 1, by omega, by go_num, hown1.out, hb2.out⟩
      case measure => simp [intOf]; omega
    · have hkn : k = n := by omega
      subst hkn
      obtain ⟨A, c, rfl⟩ := own_shape1r hO
      have O1 := Lib.hid hO; have B1 := Lib.hid hB
      clear hO hB HI HZ0 HZ1 HZ2
      go_wp2
      go_loopw [8, 9] (fun b i wx => ∃ q : Nat, q ≤ ar.length ∧ i = .int .i64 q ∧ b = .bool (runR k ar q).2 ∧ wx.ownsRow w.heap.size 2 1 (.slice A k c) k ((runR k ar q).1.map (Value.int .i64)) ∧ Below w.heap.size w wx) (fun _ i _ => ar.length - (intOf i).toNat)
      case atStart => exact ⟨0, Nat.zero_le _, rfl, rfl, O1.out, B1.out⟩
      case round =>
        obtain ⟨q, hq, rfl, rfl, hO, hB⟩ := hrel
        clear O1 B1
        by_cases hlt : q < ar.length
        · obtain ⟨b, off, hBe, hbb, hcells⟩ := (HR.out _ hB).at (by omega)
          subst hBe
          obtain ⟨x0, x1, x2⟩ := hcells q hlt
          obtain ⟨hf, ht⟩ := HIN.out q hlt
          have HSK := Lib.hid (HSU.out q hlt)
          obtain ⟨⟨aw, af, a3⟩, hl'⟩ : ∃ a, ar.getD q Ac.nil = a := ⟨_, rfl⟩
          rw [hl'] at x0 x1 x2 hf ht HSK
          dsimp only at x0 x1 x2 hf ht
          obtain ⟨_, hf2, ef⟩ := inW_yes hf
          obtain ⟨_, ht2, et⟩ := inW_yes ht
          obtain ⟨g, cap, hv, hbg, hgl⟩ := hO.form (by omega)
          have hA : A = some ⟨g, 0, none⟩ ∧ c = cap := by injection hv with a b c'; exact ⟨a, c'⟩
          obtain ⟨rfl, rfl⟩ := hA
          have hPl := HLR.out q hq
          have HST : Hid (runR k ar (q + 1) = (renP (runR k ar q).1 (min ((runR k ar q).1.getD af.toNat 0) ((runR k ar q).1.getD a3.toNat 0)) (max ((runR k ar q).1.getD af.toNat 0) ((runR k ar q).1.getD a3.toNat 0)), (runR k ar q).2 || decide ((runR k ar q).1.getD af.toNat 0 = (runR k ar q).1.getD a3.toNat 0))) := Lib.hid (by rw [HSK.out]; rfl)
          obtain ⟨⟨P, cy⟩, hrun⟩ : ∃ p, runR k ar q = p := ⟨_, rfl⟩
          rw [hrun] at hPl hO HST
          rw [hrun]
          dsimp only at hPl hO HST ⊢
          generalize hfn : af.toNat = fn at *
          generalize htn : a3.toNat = tn at *
          subst ef; subst et
          have p1 := own_int_at hO hf2
          have p2 := own_int_at hO ht2
          have HO2 := Lib.hid hO; have HB2 := Lib.hid hB
          have hfi : (fn : Int) < (k : Int) := by omega
          have hti : (tn : Int) < (k : Int) := by omega
          have hqa : (q : Int) < (ar.length : Int) := by omega
          have HSX := Lib.hid HST.out
          clear hcells hf ht hO hB hv HSK hl' hrun hfn htn HST
          generalize hx : P.getD fn 0 = x at *
          generalize hy : P.getD tn 0 = y at *
          have HDB : Hid (decide (x = y) = (x == y)) := Lib.hid rfl
          rw [HDB.out] at HSX
          clear hx hy
          go_upto_region 10 with (fail)
          go_quiet (fail)
          have hbq := below_drewN (Below.refl wr.heap.size wr) nq
          have HO3 : Hid ((wr.drewN nq).ownsRow w.heap.size 2 1 (.slice (some ⟨g, 0, none⟩) k c) k (P.map (Value.int .i64))) := Lib.hid (own_same HO2.out fun q e => hbq.block q (HO2.out.lt q e).2)
          have HB3 := Lib.hid (below_drewN HB2.out nq)
          clear hbq p1 p2 x0 x1 x2 HO2 HB2
          cases cy with
          | true =>
            go_wp2
            generalize wr.drewN nq = w2 at *
            go_loopw [12] (fun i wx => ∃ (j : Nat) (Q : List Int), j ≤ k ∧ i = .int .i64 j ∧ RenQ P (min x y) (max x y) j Q ∧ wx.ownsRow w.heap.size 2 1 (.slice (some ⟨g, 0, none⟩) k c) k (Q.map (Value.int .i64)) ∧ Below w.heap.size w wx) (fun i _ => k - (intOf i).toNat)
            case atStart => exact ⟨0, P, Nat.zero_le _, rfl, RenQ.zero P _ _, HO3.out, HB3.out⟩
            case round =>
              obtain ⟨j, Q, hj, rfl, hQ, hOq, hBq⟩ := hrel
              clear HO3 HB3
              by_cases hjn : j < k
              · have c0 := own_int_at hOq hjn
                have f0 := hOq.frozenAt (g := g) j
                have HH := Lib.hid (fun e => hQ.hit (by omega) e)
                have HM := Lib.hid (fun e => hQ.miss (by omega) e)
                have HOS := Lib.hid (by have q := (hOq.stored j (.int .i64 (min x y))).1; rw [← List.map_set] at q; exact q)
                have HBS := Lib.hid (hBq.setCell (p := ⟨g, j, none⟩) hbg (.int .i64 (min x y)))
                have HOQ := Lib.hid hOq; have HBQ := Lib.hid hBq
                generalize Q.getD j 0 = z at *
                clear hQ hOq hBq
                by_cases hz : z = max x y
                · have hd2 : (z == max x y) = true := by simp [hz]
                  have HQ2 := Lib.hid (HH.out hz)
                  clear hz
                  go_wp2
                  go_roundw
                  case rel => exact ⟨j + 1, _, by omega, by go_num, HQ2.out, HOS.out, HBS.out⟩
                  case measure => simp [intOf]; omega
                · have hd2 : (z == max x y) = false := by simp [hz]
                  have HQ2 := Lib.hid (HM.out hz)
                  clear hz
                  go_wp2
                  go_roundw
                  case rel => exact ⟨j + 1, _, by omega, by go_num, HQ2.out, HOQ.out, HBQ.out⟩
                  case measure => simp [intOf]; omega
              · have hjl : j = P.length := by omega
                have hQ2 : RenQ P (min x y) (max x y) P.length Q := by rw [← hjl]; exact hQ
                have hQd := RenQ.done hQ2
                subst hQd
                have HOQ : Hid (wr.ownsRow w.heap.size 2 1 (.slice (some ⟨g, 0, none⟩) k c) k ((runR k ar (q + 1)).1.map (Value.int .i64))) := Lib.hid (by rw [HSX.out]; exact hOq)
                have HBQ := Lib.hid hBq
                have HCB : Hid (true = (runR k ar (q + 1)).2) := Lib.hid (by rw [HSX.out]; first | rfl | simp)
                clear hQ hQ2 hOq hBq hjl
                go_wp2
                go_roundw
                case rel => exact ⟨q + 1, by omega, by go_num, by rw [← HCB.out], HOQ.out, HBQ.out⟩
                case measure => simp [intOf]; omega
          | false =>
            go_wp2
            generalize wr.drewN nq = w2 at *
            go_loopw [12] (fun i wx => ∃ (j : Nat) (Q : List Int), j ≤ k ∧ i = .int .i64 j ∧ RenQ P (min x y) (max x y) j Q ∧ wx.ownsRow w.heap.size 2 1 (.slice (some ⟨g, 0, none⟩) k c) k (Q.map (Value.int .i64)) ∧ Below w.heap.size w wx) (fun i _ => k - (intOf i).toNat)
            case atStart => exact ⟨0, P, Nat.zero_le _, rfl, RenQ.zero P _ _, HO3.out, HB3.out⟩
            case round =>
              obtain ⟨j, Q, hj, rfl, hQ, hOq, hBq⟩ := hrel
              clear HO3 HB3
              by_cases hjn : j < k
              · have c0 := own_int_at hOq hjn
                have f0 := hOq.frozenAt (g := g) j
                have HH := Lib.hid (fun e => hQ.hit (by omega) e)
                have HM := Lib.hid (fun e => hQ.miss (by omega) e)
                have HOS := Lib.hid (by have q := (hOq.stored j (.int .i64 (min x y))).1; rw [← List.map_set] at q; exact q)
                have HBS := Lib.hid (hBq.setCell (p := ⟨g, j, none⟩) hbg (.int .i64 (min x y)))
                have HOQ := Lib.hid hOq; have HBQ := Lib.hid hBq
                generalize Q.getD j 0 = z at *
                clear hQ hOq hBq
                by_cases hz : z = max x y
                · have hd2 : (z == max x y) = true := by simp [hz]
                  have HQ2 := Lib.hid (HH.out hz)
                  clear hz
                  go_wp2
                  go_roundw
                  case rel => exact ⟨j + 1, _, by omega, by go_num, HQ2.out, HOS.out, HBS.out⟩
                  case measure => simp [intOf]; omega
                · have hd2 : (z == max x y) = false := by simp [hz]
                  have HQ2 := Lib.hid (HM.out hz)
                  clear hz
                  go_wp2
                  go_roundw
                  case rel => exact ⟨j + 1, _, by omega, by go_num, HQ2.out, HOQ.out, HBQ.out⟩
                  case measure => simp [intOf]; omega
              · have hjl : j = P.length := by omega
                have hQ2 : RenQ P (min x y) (max x y) P.length Q := by rw [← hjl]; exact hQ
                have hQd := RenQ.done hQ2
                subst hQd
                have HOQ : Hid (wr.ownsRow w.heap.size 2 1 (.slice (some ⟨g, 0, none⟩) k c) k ((runR k ar (q + 1)).1.map (Value.int .i64))) := Lib.hid (by rw [HSX.out]; exact hOq)
                have HBQ := Lib.hid hBq
                have HCB : Hid ((x == y) = (runR k ar (q + 1)).2) := Lib.hid (by rw [HSX.out]; first | rfl | simp)
                clear hQ hQ2 hOq hBq hjl
                go_wp2
                go_roundw
                case rel => exact ⟨q + 1, by omega, by go_num, by rw [← HCB.out], HOQ.out, HBQ.out⟩
                case measure => simp [intOf]; omega
        · have hqe : q = ar.length := by omega
          subst hqe
          have hPl := HLR.out ar.length (Nat.le_refl _)
          have HG : Hid (GivesB w (runR k ar ar.length).1 (runR k ar ar.length).2 (.returned (.tuple #[.slice A k c, .bool (runR k ar ar.length).2])) wr) := Lib.hid (by
            refine ⟨A, c, by rw [hPl], ?_, hB⟩
            rw [hPl]; exact hO)
          clear hO hB hPl
          go_wp2
          go_ret2
          exact HG.out
/-- The parts as the model keeps them. -/
def gpL (N : Nt) (r : Nat) : List Int := (rtX N r).set r (-1)
theorem rtX_len (N : Nt) (r : Nat) : (rtX N r).length = N.l.length := runR_len _ _ _ (Nat.le_refl _)
theorem gpL_len (N : Nt) (r : Nat) : (gpL N r).length = N.l.length := by unfold gpL; rw [List.length_set, rtX_len]
theorem gpL_at {N : Nt} {r k : Nat} (hr : r < N.l.length) (hk : k < N.l.length) : (gpL N r).getD k 0 = gpX N r k := by
  unfold gpL gpX
  rw [setP_at (by rw [rtX_len]; exact hr)]
  by_cases e : k = r
  · rw [if_pos e, if_neg (by omega)]
  · rw [if_neg e, if_pos ⟨hk, e⟩]
set_option maxRecDepth 100000 in
set_option maxHeartbeats 1500000 in
theorem sGroups_any (h : NH) (N : Nt) (r : Nat) (w : World) (hv : valN N = true) (rN : RdN w w.heap.size h N) (hr : r < N.l.length) (htm : tmB N r = true) :
    Calls Tryd.prog 97 #[.agg #[.slice h.A N.w.length h.c, .slice h.L N.l.length h.d, .slice h.C N.c.length h.e], .int .i64 r] w (Gives w (gpL N r)) := by
  obtain ⟨h48, h48l⟩ := valN_size hv
  obtain ⟨i3, hi3, hz3, hs3, hb3⟩ := info_parts info_arc
  have HI := Lib.hid hi3; have HZ0 := Lib.hid hz3; have HZ1 := Lib.hid hs3; have HZ2 := Lib.hid hb3
  obtain ⟨w0, hw0⟩ : ∃ w0, w0 = w.alloc (.cells #[.slice h.A N.w.length h.c, .slice h.L N.l.length h.d, .slice h.C N.c.length h.e] 31) := ⟨_, rfl⟩
  obtain ⟨hb, hh, hsz⟩ := box3_any w (.slice h.A N.w.length h.c) (.slice h.L N.l.length h.d) (.slice h.C N.c.length h.e) 31
  rw [← hw0] at hb hh hsz
  have HK : Hid (∀ w', Below w0.heap.size w0 w' → w'.cell? ⟨w.heap.size, 0, none⟩ = some (.slice h.A N.w.length h.c) ∧ w'.cell? ⟨w.heap.size, 1, none⟩ = some (.slice h.L N.l.length h.d) ∧ w'.cell? ⟨w.heap.size, 2, none⟩ = some (.slice h.C N.c.length h.e)) := Lib.hid fun w' hw => three_cells ((hw.block _ (by omega)).trans hh)
  have HR := Lib.hid (fun (w' : World) (hw : Below w0.heap.size w0 w') => ((rN.below (hb.trans (hw.mono hb.size))).more (Nat.le_trans hb.size hw.size)))
  have HTO := Lib.hid (fun (x : Int) (w' : World) (hw : Below w0.heap.size w0 w') => smTo_any h.A h.L h.C N.w.length h.c h.d N.c.length h.e N.l x w' (HR.out _ hw).2.1 (by omega))
  have HFR := Lib.hid (fun (x : Int) (w' : World) (hw : Below w0.heap.size w0 w') => smFrom_any h.A h.L h.C N.w.length h.c h.d N.c.length h.e N.l x w' (HR.out _ hw).2.1 (by omega))
  have HB0 := Lib.hid hb
  have h0 : (w0.alloc (.cells #[] 100)).ownsRow w0.heap.size 100 3 (.slice (some ⟨w.heap.size + 1, 0, none⟩) 0 0) 0 ((flA (arcY N r 0)).map (Value.int .i64)) := by rw [← hsz]; exact World.ownsRow_made w0 #[] 0 (Nat.le_refl _) (by simp [maxLen]) rfl
  have hb1 : Below w0.heap.size w0 (w0.alloc (.cells #[] 100)) := (Below.refl _ _).alloc (Nat.le_refl _) _
  have H0 := Lib.hid h0; have HB1 := Lib.hid hb1
  have HVV := Lib.hid hv
  have HAI := Lib.hid (arcY_is hv hr htm)
  have HIN : Hid (ArcsIn N.l.length (arcY N r N.w.length)) := Lib.hid (by rw [arcY_is hv hr htm]; exact fun a ha => ⟨(arcX_in hv r a ha).1, (arcX_in hv r a ha).2.1⟩)
  clear hb hh hsz rN hi3 hz3 hs3 hb3 h0 hb1 hv htm
  go_enter Tryd.func97, Tryd.ntmps97
  go_wp2
  rw [← hw0]
  clear hw0
  go_loopw [5, 6] (fun v i wx => ∃ k : Nat, k ≤ N.w.length ∧ i = .int .i64 k ∧ wx.ownsRow w0.heap.size 100 3 v (arcY N r k).length ((flA (arcY N r k)).map (Value.int .i64)) ∧ Below w0.heap.size w0 wx) (fun _ i _ => N.w.length - (intOf i).toNat)
  case atStart => exact ⟨0, Nat.zero_le _, rfl, H0.out, HB1.out⟩
  case round =>
    obtain ⟨k, hk, rfl, hO, hB⟩ := hrel
    clear H0 HB1
    obtain ⟨y0, y1, y2⟩ := HK.out _ hB
    have HO := Lib.hid hO; have HB := Lib.hid hB
    clear hO hB
    by_cases hlt : k < N.w.length
    · have HT := HTO.out (k : Int) _ HB.out
      rw [to_lxQ (N := N)] at HT
      have HF0 := Lib.hid (fun w' hw => HFR.out (k : Int) w' hw)
      rw [from_lxQ HVV.out] at HF0
      have HTT := Lib.hid HT
      have HAR : Hid (arcA N k = ⟨(k : Int), lxN outL N (k : Int), lxN inL N (k : Int)⟩) := Lib.hid rfl
      have HYE := Lib.hid (fun e1 e2 => arcY_yes (N := N) (r := r) (k := k) e1 e2)
      have HNO := Lib.hid (fun e => arcY_no (N := N) (r := r) (k := k) e)
      have hln := arcY_len N r k
      clear HT
      generalize lxN outL N (k : Int) = p at *
      generalize lxN inL N (k : Int) = q at *
      by_cases hq : 0 ≤ q ∧ ¬ q = (r : Int)
      · have hd : decide (0 ≤ q) = true := decide_eq_true hq.1
        have hd2 : (q != (r : Int)) = true := by simpa using hq.2
        have HS := Lib.hid (HYE.out hq.1 hq.2)
        have HLN : Hid ((arcY N r (k + 1)).length = (arcY N r k).length + 1) := Lib.hid (by rw [HS.out]; simp)
        clear hq
        go_wp2_with (fail)
        refine HTT.out.mono ?_
        rintro e w1 ⟨rfl, bel1⟩
        have B1 := Lib.hid (HB.out.trans (bel1.mono HB.out.size))
        have HO1 := Lib.hid (own_same HO.out fun k hk => bel1.block k (HO.out.lt k hk).2)
        clear bel1 y0 y1 y2
        obtain ⟨y0, y1, y2⟩ := HK.out _ B1.out
        go_wp2_with (fail)
        refine (HF0.out w1 B1.out).mono ?_
        rintro e w2 ⟨rfl, bel2⟩
        have B2 := Lib.hid (B1.out.trans (bel2.mono B1.out.size))
        have HO2 := Lib.hid (own_same HO1.out fun k hk => bel2.block k (HO1.out.lt k hk).2)
        have hsz1 := B2.out.size
        clear bel2 y0 y1 y2
        go_wp2_with (at_builtin; refine wpList_append_own _ rfl _ _ 97 rfl w0.heap.size 100 i3 (.agg #[.int .i64 0, .int .i64 0, .int .i64 0]) 3 24 Tryd.underlying97 HI.out HZ0.out HZ1.out HZ2.out rfl (by decide) _ _ _ rfl (HO2.out.alloc _) ⟨w2.heap.size, 0, none⟩ 1 1 [.int .i64 k, .int .i64 p, .int .i64 q] rfl rfl ?c1 ?c2 ?c3 ?c4 ?c5 ?_)
        case c1 => exact three_new _ _ _ _ _
        case c2 => intro u hu; simp at hu; rcases hu with rfl | rfl | rfl <;> rfl
        case c3 => unfold maxLen; omega
        case c4 => omega
        case c5 => simp; omega
        intro v' w3 hown' hgrow _
        have hb2 := Lib.hid ((B2.out.alloc hsz1 (.cells #[.int .i64 k, .int .i64 p, .int .i64 q] 100)).grown hgrow (by simp; omega) (fun q hq => (HO2.out.lt q hq).1))
        have hown2 : w3.ownsRow w0.heap.size 100 3 v' (arcY N r (k + 1)).length ((flA (arcY N r (k + 1))).map (Value.int .i64)) := by
          rw [HLN.out, HS.out, flA_app, List.map_append, HAR.out]; exact hown'
        have hown1 := Lib.hid hown2
        clear hown' hgrow hown2 hsz1
        go_wp2
        go_roundw
        case rel => exact ⟨k + 1, by omega, by go_num, hown1.out, hb2.out⟩
        case measure => simp [intOf]; omega
      · have HS := Lib.hid (HNO.out hq)
        have hdd : decide (0 ≤ q) = false ∨ (decide (0 ≤ q) = true ∧ (q != (r : Int)) = false) := by
          by_cases e : 0 ≤ q
          · right
            refine ⟨decide_eq_true e, ?_⟩
            have : q = (r : Int) := Decidable.byContradiction fun e2 => hq ⟨e, e2⟩
            simp [this]
          · left; exact decide_eq_false e
        clear hq
        go_wp2_with (fail)
        refine HTT.out.mono ?_
        rintro e w1 ⟨rfl, bel1⟩
        have B1 := Lib.hid (HB.out.trans (bel1.mono HB.out.size))
        have HO1 := own_same HO.out fun k hk => bel1.block k (HO.out.lt k hk).2
        rw [← HS.out] at HO1
        have HO3 := Lib.hid HO1
        clear bel1 y0 y1 y2 HO1
        rcases hdd with hd | ⟨hd, hd2⟩
        · go_wp2
          go_roundw
          case rel => exact ⟨k + 1, by omega, by go_num, HO3.out, B1.out⟩
          case measure => simp [intOf]; omega
        · go_wp2
          go_roundw
          case rel => exact ⟨k + 1, by omega, by go_num, HO3.out, B1.out⟩
          case measure => simp [intOf]; omega
    · have hkl : k = N.w.length := by omega
      subst hkl
      have hO := HO.out
      obtain ⟨A5, c5, rfl⟩ := own_shape3 hO
      have RA := RdA.of_own hO
      have hal := arcY_len N r N.w.length
      have HRT := Lib.hid (sRoots_any N.l.length (arcY N r N.w.length) A5 c5 wr (by omega) (by omega) HIN.out RA)
      have HG1 : Hid ((runR N.l.length (arcY N r N.w.length) (arcY N r N.w.length).length).1 = rtX N r) := Lib.hid (by rw [HAI.out]; rfl)
      rw [HG1.out] at HRT
      have HRL := Lib.hid (rtX_len N r)
      have hlpos : 0 < N.l.length := by omega
      clear hO RA
      generalize (runR N.l.length (arcY N r N.w.length) (arcY N r N.w.length).length).2 = bb at *
      go_wp2_with (fail)
      refine HRT.out.mono ?_
      rintro e w6 ⟨A6, c6, rfl, own6, bel6⟩
      rw [HRL.out] at own6 ⊢
      obtain ⟨g, cap, hv', hlo, hhi⟩ := own6.form hlpos
      obtain ⟨rfl, rfl⟩ : A6 = some ⟨g, 0, none⟩ ∧ c6 = cap := by injection hv' with a b c'; exact ⟨a, c'⟩
      obtain ⟨d0, e0⟩ : ∃ x, w6.cell? ⟨g, r, none⟩ = some x := ⟨_, (own6.cellAt (g := g) r (by omega)).trans (List.getElem?_eq_getElem (by rw [List.length_map, HRL.out]; exact hr))⟩
      have fr0 := own6.frozenAt (g := g) r
      have own7 := own6.stored r (.int .i64 (-1))
      rw [← List.map_set] at own7
      have HG : Hid (Gives w (gpL N r) (.returned (.slice (some ⟨g, 0, none⟩) N.l.length c6)) (w6.setCell ⟨g, r, none⟩ (.int .i64 (-1)))) := Lib.hid (by
        refine ⟨_, c6, by rw [gpL_len], ?_, ?_⟩
        · rw [gpL_len]
          exact own7.1.mono (Nat.le_trans HB0.out.size HB.out.size)
        · have hw6 := HB0.out.trans ((HB.out.trans (bel6.mono HB.out.size)).mono HB0.out.size)
          exact hw6.setCell (p := ⟨g, r, none⟩) (Nat.le_trans (Nat.le_trans HB0.out.size HB.out.size) hlo) _)
      have hri : (r : Int) < (N.l.length : Int) := by omega
      clear own6 own7 bel6 hv' hlo hhi y0 y1 y2
      go_wp2
      go_ret
      exact HG.out
set_option maxRecDepth 100000 in
set_option maxHeartbeats 2000000 in
theorem sSplits_any (h : NH) (N : Nt) (r : Nat) (w : World) (hv : valN N = true) (rN : RdN w w.heap.size h N) (hr : r < N.l.length) :
    Calls Tryd.prog 70 #[.agg #[.slice h.A N.w.length h.c, .slice h.L N.l.length h.d, .slice h.C N.c.length h.e], .int .i64 r] w fun e w' => e = .returned (.bool (spB N r)) ∧ Below w.heap.size w w' := by
  obtain ⟨h48, h48l⟩ := valN_size hv
  obtain ⟨w0, hw0⟩ : ∃ w0, w0 = w.alloc (.cells #[.slice h.A N.w.length h.c, .slice h.L N.l.length h.d, .slice h.C N.c.length h.e] 31) := ⟨_, rfl⟩
  obtain ⟨hb, hh, hsz⟩ := box3_any w (.slice h.A N.w.length h.c) (.slice h.L N.l.length h.d) (.slice h.C N.c.length h.e) 31
  rw [← hw0] at hb hh hsz
  have HK := Lib.hid (fun (wx : World) (hw : Below w0.heap.size w0 wx) => three_cells ((hw.block w.heap.size (by omega)).trans hh))
  have HR := Lib.hid (fun (w' : World) (hw : Below w0.heap.size w0 w') => ((rN.below (hb.trans (hw.mono hb.size))).more (Nat.le_trans hb.size hw.size)))
  have HB0 := Lib.hid hb
  obtain ⟨b, off, hLe, hbb, hcells⟩ := rN.2.1.at (by omega)
  obtain ⟨l0, l1, l2, l3⟩ := hcells r hr
  have l0 := (hb.cell (p := ⟨b, off + r * 4, none⟩) hbb).trans l0
  have l1 := (hb.cell (p := ⟨b, off + r * 4 + 1, none⟩) hbb).trans l1
  have l2 := (hb.cell (p := ⟨b, off + r * 4 + 2, none⟩) hbb).trans l2
  have l3 := (hb.cell (p := ⟨b, off + r * 4 + 3, none⟩) hbb).trans l3
  obtain ⟨bl, z0, z1, z2, z3, zs⟩ := lnk_any w0 (N.l.getD r Lk.nil) 54
  obtain ⟨u2, hu2⟩ : ∃ u2, u2 = w0.alloc (.cells #[.int .i64 (N.l.getD r Lk.nil).k, .int .i64 (N.l.getD r Lk.nil).a, .int .i64 (N.l.getD r Lk.nil).b, .int .i64 (N.l.getD r Lk.nil).c] 54) := ⟨_, rfl⟩
  rw [← hu2] at bl z0 z1 z2 z3 zs
  have HBL := Lib.hid bl
  have hzl : w0.heap.size < u2.heap.size := by omega
  have HZK := Lib.hid (fun (wx : World) (hx : Below u2.heap.size u2 wx) => And.intro ((hx.cell (p := ⟨w0.heap.size, 1, none⟩) hzl).trans z1) ((hx.cell (p := ⟨w0.heap.size, 2, none⟩) hzl).trans z2))
  have HB2 : Hid (Below w.heap.size w u2) := Lib.hid (hb.trans (bl.mono hb.size))
  have hk2 : (r : Int) < (N.l.length : Int) := by omega
  obtain ⟨y0, y1, y2⟩ := three_cells hh
  have HKU := Lib.hid (fun (wx : World) (hx : Below u2.heap.size u2 wx) => HK.out wx (bl.trans (hx.mono bl.size)))
  have HT := Lib.hid (sTerminal_any h N r u2 hv (HR.out u2 bl) hr)
  have HGP := Lib.hid (fun (htm : tmB N r = true) (wx : World) (hx : Below u2.heap.size u2 wx) => sGroups_any h N r wx hv (HR.out wx (bl.trans (hx.mono bl.size))) hr htm)
  have HFR := Lib.hid (fun (x : Int) (wx : World) (hx : Below u2.heap.size u2 wx) => smFrom_any h.A h.L h.C N.w.length h.c h.d N.c.length h.e N.l x wx (HR.out wx (bl.trans (hx.mono bl.size))).2.1 (by omega))
  have HGA : Hid (((N.l.getD r Lk.nil).k = 2 ∨ (N.l.getD r Lk.nil).k = 3) → (inW N.w.length (N.l.getD r Lk.nil).a = true ∧ inW N.w.length (N.l.getD r Lk.nil).b = true)) := Lib.hid fun e => ⟨in_in hv hr (join_in e).1, in_in hv hr (join_in e).2⟩
  have HG1 : Hid (gpX N r (frN N (N.l.getD r Lk.nil).a) = gaX N r) := Lib.hid rfl
  have HG2 : Hid (gpX N r (frN N (N.l.getD r Lk.nil).b) = gbX N r) := Lib.hid rfl
  have HNO : Hid (¬ ((N.l.getD r Lk.nil).k = 2 ∨ (N.l.getD r Lk.nil).k = 3) → spB N r = false) := Lib.hid fun e => by unfold spB; rw [decide_eq_false e]; rfl
  have HSB : Hid (((N.l.getD r Lk.nil).k = 2 ∨ (N.l.getD r Lk.nil).k = 3) → spB N r = (tmB N r && (!decide (gaX N r = gbX N r) && twB N r))) := Lib.hid fun e => by unfold spB; rw [decide_eq_true e, Bool.true_and]
  have HGE : Hid (∀ k, -1 ≤ gpX N r k) := Lib.hid fun k => by
    by_cases e : k < N.l.length ∧ ¬ k = r
    · have := gpX_in hv e.1 e.2; omega
    · rw [gpX_out e]; omega
  have HVV := Lib.hid hv
  have HU2 := Lib.hid hu2
  rw [hLe] at y1
  clear hb hh hsz rN hcells bl zs hv hLe z1 z2 z3
  generalize N.l.getD r Lk.nil = l at *
  obtain ⟨lk, la, lb, lc⟩ := l
  dsimp only at l0 l1 l2 l3 z0 HNO HSB HGA HG1 HG2 HU2 hu2
  by_cases hkk : lk = 2 ∨ lk = 3
  · have HGAA := Lib.hid (HGA.out hkk)
    have HSBB := Lib.hid (HSB.out hkk)
    clear HGA HSB HNO
    rcases hkk with e | e <;> subst e
    all_goals
      go_enter Tryd.func70, Tryd.ntmps70
      go_upto_region 1 with (fail)
      rw [← hw0]
      clear hw0
      go_upto_region 2 with (fail)
      rw [← HU2.out]
      clear hu2 y0 y1 y2 l0 l1 l2 l3
      obtain ⟨y0, y1, y2⟩ := HKU.out u2 (Below.refl _ _)
      go_wp2_with (fail)
      refine HT.out.mono ?_
      rintro e w3 ⟨rfl, bel3⟩
      have B3 := Lib.hid bel3
      clear bel3 y0 y1 y2 z0
      cases htm : tmB N r with
      | false =>
        have HE : Hid (false = spB N r) := Lib.hid (by rw [HSBB.out, htm]; rfl)
        have HB3 := Lib.hid (HB2.out.trans (B3.out.mono HB2.out.size))
        clear htm
        go_wp2
        go_ret
        exact ⟨ret_bool HE.out, HB3.out⟩
      | true =>
        have HGG := Lib.hid (HGP.out htm w3 B3.out)
        have HSC : Hid (spB N r = (!decide (gaX N r = gbX N r) && twB N r)) := Lib.hid (by rw [HSBB.out, htm, Bool.true_and])
        obtain ⟨y0, y1, y2⟩ := HKU.out w3 B3.out
        clear htm HSBB HGP HT
        go_wp2_with (fail)
        refine HGG.out.mono ?_
        rintro e w4 ⟨A4, c4, rfl, own4, bel4⟩
        have B4 := Lib.hid (B3.out.trans (bel4.mono B3.out.size))
        have R4 := Lib.hid (RdI.of_own own4)
        have HGL := Lib.hid (gpL_len N r)
        obtain ⟨hia, hib⟩ := HGAA.out
        obtain ⟨fa1, fa2⟩ := fr_lt HVV.out hia
        obtain ⟨fb1, fb2⟩ := fr_lt HVV.out hib
        rw [HGL.out]
        obtain ⟨bg, og, hAe, hbg, hgc⟩ := R4.out.2 (by rw [HGL.out]; omega)
        have ga0 := hgc (frN N la) (by rw [HGL.out]; exact fa2)
        have gb0 := hgc (frN N lb) (by rw [HGL.out]; exact fb2)
        rw [gpL_at hr fa2, HG1.out] at ga0
        rw [gpL_at hr fb2, HG2.out] at gb0
        have HFA := Lib.hid (fun (wx : World) (hx : Below w4.heap.size w4 wx) => HFR.out la wx (B4.out.trans (hx.mono B4.out.size)))
        have HFB := Lib.hid (fun (wx : World) (hx : Below w4.heap.size w4 wx) => HFR.out lb wx (B4.out.trans (hx.mono B4.out.size)))
        rw [from_lxQ HVV.out, fa1] at HFA
        rw [from_lxQ HVV.out, fb1] at HFB
        have HCL : Hid (∀ (wx : World), Below w4.heap.size w4 wx → ∀ k, k < N.l.length → wx.cell? ⟨bg, og + k, none⟩ = some (.int .i64 (gpX N r k))) := Lib.hid fun wx hx k hk => by
          rw [← gpL_at hr hk]
          exact (hx.cell (p := ⟨bg, og + k, none⟩) hbg).trans (hgc k (by rw [HGL.out]; exact hk))
        have HS : Hid (∀ wx, Below w4.heap.size w4 wx → wx.cell? ⟨w.heap.size, 0, none⟩ = some (.slice h.A N.w.length h.c) ∧ wx.cell? ⟨w.heap.size, 1, none⟩ = some (.slice h.L N.l.length h.d) ∧ wx.cell? ⟨w.heap.size, 2, none⟩ = some (.slice h.C N.c.length h.e) ∧ wx.cell? ⟨w0.heap.size, 1, none⟩ = some (.int .i64 la) ∧ wx.cell? ⟨w0.heap.size, 2, none⟩ = some (.int .i64 lb) ∧ wx.cell? ⟨bg, og + frN N la, none⟩ = some (.int .i64 (gaX N r)) ∧ wx.cell? ⟨bg, og + frN N lb, none⟩ = some (.int .i64 (gbX N r))) := Lib.hid fun wx hx => by
          obtain ⟨a0, a1, a2⟩ := HKU.out wx (B4.out.trans (hx.mono B4.out.size))
          obtain ⟨a3, a4⟩ := HZK.out wx (B4.out.trans (hx.mono B4.out.size))
          exact ⟨a0, a1, a2, a3, a4, (hx.cell (p := ⟨bg, og + frN N la, none⟩) hbg).trans ga0, (hx.cell (p := ⟨bg, og + frN N lb, none⟩) hbg).trans gb0⟩
        have hai : (frN N la : Int) < (N.l.length : Int) := by omega
        have hbi : (frN N lb : Int) < (N.l.length : Int) := by omega
        have BD : Hid (Below w4.heap.size w4 w4.drew) := Lib.hid ((Below.refl w4.heap.size w4).drew)
        have K0 := Lib.hid (HS.out _ (Below.refl _ w4))
        have K1 := Lib.hid (HS.out _ BD.out)
        have tok1 : True := trivial
        clear own4 bel4 y0 y1 y2 hia hib fa1 fb1 fa2 fb2 hgc ga0 gb0 HG1 HG2 HGG
        generalize frN N la = ka at *
        generalize frN N lb = kb at *
        subst hAe
        go_upto_region 5 with (fail)
        go_cut [7, 8] (fun v7 v8 wx => v7 = .int .i64 (gaX N r) ∧ v8 = .int .i64 (gbX N r) ∧ Below w4.heap.size w4 wx)
        case first =>
          go_region_held3 (fun wx => wx.cell? ⟨w.heap.size, 0, none⟩ = some (.slice h.A N.w.length h.c) ∧ wx.cell? ⟨w.heap.size, 1, none⟩ = some (.slice h.L N.l.length h.d) ∧ wx.cell? ⟨w.heap.size, 2, none⟩ = some (.slice h.C N.c.length h.e) ∧ wx.cell? ⟨w0.heap.size, 1, none⟩ = some (.int .i64 la) ∧ wx.cell? ⟨w0.heap.size, 2, none⟩ = some (.int .i64 lb) ∧ wx.cell? ⟨bg, og + ka, none⟩ = some (.int .i64 (gaX N r)) ∧ wx.cell? ⟨bg, og + kb, none⟩ = some (.int .i64 (gbX N r)))
            (first | exact K1.out | exact K0.out | exact HS.out _ B5.out | exact HS.out _ B6.out)
            (first
              | (have _t := tok1; go_at_call 83; refine (HFA.out w4.drew BD.out).mono ?_; rintro e w5 ⟨rfl, bel5⟩; have B5 := Lib.hid (BD.out.trans (bel5.mono BD.out.size)); have tok2 : True := trivial; clear bel5 tok1)
              | (have _t := tok2; go_at_call 83; refine (HFB.out w5 B5.out).mono ?_; rintro e w6 ⟨rfl, bel6⟩; have B6 := Lib.hid (B5.out.trans (bel6.mono B5.out.size)); clear bel6 tok2))
          all_goals (try go_wp2_with (fail))
          all_goals go_meet
          all_goals exact ⟨rfl, rfl, B6.out⟩
        case rest =>
        obtain ⟨rfl, rfl, hBc⟩ := hcut
        have HBC := Lib.hid hBc
        have HBW : Hid (Below w.heap.size w wc) := Lib.hid (HB2.out.trans ((B4.out.trans (hBc.mono B4.out.size)).mono HB2.out.size))
        clear hBc HFA HFB HFR HS K0 K1
        have HTW : Hid (∀ k, k < N.l.length → 0 ≤ gpX N r k → ¬ gpX N r k = gaX N r → ¬ gpX N r k = gbX N r → spB N r = false) := Lib.hid fun k hk h1 h2 h3 => by
          rw [HSC.out]
          have : twB N r = false := by
            unfold twB
            rw [List.all_eq_false]
            exact ⟨k, List.mem_range.2 hk, by rw [decide_eq_true_eq]; omega⟩
          rw [this, Bool.and_false]
        have HTY : Hid ((∀ k, k < N.l.length → gpX N r k = -1 ∨ gpX N r k = gaX N r ∨ gpX N r k = gbX N r) → (gaX N r != gbX N r) = spB N r) := Lib.hid fun hall => by
          rw [HSC.out]
          have : twB N r = true := by
            unfold twB
            rw [List.all_eq_true]
            exact fun k hk => decide_eq_true (hall k (List.mem_range.1 hk))
          rw [this, Bool.and_true]; rfl
        clear HSC
        generalize gaX N r = ga at *
        generalize gbX N r = gb at *
        go_wp2
        go_loopw [9] (fun i wx => ∃ k : Nat, k ≤ N.l.length ∧ i = .int .i64 k ∧ (∀ j, j < k → gpX N r j = -1 ∨ gpX N r j = ga ∨ gpX N r j = gb) ∧ wx = wc) (fun i _ => N.l.length - (intOf i).toNat)
        case atStart => exact ⟨0, Nat.zero_le _, rfl, fun j hj => absurd hj (by omega), rfl⟩
        case round =>
          obtain ⟨k, hk, rfl, hall, rfl⟩ := hrel
          by_cases hlt : k < N.l.length
          · have x0 := HCL.out _ HBC.out k hlt
            have hge := HGE.out k
            have HTWk := Lib.hid (HTW.out k hlt)
            have HAL := Lib.hid hall
            have HST : Hid ((gpX N r k = -1 ∨ gpX N r k = ga ∨ gpX N r k = gb) → ∀ j, j < k + 1 → gpX N r j = -1 ∨ gpX N r j = ga ∨ gpX N r j = gb) := Lib.hid fun e j hj => by
              by_cases e2 : j < k
              · exact HAL.out j e2
              · obtain rfl : j = k := by omega
                exact e
            clear hall
            generalize gpX N r k = q at *
            by_cases hq0 : 0 ≤ q
            · have d1 : decide (0 ≤ q) = true := decide_eq_true hq0
              by_cases hqa : q = ga
              · have d2 : (q != ga) = false := by simp [hqa]
                have HS2 := Lib.hid (HST.out (.inr (.inl hqa)))
                clear hq0 hqa hge
                go_wp2
                go_roundw
                case rel => exact ⟨k + 1, by omega, by go_num, HS2.out, by first | rfl | trivial⟩
                case measure => simp [intOf]; omega
              · have d2 : (q != ga) = true := by simpa using hqa
                by_cases hqb : q = gb
                · have d3 : (q != gb) = false := by simp [hqb]
                  have HS2 := Lib.hid (HST.out (.inr (.inr hqb)))
                  clear hq0 hqa hqb hge
                  go_wp2
                  go_roundw
                  case rel => exact ⟨k + 1, by omega, by go_num, HS2.out, by first | rfl | trivial⟩
                  case measure => simp [intOf]; omega
                · have d3 : (q != gb) = true := by simpa using hqb
                  have HE : Hid (false = spB N r) := Lib.hid (HTWk.out hq0 hqa hqb).symm
                  clear hq0 hqa hqb hge
                  go_wp2
                  go_ret
                  exact ⟨ret_bool HE.out, HBW.out⟩
            · have d1 : decide (0 ≤ q) = false := decide_eq_false hq0
              have HS2 := Lib.hid (HST.out (.inl (by omega)))
              clear hq0 hge
              go_wp2
              go_roundw
              case rel => exact ⟨k + 1, by omega, by go_num, HS2.out, by first | rfl | trivial⟩
              case measure => simp [intOf]; omega
          · have hkl : k = N.l.length := by omega
            subst hkl
            have HE : Hid ((ga != gb) = spB N r) := Lib.hid (HTY.out hall)
            clear hall
            go_wp2
            go_ret
            exact ⟨ret_bool HE.out, HBW.out⟩
  · have HE : Hid (false = spB N r) := Lib.hid (HNO.out hkk).symm
    have d1 : (lk != 3) = true := by simp; omega
    have d2 : (lk != 2) = true := by simp; omega
    clear hkk
    go_enter Tryd.func70, Tryd.ntmps70
    go_upto_region 1 with (fail)
    rw [← hw0]
    clear hw0
    go_upto_region 2 with (fail)
    rw [← HU2.out]
    clear hu2 y0 y1 y2 l0 l1 l2 l3
    go_wp2
    go_ret
    exact ⟨ret_bool HE.out, HB2.out⟩
theorem selU_none {p : Nat → Bool} {n : Nat} (h : ∀ j, j < n → p j = false) : selU p n = [] := by
  cases e : selU p n with
  | nil => rfl
  | cons x X =>
    obtain ⟨j, h1, h2, _⟩ := selU_mem.1 (show x ∈ selU p n by rw [e]; simp)
    rw [h j h1] at h2; cases h2
theorem lsV_first {N : Nt} (hv : valN N = true) {k : Nat} (hk : k < N.l.length) (h : ∀ j, j < k → tpB N j = false) (hp : tpB N k = true) : lsV N = (k : Int) := by
  obtain ⟨R, hR⟩ := selU_cut hk hp
  rw [selU_none h] at hR
  unfold lsV lsL tpL
  rw [if_pos hv, hR]; rfl
theorem lsV_second {N : Nt} (hv : valN N = true) (h : ∀ j, j < N.l.length → tpB N j = false) (hs : 0 < (spL N).length) : lsV N = (spL N).getD 0 0 := by
  unfold lsV lsL tpL
  rw [if_pos hv, selU_none h]
  cases e : spL N with
  | nil => rw [e] at hs; simp at hs
  | cons x X => rfl
theorem lsV_third {N : Nt} (hv : valN N = true) (h : ∀ j, j < N.l.length → tpB N j = false) (hs : (spL N).length = 0) : lsV N = if N.l.length = 1 ∧ (N.l.getD 0 Lk.nil).k = 1 then 0 else -1 := by
  unfold lsV lsL tpL
  rw [if_pos hv, selU_none h, List.eq_nil_of_length_eq_zero hs]
  by_cases h1 : N.l.length = 1
  · rw [if_pos h1, h1]
    by_cases hk : (N.l.getD 0 Lk.nil).k = 1
    · rw [if_pos ⟨rfl, hk⟩]
      have : kinU 1 N.l 1 = [0] := by
        have hm : (0 : Int) ∈ kinU 1 N.l 1 := kinU_mem.2 ⟨0, by omega, hk, rfl⟩
        have hl := kinU_len 1 N.l 1
        cases e : kinU 1 N.l 1 with
        | nil => rw [e] at hm; cases hm
        | cons x X =>
          rw [e] at hm hl
          have : X = [] := List.eq_nil_of_length_eq_zero (by rw [List.length_cons] at hl; omega)
          subst this
          rw [List.mem_singleton] at hm
          rw [hm]
      rw [this]; rfl
    · rw [if_neg (fun e => hk e.2)]
      have : kinU 1 N.l 1 = [] := by
        cases e : kinU 1 N.l 1 with
        | nil => rfl
        | cons x X =>
          obtain ⟨j, h1, h2, _⟩ := kinU_mem.1 (show x ∈ kinU 1 N.l 1 by rw [e]; simp)
          obtain rfl : j = 0 := by omega
          exact absurd h2 hk
      rw [this]; rfl
  · rw [if_neg h1, if_neg (fun e => h1 e.1)]; rfl
set_option maxRecDepth 100000 in
set_option maxHeartbeats 800000 in
theorem sAllSplits_any (h : NH) (N : Nt) (w : World) (hv : valN N = true) (r : RdN w w.heap.size h N) :
    Calls Tryd.prog 43 #[.agg #[.slice h.A N.w.length h.c, .slice h.L N.l.length h.d, .slice h.C N.c.length h.e]] w (Gives w (spL N)) := by
  obtain ⟨i0, hi0, hz0, hz1, hz2⟩ := info_parts info_i64
  have HI := Lib.hid hi0; have HZ0 := Lib.hid hz0; have HZ1 := Lib.hid hz1; have HZ2 := Lib.hid hz2
  obtain ⟨w1, hw1⟩ : ∃ w1, w1 = w.alloc (.cells #[.slice h.A N.w.length h.c, .slice h.L N.l.length h.d, .slice h.C N.c.length h.e] 31) := ⟨_, rfl⟩
  obtain ⟨hb, hh, hsz⟩ := box3_any w (.slice h.A N.w.length h.c) (.slice h.L N.l.length h.d) (.slice h.C N.c.length h.e) 31
  rw [← hw1] at hb hh hsz
  obtain ⟨w0, hw0⟩ : ∃ w0, w0 = w1.alloc (.cells #[] 2) := ⟨_, rfl⟩
  have hb1 : Below w1.heap.size w1 w0 := by rw [hw0]; exact (Below.refl _ _).alloc (Nat.le_refl _) _
  have hO0 : w0.ownsRow w1.heap.size 2 1 (.slice (some ⟨w1.heap.size, 0, none⟩) 0 0) 0 ((selU (spB N) 0).map (Value.int .i64)) := by rw [hw0]; exact World.ownsRow_made w1 #[] 0 (Nat.le_refl _) (by simp [maxLen]) rfl
  have HK := Lib.hid (fun (wx : World) (hw : Below w1.heap.size w1 wx) => three_cells ((hw.block w.heap.size (by omega)).trans hh))
  have HR := Lib.hid (fun (wx : World) (hw : Below w1.heap.size w1 wx) => show RdN wx wx.heap.size h N from (r.below (hb.trans (hw.mono hb.size))).more (Nat.le_trans hb.size hw.size))
  have HB0 := Lib.hid hb
  have B2 := Lib.hid hb1
  have O2 := Lib.hid hO0
  have HW1 := Lib.hid hw1; have HW0 := Lib.hid hw0; have HSZ := Lib.hid hsz
  clear hb hh hsz r hb1 hO0 hi0 hz0 hz1 hz2
  have h48 := (valN_size hv).2
  have HVV : Hid (spL N = selU (spB N) N.l.length) := Lib.hid rfl
  have HT := Lib.hid (fun (k : Nat) (hk : k < N.l.length) (wx : World) (hx : Below w1.heap.size w1 wx) => sSplits_any h N k wx hv (HR.out wx hx) hk)
  clear hv
  go_enter Tryd.func43, Tryd.ntmps43
  go_upto_region 2 with (fail)
  rw [← HW1.out, ← HW0.out]
  clear hw1 hw0
  (try rw [← HSZ.out])
  go_wp2
  go_loopw [3, 4] (fun v i wx => ∃ k : Nat, k ≤ N.l.length ∧ i = .int .i64 k ∧ wx.ownsRow w1.heap.size 2 1 v (selU (spB N) k).length ((selU (spB N) k).map (Value.int .i64)) ∧ Below w1.heap.size w1 wx) (fun _ i _ => N.l.length - (intOf i).toNat)
  case atStart => exact ⟨0, Nat.zero_le _, rfl, O2.out, B2.out⟩
  case round =>
    obtain ⟨k, hk, rfl, hO, hB⟩ := hrel
    obtain ⟨y0, y1, y2⟩ := HK.out wr hB
    by_cases hlt : k < N.l.length
    · have HTT := Lib.hid (HT.out k hlt wr hB)
      have HYE := Lib.hid (fun e => selU_yes (p := spB N) (k := k) e)
      have HNO := Lib.hid (fun e => selU_no (p := spB N) (k := k) e)
      have hsl := selU_len (spB N) k
      have HO := Lib.hid hO; have HB := Lib.hid hB
      have hsz2 := hB.size
      have HO2 := HO
      clear hO hB HT
      generalize spB N k = q at *
      go_wp2_with (fail)
      refine HTT.out.mono ?_
      rintro e w3 ⟨rfl, bel3⟩
      have B3 := Lib.hid (HB.out.trans (bel3.mono hsz2))
      have O3 := Lib.hid (own_below HO.out bel3 (Nat.le_refl _))
      have hs3 := B3.out.size
      clear bel3 y0 y1 y2 HTT HO2
      cases q with
      | false =>
        have HS := Lib.hid (HNO.out rfl)
        have O4 := O3.out
        rw [← HS.out] at O4
        have O5 := Lib.hid O4
        clear O4
        go_wp2
        go_roundw
        case rel => exact ⟨k + 1, by omega, by go_num, O5.out, B3.out⟩
        case measure => simp [intOf]; omega
      | true =>
        have HS := Lib.hid (HYE.out rfl)
        have HLN : Hid ((selU (spB N) (k + 1)).length = (selU (spB N) k).length + 1) := Lib.hid (by rw [HS.out]; simp)
        go_wp2_with (at_builtin; refine wpList_append_own _ rfl _ _ 24 rfl w1.heap.size 2 i0 (.int .i64 0) 1 8 Tryd.underlying24 HI.out HZ0.out HZ1.out HZ2.out rfl (by decide) _ _ _ rfl (O3.out.alloc _) ⟨w3.heap.size, 0, none⟩ 1 1 [.int .i64 k] rfl rfl ?c1 ?c2 ?c3 ?c4 ?c5 ?_)
        case c1 => exact cell_one_new _ _ _
        case c2 => intro u hu; simp at hu; subst hu; rfl
        case c3 => unfold maxLen; omega
        case c4 => omega
        case c5 => simp; omega
        intro v' w4 hown' hgrow _
        have hb2 := Lib.hid ((B3.out.alloc hs3 (.cells #[.int .i64 k] 2)).grown hgrow (by simp; omega) (fun q hq => (O3.out.lt q hq).1))
        have hown2 : w4.ownsRow w1.heap.size 2 1 v' (selU (spB N) (k + 1)).length ((selU (spB N) (k + 1)).map (Value.int .i64)) := by
          rw [HLN.out, HS.out, List.map_append]; exact hown'
        have hown1 := Lib.hid hown2
        clear hown' hgrow hown2
        go_wp2
        go_roundw
        case rel => exact ⟨k + 1, by omega, by go_num, hown1.out, hb2.out⟩
        case measure => simp [intOf]; omega
    · have hkl : k = N.l.length := by omega
      subst hkl
      obtain ⟨A5, c5, rfl⟩ := own_shape hO
      have HG : Hid (Gives w (spL N) (.returned (.slice A5 (selU (spB N) N.l.length).length c5)) wr) := Lib.hid (by
        rw [HVV.out]
        exact ⟨A5, c5, rfl, hO.mono HB0.out.size, HB0.out.trans (hB.mono HB0.out.size)⟩)
      clear hO hB
      generalize (selU (spB N) N.l.length).length = q at *
      go_wp2
      go_ret
      exact HG.out
set_option maxRecDepth 100000 in
set_option maxHeartbeats 800000 in
theorem sSplittingLinks_any (h : NH) (N : Nt) (w : World) (r : RdN w w.heap.size h N) (hn : N.w.length ≤ 1048576) (hl : N.l.length ≤ 1048576) (hc : N.c.length ≤ 1048576) :
    Calls Tryd.prog 18 #[.agg #[.slice h.A N.w.length h.c, .slice h.L N.l.length h.d, .slice h.C N.c.length h.e]] w (Gives w (spV N)) := by
  obtain ⟨w0, hw0⟩ : ∃ w0, w0 = w.alloc (.cells #[.slice h.A N.w.length h.c, .slice h.L N.l.length h.d, .slice h.C N.c.length h.e] 31) := ⟨_, rfl⟩
  obtain ⟨hb, hh, hsz⟩ := box3_any w (.slice h.A N.w.length h.c) (.slice h.L N.l.length h.d) (.slice h.C N.c.length h.e) 31
  rw [← hw0] at hb hh hsz
  have HK := Lib.hid (fun (wx : World) (hw : Below w0.heap.size w0 wx) => three_cells ((hw.block w.heap.size (by omega)).trans hh))
  have HR := Lib.hid (fun (wx : World) (hw : Below w0.heap.size w0 wx) => show RdN wx wx.heap.size h N from (r.below (hb.trans (hw.mono hb.size))).more (Nat.le_trans hb.size hw.size))
  have HB0 := Lib.hid hb
  have HV := Lib.hid (sValidNet_any h N w0 ((r.below hb).more hb.size) hn hl hc)
  obtain ⟨y0, y1, y2⟩ := three_cells hh
  clear hb hh hsz r hn hl hc
  cases hv : valN N with
  | false =>
    rw [hv] at HV
    have HVV : Hid (spV N = []) := Lib.hid (if_neg (by rw [hv]; decide))
    clear hv
    go_enter Tryd.func18, Tryd.ntmps18
    go_upto_region 1 with (fail)
    rw [← hw0]
    clear hw0
    go_wp2_with (fail)
    refine HV.out.mono ?_
    rintro e w2 ⟨rfl, bel2⟩
    have B2 := Lib.hid (HB0.out.trans (bel2.mono HB0.out.size))
    have HG : Hid (Gives w (spV N) (.returned (.slice (some ⟨w2.heap.size, 0, none⟩) 0 0)) (w2.alloc (.cells #[] 2))) := Lib.hid (by
      rw [HVV.out]
      exact ⟨_, 0, rfl, (World.ownsRow_made w2 #[] 0 (Nat.le_refl _) (by simp [maxLen]) rfl).mono B2.out.size, B2.out.alloc B2.out.size _⟩)
    clear bel2 y0 y1 y2
    go_wp2
    go_ret
    exact HG.out
  | true =>
    rw [hv] at HV
    have HVV : Hid (spV N = spL N) := Lib.hid (if_pos hv)
    have HAS := Lib.hid (fun (wx : World) (hx : Below w0.heap.size w0 wx) => sAllSplits_any h N wx hv (HR.out wx hx))
    clear hv
    go_enter Tryd.func18, Tryd.ntmps18
    go_upto_region 1 with (fail)
    rw [← hw0]
    clear hw0
    go_wp2_with (fail)
    refine HV.out.mono ?_
    rintro e w2 ⟨rfl, bel2⟩
    have B2 := Lib.hid bel2
    clear bel2 y0 y1 y2
    obtain ⟨y0, y1, y2⟩ := HK.out w2 B2.out
    go_wp2_with (fail)
    refine (HAS.out w2 B2.out).mono ?_
    rintro e w3 ⟨A3, c3, rfl, own3, bel3⟩
    have HG : Hid (Gives w (spV N) (.returned (.slice A3 (spL N).length c3)) w3) := Lib.hid (by
      rw [HVV.out]
      exact ⟨A3, c3, rfl, own3.mono (Nat.le_trans HB0.out.size B2.out.size), HB0.out.trans ((B2.out.trans (bel3.mono B2.out.size)).mono HB0.out.size)⟩)
    clear own3 bel3 y0 y1 y2
    generalize (spL N).length = q at *
    go_wp2
    go_ret
    exact HG.out
set_option maxRecDepth 100000 in
set_option maxHeartbeats 1500000 in
theorem sLast_any (h : NH) (N : Nt) (w : World) (hv : valN N = true) (r : RdN w w.heap.size h N) :
    Calls Tryd.prog 46 #[.agg #[.slice h.A N.w.length h.c, .slice h.L N.l.length h.d, .slice h.C N.c.length h.e]] w fun e w' => e = .returned (.int .i64 (lsV N)) ∧ Below w.heap.size w w' := by
  obtain ⟨h48, h48l⟩ := valN_size hv
  obtain ⟨w0, hw0⟩ : ∃ w0, w0 = w.alloc (.cells #[.slice h.A N.w.length h.c, .slice h.L N.l.length h.d, .slice h.C N.c.length h.e] 31) := ⟨_, rfl⟩
  obtain ⟨hb, hh, hsz⟩ := box3_any w (.slice h.A N.w.length h.c) (.slice h.L N.l.length h.d) (.slice h.C N.c.length h.e) 31
  rw [← hw0] at hb hh hsz
  have HK := Lib.hid (fun (wx : World) (hw : Below w0.heap.size w0 wx) => three_cells ((hw.block w.heap.size (by omega)).trans hh))
  have HR := Lib.hid (fun (wx : World) (hw : Below w0.heap.size w0 wx) => show RdN wx wx.heap.size h N from (r.below (hb.trans (hw.mono hb.size))).more (Nat.le_trans hb.size hw.size))
  have HB0 := Lib.hid hb
  have HT := Lib.hid (fun (k : Nat) (hk : k < N.l.length) (wx : World) (hx : Below w0.heap.size w0 wx) => sTerminal_any h N k wx hv (HR.out wx hx) hk)
  have HAS := Lib.hid (fun (wx : World) (hx : Below w0.heap.size w0 wx) => sAllSplits_any h N wx hv (HR.out wx hx))
  have HF1 := Lib.hid (fun (k : Nat) (hk : k < N.l.length) e1 e2 => lsV_first hv hk e1 e2)
  have HF2 := Lib.hid (fun e1 e2 => lsV_second hv e1 e2)
  have HF3 := Lib.hid (fun e1 e2 => lsV_third hv e1 e2)
  clear hb hh hsz r hv
  go_enter Tryd.func46, Tryd.ntmps46
  go_upto_region 1 with (fail)
  rw [← hw0]
  clear hw0
  go_wp2
  go_loopw [3] (fun i wx => ∃ k : Nat, k ≤ N.l.length ∧ i = .int .i64 k ∧ (∀ j, j < k → tpB N j = false) ∧ Below w0.heap.size w0 wx) (fun i _ => N.l.length - (intOf i).toNat)
  case atStart => exact ⟨0, Nat.zero_le _, rfl, fun j hj => absurd hj (by omega), Below.refl _ _⟩
  case round =>
    obtain ⟨k, hk, rfl, hall, hB⟩ := hrel
    obtain ⟨y0, y1, y2⟩ := HK.out wr hB
    have HB := Lib.hid hB
    by_cases hlt : k < N.l.length
    · obtain ⟨b, off, hLe, hbb, hcells⟩ := (HR.out wr hB).2.1.at (by omega)
      have l0 := (hcells k hlt).1
      have HTT := Lib.hid (HT.out k hlt wr hB)
      have HTD : Hid (tpB N k = (decide ((N.l.getD k Lk.nil).k = 4) && tmB N k)) := Lib.hid rfl
      have HFK := Lib.hid (HF1.out k hlt hall)
      have HAL := Lib.hid hall
      have HST : Hid (tpB N k = false → ∀ j, j < k + 1 → tpB N j = false) := Lib.hid fun e j hj => by
        by_cases e2 : j < k
        · exact HAL.out j e2
        · obtain rfl : j = k := by omega
          exact e
      rw [hLe] at y1 HTT
      clear hcells hall hB hLe
      generalize (N.l.getD k Lk.nil).k = kd at *
      generalize tmB N k = q at *
      by_cases h4 : kd = 4
      · subst h4
        go_wp2_with (fail)
        refine HTT.out.mono ?_
        rintro e w1 ⟨rfl, bel1⟩
        have B1 := Lib.hid (HB.out.trans (bel1.mono HB.out.size))
        clear bel1 y0 y1 y2 l0
        cases q with
        | true =>
          have HE : Hid ((k : Int) = lsV N) := Lib.hid (HFK.out (by rw [HTD.out]; rfl)).symm
          have HBW := Lib.hid (HB0.out.trans (B1.out.mono HB0.out.size))
          go_wp2
          go_ret
          exact ⟨ret_i64 HE.out, HBW.out⟩
        | false =>
          have HS2 := Lib.hid (HST.out (by rw [HTD.out]; rfl))
          go_wp2
          go_roundw
          case rel => exact ⟨k + 1, by omega, by go_num, HS2.out, B1.out⟩
          case measure => simp [intOf]; omega
      · have d1 : (kd == 4) = false := by simpa using h4
        have HS2 := Lib.hid (HST.out (by rw [HTD.out, decide_eq_false h4]; rfl))
        clear h4
        go_wp2
        go_roundw
        case rel => exact ⟨k + 1, by omega, by go_num, HS2.out, HB.out⟩
        case measure => simp [intOf]; omega
    · have hkl : k = N.l.length := by omega
      subst hkl
      have HG2 := Lib.hid (HF2.out hall)
      have HG3 := Lib.hid (HF3.out hall)
      clear hall hB HF1 HF2 HF3
      go_wp2_with (fail)
      refine (HAS.out wr HB.out).mono ?_
      rintro e w3 ⟨A3, c3, rfl, own3, bel3⟩
      have B3 := Lib.hid (HB.out.trans (bel3.mono HB.out.size))
      have HBW := Lib.hid (HB0.out.trans (B3.out.mono HB0.out.size))
      have R3 := Lib.hid (RdI.of_own own3)
      clear own3 bel3 y0 y1 y2 HT HAS
      obtain ⟨y0, y1, y2⟩ := HK.out w3 B3.out
      by_cases hs : 0 < (spL N).length
      · obtain ⟨b, off, rfl, hbb, hcc⟩ := R3.out.2 hs
        have x0 := hcc 0 hs
        have HE : Hid ((spL N).getD 0 0 = lsV N) := Lib.hid (HG2.out hs).symm
        have hd : decide (0 < ((spL N).length : Int)) = true := decide_eq_true (by omega)
        have hd2 : decide (0 < (spL N).length) = true := decide_eq_true hs
        rw [Nat.add_zero] at x0
        clear hcc HG2 HG3
        generalize (spL N).getD 0 0 = z at *
        generalize (spL N).length = q at *
        go_wp2
        go_ret
        exact ⟨ret_i64 HE.out, HBW.out⟩
      · have hs0 : (spL N).length = 0 := by omega
        have HE := Lib.hid (HG3.out hs0)
        have hd : decide (0 < ((spL N).length : Int)) = false := decide_eq_false (by omega)
        have hd2 : decide (0 < (spL N).length) = false := decide_eq_false hs
        clear HG2 HG3 hs0
        generalize (spL N).length = q at *
        by_cases h1 : N.l.length = 1
        · have d1 : ((N.l.length : Int) == 1) = true := by simp [h1]
          obtain ⟨b, off, hLe, hbb, hcells⟩ := (HR.out w3 B3.out).2.1.at (by omega)
          have l0 := (hcells 0 (by omega)).1
          rw [Nat.zero_mul, Nat.add_zero] at l0
          have hpos : (0 : Int) < (N.l.length : Int) := by omega
          have hpos2 : 0 < N.l.length := by omega
          rw [hLe] at y1
          clear hcells hLe
          generalize (N.l.getD 0 Lk.nil).k = kd at *
          by_cases hk1 : kd = 1
          · have d2 : (kd == 1) = true := by simpa using hk1
            have HE2 : Hid ((0 : Int) = lsV N) := Lib.hid (by rw [HE.out, if_pos ⟨h1, hk1⟩])
            clear hk1 h1
            go_wp2
            go_ret
            exact ⟨ret_i64 HE2.out, HBW.out⟩
          · have d2 : (kd == 1) = false := by simpa using hk1
            have HE2 : Hid ((-1 : Int) = lsV N) := Lib.hid (by rw [HE.out, if_neg (fun e => hk1 e.2)])
            clear hk1 h1
            go_wp2
            go_ret
            exact ⟨ret_i64 HE2.out, HBW.out⟩
        · have d1 : ((N.l.length : Int) == 1) = false := by simp; omega
          have HE2 : Hid ((-1 : Int) = lsV N) := Lib.hid (by rw [HE.out, if_neg (fun e => h1 e.1)])
          clear h1
          go_wp2
          go_ret
          exact ⟨ret_i64 HE2.out, HBW.out⟩
set_option maxRecDepth 100000 in
set_option maxHeartbeats 800000 in
theorem sLastLink_any (h : NH) (N : Nt) (w : World) (r : RdN w w.heap.size h N) (hn : N.w.length ≤ 1048576) (hl : N.l.length ≤ 1048576) (hc : N.c.length ≤ 1048576) :
    Calls Tryd.prog 20 #[.agg #[.slice h.A N.w.length h.c, .slice h.L N.l.length h.d, .slice h.C N.c.length h.e]] w fun e w' => e = .returned (.int .i64 (lsV N)) ∧ Below w.heap.size w w' := by
  obtain ⟨w0, hw0⟩ : ∃ w0, w0 = w.alloc (.cells #[.slice h.A N.w.length h.c, .slice h.L N.l.length h.d, .slice h.C N.c.length h.e] 31) := ⟨_, rfl⟩
  obtain ⟨hb, hh, hsz⟩ := box3_any w (.slice h.A N.w.length h.c) (.slice h.L N.l.length h.d) (.slice h.C N.c.length h.e) 31
  rw [← hw0] at hb hh hsz
  have HK := Lib.hid (fun (wx : World) (hw : Below w0.heap.size w0 wx) => three_cells ((hw.block w.heap.size (by omega)).trans hh))
  have HR := Lib.hid (fun (wx : World) (hw : Below w0.heap.size w0 wx) => show RdN wx wx.heap.size h N from (r.below (hb.trans (hw.mono hb.size))).more (Nat.le_trans hb.size hw.size))
  have HB0 := Lib.hid hb
  have HV := Lib.hid (sValidNet_any h N w0 ((r.below hb).more hb.size) hn hl hc)
  obtain ⟨y0, y1, y2⟩ := three_cells hh
  clear hb hh hsz r hn hl hc
  cases hv : valN N with
  | false =>
    rw [hv] at HV
    have HE : Hid ((-1 : Int) = lsV N) := Lib.hid (lsV_neg hv).symm
    clear hv
    go_enter Tryd.func20, Tryd.ntmps20
    go_upto_region 1 with (fail)
    rw [← hw0]
    clear hw0
    go_wp2_with (fail)
    refine HV.out.mono ?_
    rintro e w2 ⟨rfl, bel2⟩
    have B2 := Lib.hid (HB0.out.trans (bel2.mono HB0.out.size))
    clear bel2 y0 y1 y2
    go_wp2
    go_ret
    exact ⟨ret_i64 HE.out, B2.out⟩
  | true =>
    rw [hv] at HV
    have HAS := Lib.hid (fun (wx : World) (hx : Below w0.heap.size w0 wx) => sLast_any h N wx hv (HR.out wx hx))
    clear hv
    go_enter Tryd.func20, Tryd.ntmps20
    go_upto_region 1 with (fail)
    rw [← hw0]
    clear hw0
    go_wp2_with (fail)
    refine HV.out.mono ?_
    rintro e w2 ⟨rfl, bel2⟩
    have B2 := Lib.hid bel2
    clear bel2 y0 y1 y2
    obtain ⟨y0, y1, y2⟩ := HK.out w2 B2.out
    go_wp2_with (fail)
    refine (HAS.out w2 B2.out).mono ?_
    rintro e w3 ⟨rfl, bel3⟩
    have B3 := Lib.hid (HB0.out.trans ((B2.out.trans (bel3.mono B2.out.size)).mono HB0.out.size))
    clear bel3 y0 y1 y2
    go_wp2
    go_ret
    exact ⟨rfl, B3.out⟩
end Go.Proofs.YtgpocnapkflihaaDoor
