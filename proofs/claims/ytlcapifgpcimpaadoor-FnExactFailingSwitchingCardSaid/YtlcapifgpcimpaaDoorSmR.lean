/- The model: the parts of a graph. -/
import Derived.Test.YtlcapifgpcimpaaDoorSmW
import Derived.Test.YtlcapifgpcimpaaDoorSwF
import Derived.Deep.RegionHeldLaw
import Derived.Deep.DeepCutAuto
import Derived.BigQuiet
namespace Go.Proofs.YtlcapifgpcimpaaDoor
set_option linter.unusedSimpArgs false
set_option linter.unusedVariables false
open Go.ChangeAt Go.ChangeShapes Go.RowKit Go.WideShapes


theorem own_shape1r {w : World} {base n : Nat} {e : TypeId} {v : Value} {xs : List Value} (h : w.ownsRow base e 1 v n xs) : ∃ A c, v = .slice A n c := by
  rcases h.2 with ⟨rfl, rfl⟩ | ⟨g, cap, cur, rfl, _, _, hn, _⟩
  · exact ⟨_, _, rfl⟩
  · exact ⟨_, _, rfl⟩
theorem parts0_succ (k : Nat) : parts0 (k + 1) = parts0 k ++ [(k : Int)] := by simp [parts0, List.range_succ]
set_option maxRecDepth 100000 in
set_option maxHeartbeats 1000000 in
theorem sRoots_any (n : Nat) (ar : List Ac) (B : Option Addr) (d : Nat) (w : World) (hn : n ≤ 1048576) (hl : ar.length ≤ 1048576) (hin : ArcsIn n ar) (r : RdA w w.heap.size B ar.length ar) :
    Calls Tryd.prog 75 #[.int .i64 n, .slice B ar.length d] w (GivesB w (runR n ar ar.length).1 (runR n ar ar.length).2) := by
  obtain ⟨i0, hi0, hz0, hz1, hz2⟩ := info_parts info_i64
  have HI := Lib.hid hi0; have HZ0 := Lib.hid hz0; have HZ1 := Lib.hid hz1; have HZ2 := Lib.hid hz2
  have HR := Lib.hid (fun (wx : World) (hx : Below w.heap.size w wx) => show RdA wx wx.heap.size B ar.length ar from (r.below hx).more hx.size)
  have HIN := Lib.hid (fun k (hk : k < ar.length) => hin _ (getL_mem (d := Ac.nil) hk))
  have HSU := Lib.hid (fun k (h : k < ar.length) => runR_succ (n := n) (ar := ar) (k := k) h)
  have HLR := Lib.hid (fun k (h : k ≤ ar.length) => runR_len n ar k h)
  have h0 : (w.alloc (.cells #[] 2)).ownsRow w.heap.size 2 1 (.slice (some ⟨w.heap.size, 0, none⟩) 0 0) 0 ((parts0 0).map (Value.int .i64)) := World.ownsRow_made w #[] 0 (Nat.le_refl _) (by simp [maxLen]) rfl
  have hb1 : Below w.heap.size w (w.alloc (.cells #[] 2)) := (Below.refl _ _).alloc (Nat.le_refl _) _
  have H0 := Lib.hid h0; have HB1 := Lib.hid hb1
  clear r hin hi0 hz0 hz1 hz2 h0 hb1
  go_enter Tryd.func75, Tryd.ntmps75
  go_wp2
  go_loopw [6, 7] (fun v i wx => ∃ k : Nat, k ≤ n ∧ i = .int .i64 k ∧ wx.ownsRow w.heap.size 2 1 v k ((parts0 k).map (Value.int .i64)) ∧ Below w.heap.size w wx) (fun _ i _ => n - (intOf i).toNat)
  case atStart => exact ⟨0, Nat.zero_le _, rfl, H0.out, HB1.out⟩
  case round =>
    obtain ⟨k, hk, rfl, hO, hB⟩ := hrel
    clear H0 HB1
    by_cases hlt : k < n
    · have HO := Lib.hid hO; have HB := Lib.hid hB
      have hsz1 := hB.size
      have HS := Lib.hid (parts0_succ k)
      clear hO hB
      go_wp2_with (at_builtin; refine wpList_append_own _ rfl _ _ 24 rfl w.heap.size 2 i0 (.int .i64 0) 1 8 Tryd.underlying24 HI.out HZ0.out HZ1.out HZ2.out rfl (by decide) _ _ _ rfl (HO.out.alloc _) ⟨wr.heap.size, 0, none⟩ 1 1 [.int .i64 k] rfl rfl ?c1 ?c2 ?c3 ?c4 ?c5 ?_)
      case c1 => exact cell_one_new _ _ _
      case c2 => intro u hu; simp at hu; subst hu; rfl
      case c3 => unfold maxLen; omega
      case c4 => omega
      case c5 => simp; omega
      intro v' w2 hown' hgrow _
      have hb2 := Lib.hid ((HB.out.alloc hsz1 (.cells #[.int .i64 k] 2)).grown hgrow (by simp; omega) (fun q hq => (HO.out.lt q hq).1))
      have hown2 : w2.ownsRow w.heap.size 2 1 v' (k + 1) ((parts0 (k + 1)).map (Value.int .i64)) := by
        rw [HS.out, List.map_append]; exact hown'
      have hown1 := Lib.hid hown2
      clear hown' hgrow hown2 hsz1
      go_wp2
      go_roundw
      case rel => exact ⟨k + 1, by omega, by go_num, hown1.out, hb2.out⟩
      case measure => simp [intOf]; omega
    · have hkn : k = n := by omega
      subst hkn
      obtain ⟨A, c, rfl⟩ := own_shape1r hO
      have O1 := Lib.hid hO; have B1 := Lib.hid hB
      clear hO hB HI HZ0 HZ1 HZ2
      go_wp2
      go_loopw [8, 9] (fun b i wx => ∃ q : Nat, q ≤ ar.length ∧ i = .int .i64 q ∧ b = .bool (runR k ar q).2 ∧ wx.ownsRow w.heap.size 2 1 (.slice A k c) k ((runR k ar q).1.map (Value.int .i64)) ∧ Below w.heap.size w wx) (fun _ i _ => ar.length - (intOf i).toNat)
      case atStart => exact ⟨0, Nat.zero_le _, rfl, rfl, O1.out, B1.out⟩
      case round =>
        obtain ⟨q, hq, rfl, rfl, hO, hB⟩ := hrel
        clear O1 B1
        by_cases hlt : q < ar.length
        · obtain ⟨b, off, hBe, hbb, hcells⟩ := (HR.out _ hB).at (by omega)
          subst hBe
          obtain ⟨x0, x1, x2⟩ := hcells q hlt
          obtain ⟨hf, ht⟩ := HIN.out q hlt
          have HSK := Lib.hid (HSU.out q hlt)
          obtain ⟨⟨aw, af, a3⟩, hl'⟩ : ∃ a, ar.getD q Ac.nil = a := ⟨_, rfl⟩
          rw [hl'] at x0 x1 x2 hf ht HSK
          dsimp only at x0 x1 x2 hf ht
          obtain ⟨_, hf2, ef⟩ := inW_yes hf
          obtain ⟨_, ht2, et⟩ := inW_yes ht
          obtain ⟨g, cap, hv, hbg, hgl⟩ := hO.form (by omega)
          have hA : A = some ⟨g, 0, none⟩ ∧ c = cap := by injection hv with a b c'; exact ⟨a, c'⟩
          obtain ⟨rfl, rfl⟩ := hA
          have hPl := HLR.out q hq
          have HST : Hid (runR k ar (q + 1) = (renP (runR k ar q).1 (min ((runR k ar q).1.getD af.toNat 0) ((runR k ar q).1.getD a3.toNat 0)) (max ((runR k ar q).1.getD af.toNat 0) ((runR k ar q).1.getD a3.toNat 0)), (runR k ar q).2 || decide ((runR k ar q).1.getD af.toNat 0 = (runR k ar q).1.getD a3.toNat 0))) := Lib.hid (by rw [HSK.out]; rfl)
          obtain ⟨⟨P, cy⟩, hrun⟩ : ∃ p, runR k ar q = p := ⟨_, rfl⟩
          rw [hrun] at hPl hO HST
          rw [hrun]
          dsimp only at hPl hO HST ⊢
          generalize hfn : af.toNat = fn at *
          generalize htn : a3.toNat = tn at *
          subst ef; subst et
          have p1 := own_int_at hO hf2
          have p2 := own_int_at hO ht2
          have HO2 := Lib.hid hO; have HB2 := Lib.hid hB
          have hfi : (fn : Int) < (k : Int) := by omega
          have hti : (tn : Int) < (k : Int) := by omega
          have hqa : (q : Int) < (ar.length : Int) := by omega
          have HSX := Lib.hid HST.out
          clear hcells hf ht hO hB hv HSK hl' hrun hfn htn HST
          generalize hx : P.getD fn 0 = x at *
          generalize hy : P.getD tn 0 = y at *
          have HDB : Hid (decide (x = y) = (x == y)) := Lib.hid rfl
          rw [HDB.out] at HSX
          clear hx hy
          go_upto_region 10 with (fail)
          go_quiet (fail)
          have hbq := below_drewN (Below.refl wr.heap.size wr) nq
          have HO3 : Hid ((wr.drewN nq).ownsRow w.heap.size 2 1 (.slice (some ⟨g, 0, none⟩) k c) k (P.map (Value.int .i64))) := Lib.hid (own_same HO2.out fun q e => hbq.block q (HO2.out.lt q e).2)
          have HB3 := Lib.hid (below_drewN HB2.out nq)
          clear hbq p1 p2 x0 x1 x2 HO2 HB2
          cases cy with
          | true =>
            go_wp2
            generalize wr.drewN nq = w2 at *
            go_loopw [12] (fun i wx => ∃ (j : Nat) (Q : List Int), j ≤ k ∧ i = .int .i64 j ∧ RenQ P (min x y) (max x y) j Q ∧ wx.ownsRow w.heap.size 2 1 (.slice (some ⟨g, 0, none⟩) k c) k (Q.map (Value.int .i64)) ∧ Below w.heap.size w wx) (fun i _ => k - (intOf i).toNat)
            case atStart => exact ⟨0, P, Nat.zero_le _, rfl, RenQ.zero P _ _, HO3.out, HB3.out⟩
            case round =>
              obtain ⟨j, Q, hj, rfl, hQ, hOq, hBq⟩ := hrel
              clear HO3 HB3
              by_cases hjn : j < k
              · have c0 := own_int_at hOq hjn
                have f0 := hOq.frozenAt (g := g) j
                have HH := Lib.hid (fun e => hQ.hit (by omega) e)
                have HM := Lib.hid (fun e => hQ.miss (by omega) e)
                have HOS := Lib.hid (by have q := (hOq.stored j (.int .i64 (min x y))).1; rw [← List.map_set] at q; exact q)
                have HBS := Lib.hid (hBq.setCell (p := ⟨g, j, none⟩) hbg (.int .i64 (min x y)))
                have HOQ := Lib.hid hOq; have HBQ := Lib.hid hBq
                generalize Q.getD j 0 = z at *
                clear hQ hOq hBq
                by_cases hz : z = max x y
                · have hd2 : (z == max x y) = true := by simp [hz]
                  have HQ2 := Lib.hid (HH.out hz)
                  clear hz
                  go_wp2
                  go_roundw
                  case rel => exact ⟨j + 1, _, by omega, by go_num, HQ2.out, HOS.out, HBS.out⟩
                  case measure => simp [intOf]; omega
                · have hd2 : (z == max x y) = false := by simp [hz]
                  have HQ2 := Lib.hid (HM.out hz)
                  clear hz
                  go_wp2
                  go_roundw
                  case rel => exact ⟨j + 1, _, by omega, by go_num, HQ2.out, HOQ.out, HBQ.out⟩
                  case measure => simp [intOf]; omega
              · have hjl : j = P.length := by omega
                have hQ2 : RenQ P (min x y) (max x y) P.length Q := by rw [← hjl]; exact hQ
                have hQd := RenQ.done hQ2
                subst hQd
                have HOQ : Hid (wr.ownsRow w.heap.size 2 1 (.slice (some ⟨g, 0, none⟩) k c) k ((runR k ar (q + 1)).1.map (Value.int .i64))) := Lib.hid (by rw [HSX.out]; exact hOq)
                have HBQ := Lib.hid hBq
                have HCB : Hid (true = (runR k ar (q + 1)).2) := Lib.hid (by rw [HSX.out]; first | rfl | simp)
                clear hQ hQ2 hOq hBq hjl
                go_wp2
                go_roundw
                case rel => exact ⟨q + 1, by omega, by go_num, by rw [← HCB.out], HOQ.out, HBQ.out⟩
                case measure => simp [intOf]; omega
          | false =>
            go_wp2
            generalize wr.drewN nq = w2 at *
            go_loopw [12] (fun i wx => ∃ (j : Nat) (Q : List Int), j ≤ k ∧ i = .int .i64 j ∧ RenQ P (min x y) (max x y) j Q ∧ wx.ownsRow w.heap.size 2 1 (.slice (some ⟨g, 0, none⟩) k c) k (Q.map (Value.int .i64)) ∧ Below w.heap.size w wx) (fun i _ => k - (intOf i).toNat)
            case atStart => exact ⟨0, P, Nat.zero_le _, rfl, RenQ.zero P _ _, HO3.out, HB3.out⟩
            case round =>
              obtain ⟨j, Q, hj, rfl, hQ, hOq, hBq⟩ := hrel
              clear HO3 HB3
              by_cases hjn : j < k
              · have c0 := own_int_at hOq hjn
                have f0 := hOq.frozenAt (g := g) j
                have HH := Lib.hid (fun e => hQ.hit (by omega) e)
                have HM := Lib.hid (fun e => hQ.miss (by omega) e)
                have HOS := Lib.hid (by have q := (hOq.stored j (.int .i64 (min x y))).1; rw [← List.map_set] at q; exact q)
                have HBS := Lib.hid (hBq.setCell (p := ⟨g, j, none⟩) hbg (.int .i64 (min x y)))
                have HOQ := Lib.hid hOq; have HBQ := Lib.hid hBq
                generalize Q.getD j 0 = z at *
                clear hQ hOq hBq
                by_cases hz : z = max x y
                · have hd2 : (z == max x y) = true := by simp [hz]
                  have HQ2 := Lib.hid (HH.out hz)
                  clear hz
                  go_wp2
                  go_roundw
                  case rel => exact ⟨j + 1, _, by omega, by go_num, HQ2.out, HOS.out, HBS.out⟩
                  case measure => simp [intOf]; omega
                · have hd2 : (z == max x y) = false := by simp [hz]
                  have HQ2 := Lib.hid (HM.out hz)
                  clear hz
                  go_wp2
                  go_roundw
                  case rel => exact ⟨j + 1, _, by omega, by go_num, HQ2.out, HOQ.out, HBQ.out⟩
                  case measure => simp [intOf]; omega
              · have hjl : j = P.length := by omega
                have hQ2 : RenQ P (min x y) (max x y) P.length Q := by rw [← hjl]; exact hQ
                have hQd := RenQ.done hQ2
                subst hQd
                have HOQ : Hid (wr.ownsRow w.heap.size 2 1 (.slice (some ⟨g, 0, none⟩) k c) k ((runR k ar (q + 1)).1.map (Value.int .i64))) := Lib.hid (by rw [HSX.out]; exact hOq)
                have HBQ := Lib.hid hBq
                have HCB : Hid ((x == y) = (runR k ar (q + 1)).2) := Lib.hid (by rw [HSX.out]; first | rfl | simp)
                clear hQ hQ2 hOq hBq hjl
                go_wp2
                go_roundw
                case rel => exact ⟨q + 1, by omega, by go_num, by rw [← HCB.out], HOQ.out, HBQ.out⟩
                case measure => simp [intOf]; omega
        · have hqe : q = ar.length := by omega
          subst hqe
          have hPl := HLR.out ar.length (Nat.le_refl _)
          have HG : Hid (GivesB w (runR k ar ar.length).1 (runR k ar ar.length).2 (.returned (.tuple #[.slice A k c, .bool (runR k ar ar.length).2])) wr) := Lib.hid (by
            refine ⟨A, c, by rw [hPl], ?_, hB⟩
            rw [hPl]; exact hO)
          clear hO hB hPl
          go_wp2
          go_ret2
          exact HG.out
end Go.Proofs.YtlcapifgpcimpaaDoor
