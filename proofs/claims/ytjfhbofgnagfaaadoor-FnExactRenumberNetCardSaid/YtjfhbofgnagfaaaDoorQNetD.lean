/- The laws' helpers at nets: marks. A net that came in, opened. Laws over nets: sizes, marks. FragmentOf: of the program and of the model. -/
import Derived.Test.YtjfhbofgnagfaaaDoorQNetB
import Derived.Test.YtjfhbofgnagfaaaDoorQSeqV
import Derived.Deep.Slices
import Derived.Test.YtjfhbofgnagfaaaDoorQDual
namespace Go.Proofs.YtjfhbofgnagfaaaDoor
set_option linter.unusedSimpArgs false
set_option linter.unusedVariables false
section
open Go.ChangeAt Go.ChangeShapes Go.RowKit Go.WideShapes

theorem mkL_at : ∀ (k : Int) (n j : Nat), j < n → (mkL k n).getD j Lk.nil = ⟨k + (j * 4 : Nat), k + (j * 4 : Nat) + 1, k + (j * 4 : Nat) + 1 + 1, k + (j * 4 : Nat) + 1 + 1 + 1⟩
  | _, 0, _, h => absurd h (by omega)
  | k, n + 1, 0, _ => by
    show (⟨k, k + 1, k + 2, k + 3⟩ : Lk) = _
    rw [show k + ((0 * 4 : Nat) : Int) = k by simp, show k + 1 + 1 = k + 2 by omega, show k + 2 + 1 = k + 3 by omega]
  | k, n + 1, j + 1, h => by
    have ih := mkL_at (k + 4) n j (by omega)
    have e : (mkL k (n + 1)).getD (j + 1) Lk.nil = (mkL (k + 4) n).getD j Lk.nil := rfl
    rw [e, ih, show k + 4 + ((j * 4 : Nat) : Int) = k + (((j + 1) * 4 : Nat) : Int) by omega]
set_option maxHeartbeats 2000000 in
theorem markLS_any (A : Option Addr) (n c : Nat) (ls : List Lk) (k : Int) (w : World) (base : Nat) (h : w.ownsRow base 75 4 (.slice A n c) n ((flL ls).map (Value.int .i64))) (hn : n ≤ 1048576) (hk0 : 0 ≤ k) (hk1 : k ≤ 1073741824) :
    Calls Tryd.prog 87 #[.slice A n c, .int .i64 k] w fun e w' => e = .returned (.int .i64 (k + (n * 4 : Nat))) ∧ w'.ownsRow base 75 4 (.slice A n c) n ((flL (mkL k n)).map (Value.int .i64)) ∧ w.grownBy w' (Value.slice A n c).ownBlock := by
  have hl : ls.length = n := by have := h.1; rw [List.length_map, flL_len] at this; omega
  have hml := mkL_len k n
  have H0 := Lib.hid h
  have HU0 : Hid (Upto4 ((flL ls).map (Value.int .i64)) (mkL k n) 0) := Lib.hid ⟨by rw [List.length_map, flL_len, hml, hl], fun j hj => absurd hj (by omega)⟩
  have HML := Lib.hid hml
  clear h hml hl
  go_enter Tryd.func87, Tryd.ntmps87
  go_wp2
  go_loopw [1, 5] (fun v i wr => ∃ (j : Nat) (xs : List Value), j ≤ n ∧ i = .int .i64 j ∧ v = .int .i64 (k + (j * 4 : Nat)) ∧ Upto4 xs (mkL k n) j ∧ wr.ownsRow base 75 4 (.slice A n c) n xs ∧ w.grownBy wr (Value.slice A n c).ownBlock)
    (fun _ i _ => n - (intOf i).toNat)
  case atStart => exact ⟨0, _, Nat.zero_le _, rfl, by simp, HU0.out, H0.out, World.grownBy.refl w _⟩
  case round =>
    obtain ⟨j, ys, hj, rfl, rfl, hU, hO, hG⟩ := hrel
    clear H0 HU0
    by_cases hlt : j < n
    · obtain ⟨g, cap, hv, hbg, hgl⟩ := hO.form (by omega)
      have hA : A = some ⟨g, 0, none⟩ ∧ c = cap := by injection hv with a b c'; exact ⟨a, c'⟩
      obtain ⟨rfl, rfl⟩ := hA
      have hs := hU.step (k := j) (by rw [HML.out]; exact hlt)
      rw [mkL_at k n j hlt] at hs
      have hyl : ys.length = n * 4 := by rw [hU.1, HML.out]
      obtain ⟨q, hq⟩ : ∃ q : Int, k + (j * 4 : Nat) = q := ⟨_, rfl⟩
      have HN : Hid (q + 1 + 1 + 1 + 1 = k + ((j + 1) * 4 : Nat)) := Lib.hid (by omega)
      have hq0 : 0 ≤ q := by omega
      have hq1 : q ≤ 1090000000 := by omega
      rw [hq] at hs ⊢
      dsimp only at hs
      clear hq
      have hi1 : (j : Int) < (n : Int) := by omega
      obtain ⟨q1, q2⟩ := four_own (o := j * 4) hO (.int .i64 q) (.int .i64 (q + 1)) (.int .i64 (q + 1 + 1)) (.int .i64 (q + 1 + 1 + 1))
      have HS := Lib.hid hs; have HQ1 := Lib.hid q1; have HG := Lib.hid (grownBy_trans hG q2)
      have cl := fun t (ht : t < 4) => hO.cellAt (g := g) (j * 4 + t) (by omega)
      have fr := fun t => hO.frozenAt (g := g) (j * 4 + t)
      obtain ⟨d0, e0⟩ : ∃ u, wr.cell? ⟨g, j * 4, none⟩ = some u := ⟨_, (cl 0 (by omega)).trans (List.getElem?_eq_getElem (show j * 4 + 0 < ys.length by omega))⟩
      obtain ⟨d1, e1⟩ : ∃ u, wr.cell? ⟨g, j * 4 + 1, none⟩ = some u := ⟨_, (cl 1 (by omega)).trans (List.getElem?_eq_getElem (show j * 4 + 1 < ys.length by omega))⟩
      obtain ⟨d2, e2⟩ : ∃ u, wr.cell? ⟨g, j * 4 + 2, none⟩ = some u := ⟨_, (cl 2 (by omega)).trans (List.getElem?_eq_getElem (show j * 4 + 2 < ys.length by omega))⟩
      obtain ⟨d3, e3⟩ : ∃ u, wr.cell? ⟨g, j * 4 + 3, none⟩ = some u := ⟨_, (cl 3 (by omega)).trans (List.getElem?_eq_getElem (show j * 4 + 3 < ys.length by omega))⟩
      have fr0 : wr.frozen? ⟨g, j * 4, none⟩ = false := fr 0
      have fr1 := fr 1; have fr2 := fr 2; have fr3 := fr 3
      clear cl fr hO hU hG hs q1 q2 hv hyl hbg hgl
      go_wp2
      go_roundw
      case rel => exact ⟨j + 1, _, by omega, by go_num, by rw [HN.out], HS.out, HQ1.out, HG.out⟩
      case measure => simp [intOf]; omega
    · have hkl : j = n := by omega
      subst hkl
      have hd := Upto4.done (ls := mkL k j) (by rw [HML.out]; exact hU)
      subst hd
      have HO := Lib.hid hO; have HG := Lib.hid hG
      clear hO hU hG
      go_wp2
      go_ret
      exact ⟨rfl, HO.out, HG.out⟩
set_option maxHeartbeats 2000000 in
theorem heldLS_any (A : Option Addr) (n c : Nat) (k : Int) (w : World) (h : RdL w w.heap.size A n (mkL k n)) (hn : n ≤ 1048576) (hk0 : 0 ≤ k) (hk1 : k ≤ 1073741824) :
    Calls Tryd.prog 96 #[.slice A n c, .int .i64 k] w fun e w' => e = .returned (.int .i64 (k + (n * 4 : Nat))) ∧ w = w' := by
  have H := Lib.hid h
  clear h
  go_enter Tryd.func96, Tryd.ntmps96
  go_wp2
  go_loop [1, 5] (fun v i => ∃ j : Nat, j ≤ n ∧ i = .int .i64 j ∧ v = .int .i64 (k + (j * 4 : Nat))) (fun _ i => n - (intOf i).toNat)
  case atStart => exact ⟨0, Nat.zero_le _, rfl, by simp⟩
  case round =>
    obtain ⟨j, hj, rfl, rfl⟩ := hrel
    by_cases hlt : j < n
    · obtain ⟨b, off, rfl, hbb, hcells⟩ := H.out.at (by omega)
      obtain ⟨x0, x1, x2, x3⟩ := hcells j hlt
      rw [mkL_at k n j hlt] at x0 x1 x2 x3
      obtain ⟨q, hq⟩ : ∃ q : Int, k + (j * 4 : Nat) = q := ⟨_, rfl⟩
      have HN : Hid (q + 1 + 1 + 1 + 1 = k + ((j + 1) * 4 : Nat)) := Lib.hid (by omega)
      have hq0 : 0 ≤ q := by omega
      have hq1 : q ≤ 1090000000 := by omega
      rw [hq] at x0 x1 x2 x3 ⊢
      dsimp only at x0 x1 x2 x3
      clear hq hcells
      have hi1 : (j : Int) < (n : Int) := by omega
      have z0 : (q != q) = false := by simp
      have z1 : (q + 1 != q + 1) = false := by simp
      have z2 : (q + 1 + 1 != q + 1 + 1) = false := by simp
      have z3 : (q + 1 + 1 + 1 != q + 1 + 1 + 1) = false := by simp
      go_wp2
      go_round
      case rel => exact ⟨j + 1, by omega, by go_num, by rw [HN.out]⟩
      case measure => simp [intOf]; omega
    · have hkl : j = n := by omega
      subst hkl
      go_wp2
      go_ret
      exact ⟨rfl, rfl⟩
theorem OwnQ.fine {w w' : World} {lo hi : Nat} {v : Value} {hs : Nat → Option Addr × Nat} {qs : List (List Int)} (h : OwnQ w lo hi v hs qs) (h0 : ∀ b, v.ownBlock = some b → w'.heap[b]? = w.heap[b]?) (h1 : ∀ i, i < qs.length → ∀ b, (hv hs qs i).ownBlock = some b → w'.heap[b]? = w.heap[b]?) : OwnQ w' lo hi v hs qs where
  outer := own_same h.outer h0
  inner i hi := own_same (h.inner i hi) (h1 i hi)
  apart := h.apart
  apart0 := h.apart0
  top0 := h.top0
  top := h.top
theorem hv_mrk (k : Int) (hs : Nat → Option Addr × Nat) (ws : List (List Int)) (i : Nat) (hi : i < ws.length) : hv hs (mrkQ k ws) i = hv hs ws i := by
  unfold hv; rw [mrkQ_at k hi, markL_len]
set_option maxHeartbeats 2000000 in
theorem markN_any (h : NH) (N : Nt) (k : Int) (w : World) (lo hi : Nat) (o : OwnN w lo hi h N) (hn : N.w.length ≤ 1048576) (ht : total N.w ≤ 1048576) (hl : N.l.length ≤ 1048576) (hc : N.c.length ≤ 1048576) (hk0 : 0 ≤ k) (hk1 : k ≤ 536870912) :
    Calls Tryd.prog 33 #[.agg #[.slice h.A N.w.length h.c, .slice h.L N.l.length h.d, .slice h.C N.c.length h.e], .int .i64 k] w fun e w' => e = .returned (.int .i64 (k + (ntot N : Nat))) ∧ OwnN w' lo hi h (mrkN k N) ∧ Kept lo hi w w' := by
  obtain ⟨A, c, hs, L, d, C, e0⟩ := h
  obtain ⟨ws, ls, cs⟩ := N
  obtain ⟨oq, ol, oc, olt, oct, olq, ocq, olc⟩ := o
  dsimp only at oq ol oc olt oct olq ocq olc hn ht hl hc ⊢
  obtain ⟨w1, hw1⟩ : ∃ w1, w1 = w.alloc (.cells #[.slice A ws.length c, .slice L ls.length d, .slice C cs.length e0] 28) := ⟨_, rfl⟩
  obtain ⟨hb, p0, hsz⟩ := box3_any w (.slice A ws.length c) (.slice L ls.length d) (.slice C cs.length e0) 28
  rw [← hw1] at hb p0 hsz
  have HK1 := Lib.hid (Kept.of_below hb lo hi)
  have q1 := oq.below hb
  have HL1 := Lib.hid (own_below ol hb (Nat.le_refl _))
  have HC1 := Lib.hid (own_below oc hb (Nat.le_refl _))
  have hSw : ∀ i b, i < ws.length → (hv hs ws i).ownBlock = some b → b < w.heap.size := fun i b hi e => oq.lt hi e
  have hLw : ∀ b, (Value.slice L ls.length d).ownBlock = some b → b < w.heap.size := fun b e => (ol.lt b e).2
  have hCw : ∀ b, (Value.slice C cs.length e0).ownBlock = some b → b < w.heap.size := fun b e => (oc.lt b e).2
  have hAw : ∀ b, (Value.slice A ws.length c).ownBlock = some b → b < w.heap.size := fun b e => (oq.outer.lt b e).2
  have hSr : ∀ b, (∃ i, i < ws.length ∧ (hv hs ws i).ownBlock = some b) → lo ≤ b ∧ b < hi := fun b ⟨i, hi', e⟩ => ⟨((oq.inner i hi').lt b e).1, oq.top i b hi' e⟩
  have hLr : ∀ b, (Value.slice L ls.length d).ownBlock = some b → lo ≤ b ∧ b < hi := fun b e => ⟨(ol.lt b e).1, olt b e⟩
  have hCr : ∀ b, (Value.slice C cs.length e0).ownBlock = some b → lo ≤ b ∧ b < hi := fun b e => ⟨(oc.lt b e).1, oct b e⟩
  have HM := Lib.hid (markSS_s A ws.length c hs ws k w1 lo hi q1 rfl hn ht hk0 hk1 (fun b => ∃ i, i < ws.length ∧ (hv hs ws i).ownBlock = some b) (fun i b hi' e => ⟨i, hi', e⟩))
  have HSw := Lib.hid hSw; have HLw := Lib.hid hLw; have HCw := Lib.hid hCw; have HAw := Lib.hid hAw; have HSr := Lib.hid hSr; have HLr := Lib.hid hLr; have HCr := Lib.hid hCr
  have HLQ := Lib.hid olq; have HCQ := Lib.hid ocq; have HLC := Lib.hid olc; have HLT := Lib.hid olt; have HCT := Lib.hid oct
  obtain ⟨a0, a1, a2⟩ := three_cells p0
  have P0 := Lib.hid p0
  have hz1 : w.heap.size < w1.heap.size := by omega
  clear hb p0 hsz oq ol oc olt oct olq ocq olc q1 hSw hLw hCw hAw hSr hLr hCr
  have HT : Hid (k + (total ws : Nat) + (ls.length * 4 : Nat) + (cs.length : Nat) = k + (ntot ⟨ws, ls, cs⟩ : Nat)) := Lib.hid (by unfold ntot; dsimp only; omega)
  have hk2 : k + (total ws : Nat) ≤ 540000000 := by omega
  go_enter Tryd.func33, Tryd.ntmps33
  go_wp2_with (fail)
  rw [← hw1]
  clear hw1
  refine HM.out.mono ?_
  rintro e w2 ⟨rfl, own2, ks2⟩
  have P2 := Lib.hid ((ks2.block w.heap.size hz1 (fun ⟨i, hi', e⟩ => by have := HSw.out i _ hi' e; omega)).trans P0.out)
  have HL2 := Lib.hid (own_same HL1.out fun b e => ks2.block b (HL1.out.lt b e).2 (fun ⟨i, hi', e2⟩ => (HLQ.out b e).2 i hi' e2))
  have HC2 := Lib.hid (own_same HC1.out fun b e => ks2.block b (HC1.out.lt b e).2 (fun ⟨i, hi', e2⟩ => (HCQ.out b e).2 i hi' e2))
  have HK2 := Lib.hid (HK1.out.trans (ks2.kept HSr.out))
  have hz2 : w.heap.size < w2.heap.size := by have := ks2.size; omega
  have HQ2 := Lib.hid own2
  clear ks2 own2 HM HL1 HC1 HK1 P0 a0 a1 a2
  obtain ⟨a0, a1, a2⟩ := three_cells P2.out
  obtain ⟨k2, hk2e⟩ : ∃ k2 : Int, k + (total ws : Nat) = k2 := ⟨_, rfl⟩
  have HK2E := Lib.hid hk2e
  rw [hk2e] at hk2 HT ⊢
  have hk20 : 0 ≤ k2 := by omega
  clear hk2e
  go_wp2_with (fail)
  refine (markLS_any L ls.length d ls k2 w2 lo HL2.out hl hk20 (by omega)).mono ?_
  rintro e w3 ⟨rfl, own3, gr3⟩
  have P3 := Lib.hid ((gr3.block w.heap.size hz2 (fun e => by have := HLw.out w.heap.size e.symm; omega)).trans P2.out)
  have HC3 := Lib.hid (own_same HC2.out fun b e => gr3.block b (HC2.out.lt b e).2 (fun e2 => HLC.out b e2.symm e))
  have hw2A : ∀ b, (Value.slice A ws.length c).ownBlock = some b → b < w2.heap.size := fun b e => by have := HAw.out b e; omega
  have HQ3 := Lib.hid (HQ2.out.fine (w' := w3) (fun b e => gr3.block b (hw2A b e) (fun e2 => (HLQ.out b e2.symm).1 e))
    (fun i hi' b e => gr3.block b (HQ2.out.lt hi' e) (fun e2 => (HLQ.out b e2.symm).2 i (by rw [mrkQ_len] at hi'; exact hi') (by rw [hv_mrk k hs ws i (by rw [mrkQ_len] at hi'; exact hi')] at e; exact e))))
  have HK3 := Lib.hid (HK2.out.trans (Kept.of_grown gr3 HLr.out))
  have hz3 : w.heap.size < w3.heap.size := by have := gr3.size; omega
  have HL3 := Lib.hid own3
  clear gr3 own3 HL2 HC2 HQ2 HK2 P2 a0 a1 a2 hw2A
  obtain ⟨a0, a1, a2⟩ := three_cells P3.out
  obtain ⟨k3, hk3e⟩ : ∃ k3 : Int, k2 + (ls.length * 4 : Nat) = k3 := ⟨_, rfl⟩
  have HK3E := Lib.hid hk3e
  rw [hk3e] at HT ⊢
  have hk30 : 0 ≤ k3 := by omega
  have hk31 : k3 ≤ 1073741824 := by omega
  clear hk3e
  go_wp2_with (fail)
  refine (mark_any C cs.length e0 cs k3 w3 lo HC3.out hc hk30 hk31).mono ?_
  rintro e w4 ⟨rfl, own4, gr4⟩
  have hw3A : ∀ b, (Value.slice A ws.length c).ownBlock = some b → b < w3.heap.size := fun b e => by have := HAw.out b e; omega
  have HQ4 := Lib.hid (HQ3.out.fine (w' := w4) (fun b e => gr4.block b (hw3A b e) (fun e2 => (HCQ.out b e2.symm).1 e))
    (fun i hi' b e => gr4.block b (HQ3.out.lt hi' e) (fun e2 => (HCQ.out b e2.symm).2 i (by rw [mrkQ_len] at hi'; exact hi') (by rw [hv_mrk k hs ws i (by rw [mrkQ_len] at hi'; exact hi')] at e; exact e))))
  have HL4 := Lib.hid (own_same HL3.out fun b e => gr4.block b (HL3.out.lt b e).2 (fun e2 => HLC.out b e e2.symm))
  have HK4 := Lib.hid (HK3.out.trans (Kept.of_grown gr4 HCr.out))
  have HC4 := Lib.hid own4
  clear gr4 own4 HL3 HC3 HQ3 HK3 P3 a0 a1 a2 hw3A
  have HON : Hid (OwnN w4 lo hi ⟨A, c, hs, L, d, C, e0⟩ (mrkN k ⟨ws, ls, cs⟩)) := Lib.hid (by
    have e1 : (mrkQ k ws).length = ws.length := mrkQ_len k ws
    have e2 : (mkL (k + total ws) ls.length).length = ls.length := mkL_len _ _
    have e3 : (markL (k + total ws + (ls.length * 4 : Nat)) cs.length).length = cs.length := markL_len _ _
    have c4 := HC4.out
    have l4 := HL4.out
    rw [← HK3E.out, ← HK2E.out] at c4
    rw [← HK2E.out] at l4
    refine ⟨?_, ?_, ?_, ?_, ?_, ?_, ?_, ?_⟩ <;> unfold mrkN <;> dsimp only <;> (try rw [e1]) <;> (try rw [e2]) <;> (try rw [e3])
    · exact HQ4.out
    · exact l4
    · exact c4
    · exact HLT.out
    · exact HCT.out
    · exact fun b e => ⟨(HLQ.out b e).1, fun i hi' => by rw [hv_mrk k hs ws i hi']; exact (HLQ.out b e).2 i hi'⟩
    · exact fun b e => ⟨(HCQ.out b e).1, fun i hi' => by rw [hv_mrk k hs ws i hi']; exact (HCQ.out b e).2 i hi'⟩
    · exact HLC.out)
  go_wp2
  go_ret
  exact ⟨ret_i64 HT.out, HON.out, HK4.out⟩
set_option maxHeartbeats 1000000 in
theorem heldN_any (h : NH) (N : Nt) (k : Int) (w : World) (r : RdN w w.heap.size h (mrkN k N)) (hn : N.w.length ≤ 1048576) (ht : total N.w ≤ 1048576) (hl : N.l.length ≤ 1048576) (hc : N.c.length ≤ 1048576) (hk0 : 0 ≤ k) (hk1 : k ≤ 536870912) :
    Calls Tryd.prog 48 #[.agg #[.slice h.A N.w.length h.c, .slice h.L N.l.length h.d, .slice h.C N.c.length h.e], .int .i64 k] w fun e w' => e = .returned (.int .i64 (k + (ntot N : Nat))) ∧ Below w.heap.size w w' := by
  obtain ⟨A, c, hs, L, d, C, e0⟩ := h
  obtain ⟨ws, ls, cs⟩ := N
  obtain ⟨r1, r2, r3⟩ := r
  unfold mrkN at r1 r2 r3
  dsimp only at r1 r2 r3 hn ht hl hc ⊢
  rw [mrkQ_len] at r1; rw [mkL_len] at r2; rw [markL_len] at r3
  obtain ⟨w1, hw1⟩ : ∃ w1, w1 = w.alloc (.cells #[.slice A ws.length c, .slice L ls.length d, .slice C cs.length e0] 28) := ⟨_, rfl⟩
  obtain ⟨hb, p0, hsz⟩ := box3_any w (.slice A ws.length c) (.slice L ls.length d) (.slice C cs.length e0) 28
  rw [← hw1] at hb p0 hsz
  obtain ⟨a0, a1, a2⟩ := three_cells p0
  have HB := Lib.hid hb
  have H1 := Lib.hid (heldSS_any A ws.length c ws k w1 ((r1.below hb).more hb.size) hn ht hk0 hk1)
  have HT : Hid (k + (total ws : Nat) + (ls.length * 4 : Nat) + (cs.length : Nat) = k + (ntot ⟨ws, ls, cs⟩ : Nat)) := Lib.hid (by unfold ntot; dsimp only; omega)
  have hk2 : k + (total ws : Nat) ≤ 540000000 := by omega
  have R2 := Lib.hid ((r2.below hb).more hb.size); have R3 := Lib.hid ((r3.below hb).more hb.size)
  obtain ⟨k2, hk2e⟩ : ∃ k2 : Int, k + (total ws : Nat) = k2 := ⟨_, rfl⟩
  rw [hk2e] at hk2 HT H1 R2 R3
  have hk20 : 0 ≤ k2 := by omega
  obtain ⟨k3, hk3e⟩ : ∃ k3 : Int, k2 + (ls.length * 4 : Nat) = k3 := ⟨_, rfl⟩
  have H2 := Lib.hid (heldLS_any L ls.length d k2 w1 R2.out hl hk20 (by omega))
  rw [hk3e] at HT R3 H2
  have hk30 : 0 ≤ k3 := by omega
  have hk31 : k3 ≤ 1073741824 := by omega
  have H3 := Lib.hid (held_any C cs.length e0 k3 w1 R3.out hc hk30 hk31)
  have d1 : decide (k2 < 0) = false := decide_eq_false (by omega)
  have d2 : decide (k3 < 0) = false := decide_eq_false (by omega)
  have d3 : decide (k3 + (cs.length : Int) < 0) = false := decide_eq_false (by omega)
  clear hb p0 hsz r1 r2 r3 R2 R3 hk2e hk3e
  go_enter Tryd.func48, Tryd.ntmps48
  go_wp2_with (fail)
  rw [← hw1]
  clear hw1
  refine H1.out.mono ?_
  rintro e w' ⟨rfl, rfl⟩
  go_wp2_with (fail)
  refine H2.out.mono ?_
  rintro e w' ⟨rfl, rfl⟩
  go_wp2_with (fail)
  refine H3.out.mono ?_
  rintro e w' ⟨rfl, rfl⟩
  go_wp2
  go_ret
  exact ⟨ret_i64 HT.out, HB.out⟩
end
section
open Go.ChangeShapes Go.WideShapes Go.ChangeAt Go.RowKit

theorem array_three {α : Type} {cs : Array α} (h : cs.size = 3) : ∃ c0 c1 c2, cs = #[c0, c1, c2] := by
  obtain ⟨l⟩ := cs
  match l, h with
  | [c0, c1, c2], _ => exact ⟨c0, c1, c2, rfl⟩
theorem open_agg3 {H : Type} {enc : TypeId × Value → H} {P : Program} {w : World} {base : Nat} {spare : Nat → Bool} {held : Bool} {r : Reach} {b0 : Nat} {t : TypeId} {f0 f1 f2 : Field} {v : Value} {d : DataW H} {p : List MemPlace} (hs : P.underlying t = some (.struct #[f0, f1, f2]))
    (o0 : f0.offset = 0) (o1 : f1.offset = 1) (o2 : f2.offset = 2) (k0 : P.cellsOf f0.type = 1) (k1 : P.cellsOf f1.type = 1) (k2 : P.cellsOf f2.type = 1)
    (hC : P.cellsOf t = 3) (hv : Value.okWide P w r b0 t v) (h : DataW.Trod enc P w base spare held t v d p) :
    ∃ (v0 v1 v2 : Value) (n : Nat) (y0 y1 y2 : DataW H × List MemPlace), v = .agg #[v0, v1, v2] ∧ DataW.trod enc P w base spare held n f0.type [v0] = some y0 ∧ DataW.trod enc P w base spare held n f1.type [v1] = some y1 ∧ DataW.trod enc P w base spare held n f2.type [v2] = some y2 := by
  obtain ⟨cs, rfl, hsz⟩ := okWide_struct hs hv
  obtain ⟨c0, c1, c2, rfl⟩ := array_three (hsz.trans hC)
  obtain ⟨fuel, hf⟩ := h
  obtain ⟨xs, n, _, _, _, hlen, hx⟩ := DataW.trod_struct hs hf
  match xs, hlen with
  | [y0, y1, y2], _ =>
    exact ⟨c0, c1, c2, n, y0, y1, y2, rfl, by simpa [Value.cells, o0, k0] using hx 0 f0 rfl, by simpa [Value.cells, o1, k1] using hx 1 f1 rfl, by simpa [Value.cells, o2, k2] using hx 2 f2 rfl⟩
theorem list_four {α : Type} {l : List α} (h : l.length = 4) : ∃ c0 c1 c2 c3, l = [c0, c1, c2, c3] := by
  match l, h with
  | [c0, c1, c2, c3], _ => exact ⟨c0, c1, c2, c3, rfl⟩
theorem trod_four {H : Type} {enc : TypeId × Value → H} {P : Program} {w : World} {base fuel : Nat} {spare : Nat → Bool} {held : Bool} {t : TypeId} {f0 f1 f2 f3 : Field} {cs : List Value} {x : DataW H × List MemPlace} (hs : P.underlying t = some (.struct #[f0, f1, f2, f3]))
    (o0 : f0.offset = 0) (o1 : f1.offset = 1) (o2 : f2.offset = 2) (o3 : f3.offset = 3) (k0 : P.cellsOf f0.type = 1) (k1 : P.cellsOf f1.type = 1) (k2 : P.cellsOf f2.type = 1) (k3 : P.cellsOf f3.type = 1)
    (hC : P.cellsOf t = 4) (h : DataW.trod enc P w base spare held fuel t cs = some x) :
    ∃ (v0 v1 v2 v3 : Value) (n : Nat) (y0 y1 y2 y3 : DataW H × List MemPlace), cs = [v0, v1, v2, v3] ∧ DataW.trod enc P w base spare held n f0.type [v0] = some y0 ∧ DataW.trod enc P w base spare held n f1.type [v1] = some y1 ∧
      DataW.trod enc P w base spare held n f2.type [v2] = some y2 ∧ DataW.trod enc P w base spare held n f3.type [v3] = some y3 := by
  obtain ⟨xs, n, _, _, hcl, hlen, hx⟩ := DataW.trod_struct hs h
  obtain ⟨c0, c1, c2, c3, rfl⟩ := list_four (hcl.trans hC)
  match xs, hlen with
  | [y0, y1, y2, y3], _ =>
    exact ⟨c0, c1, c2, c3, n, y0, y1, y2, y3, rfl, by simpa [o0, k0] using hx 0 f0 rfl, by simpa [o1, k1] using hx 1 f1 rfl, by simpa [o2, k2] using hx 2 f2 rfl, by simpa [o3, k3] using hx 3 f3 rfl⟩
set_option maxRecDepth 100000 in
/-- The four cells of a link that came in. -/
theorem cells_link {H : Type} {enc : TypeId × Value → H} {W : World} {fuel : Nat} {cs : List Value} {x : DataW H × List MemPlace} (h : DataW.trod enc Tryd.prog W 0 (fun _ => true) true fuel 114 cs = some x) :
    ∃ l : Lk, cs = [.int .i64 l.k, .int .i64 l.a, .int .i64 l.b, .int .i64 l.c] := by
  have e := trod_four (P := Tryd.prog) (w := W) (enc := enc) (base := 0) (spare := fun _ => true) (held := true) (cs := cs) (x := x) (fuel := fuel) Tryd.underlying114 (by kernel_rfl) (by kernel_rfl) (by kernel_rfl) (by kernel_rfl) (by kernel_rfl) (by kernel_rfl) (by kernel_rfl) (by kernel_rfl) (by kernel_rfl)
  obtain ⟨v0, v1, v2, v3, n, y0, y1, y2, y3, rfl, h0, h1, h2, h3⟩ := e h
  obtain ⟨r, e0, _, _⟩ := DataW.trod_int Tryd.underlying2 h0
  obtain ⟨a, e1, _, _⟩ := DataW.trod_int Tryd.underlying2 h1
  obtain ⟨b, e2, _, _⟩ := DataW.trod_int Tryd.underlying2 h2
  obtain ⟨i, e3, _, _⟩ := DataW.trod_int Tryd.underlying2 h3
  obtain rfl : v0 = _ := List.singleton_inj.1 e0
  obtain rfl : v1 = _ := List.singleton_inj.1 e1
  obtain rfl : v2 = _ := List.singleton_inj.1 e2
  obtain rfl : v3 = _ := List.singleton_inj.1 e3
  exact ⟨⟨r, a, b, i⟩, rfl⟩
theorem addN {b off : Nat} {m : Nat} : (⟨b, off, none⟩ : Addr).add m = ⟨b, off + m, none⟩ := by
  unfold Addr.add
  split <;> simp_all
instance : Inhabited Lk := ⟨Lk.nil⟩
/-- The row of links made of its cells. -/
theorem rdl_of {w : World} {B b off : Nat} {ls : List Lk} (hb : b < B) (hc : ∀ i, i < ls.length → w.cell? ⟨b, off + i * 4, none⟩ = some (.int .i64 (ls.getD i Lk.nil).k) ∧ w.cell? ⟨b, off + i * 4 + 1, none⟩ = some (.int .i64 (ls.getD i Lk.nil).a) ∧ w.cell? ⟨b, off + i * 4 + 2, none⟩ = some (.int .i64 (ls.getD i Lk.nil).b) ∧ w.cell? ⟨b, off + i * 4 + 3, none⟩ = some (.int .i64 (ls.getD i Lk.nil).c)) :
    RdL w B (some ⟨b, off, none⟩) ls.length ls := by
  refine ⟨rfl, flL_len ls, fun _ => ⟨b, off, rfl, hb, fun j hj => ?_⟩⟩
  have h4 : j / 4 < ls.length := by omega
  obtain ⟨c0, c1, c2, c3⟩ := hc (j / 4) h4
  obtain ⟨f0, f1, f2, f3⟩ := flL_at ls (j / 4) h4
  have : j = j / 4 * 4 ∨ j = j / 4 * 4 + 1 ∨ j = j / 4 * 4 + 2 ∨ j = j / 4 * 4 + 3 := by omega
  rcases this with e | e | e | e
  · rw [e, f0]; exact c0
  · rw [e, f1, ← Nat.add_assoc]; exact c1
  · rw [e, f2, ← Nat.add_assoc]; exact c2
  · rw [e, f3, ← Nat.add_assoc]; exact c3
/-- A slice of links that came in. -/
theorem open_links {H : Type} {enc : TypeId × Value → H} {W : World} {fuel : Nat} {v : Value} {x : DataW H × List MemPlace}
    (hf : DataW.trod enc Tryd.prog W 0 (fun _ => true) true fuel 44 [v] = some x) : ∃ a n c ls, v = .slice a n c ∧ RdL W W.heap.size a n ls ∧ n ≤ c ∧ n ≤ maxLen := by
  have c4 : Tryd.prog.cellsOf 114 = 4 := by kernel_rfl
  rcases DataW.trod_slice Tryd.underlying44 hf with ⟨hcs, _⟩ | ⟨x, l, c, elems, rest, n, _, hcs, _, _, hl, hm, hlen, hel, _⟩
  · obtain rfl : v = .slice none 0 0 := by simpa using hcs
    exact ⟨none, 0, 0, [], rfl, RdL.nil _ _ _, Nat.le_refl _, Nat.zero_le _⟩
  · obtain rfl : v = .slice (some x) l c := by simpa using hcs
    rw [c4] at hel
    have each : ∀ i, i < l → ∃ y : Lk, ∀ t, t < 4 → W.cell? ((x.add (i * 4)).add t) = [Value.int .i64 y.k, .int .i64 y.a, .int .i64 y.b, .int .i64 y.c][t]? := by
      intro i hi
      have he := hel i hi
      rw [List.getElem?_eq_getElem (by omega)] at he
      obtain ⟨cs, hc, ht⟩ := Option.bind_eq_some_iff.1 he
      obtain ⟨s, rfl⟩ := cells_link ht
      obtain ⟨_, hcl, hcc⟩ := World.cells?_some hc
      exact ⟨s, fun t ht => hcc t ht⟩
    obtain ⟨y, hy⟩ := Go.Deep.choose_lt each
    by_cases hn : 0 < l
    · obtain ⟨b, off, spot⟩ := x
      have h0 := hy 0 hn 0 (by omega)
      have hs : spot = none := by
        have : W.cell? ((⟨b, off, spot⟩ : Addr).add (0 * 4) |>.add 0) = some (.int .i64 (y 0).k) := h0
        simpa [Addr.add] using World.cell?_spot this
      subst hs
      have hlt : b < W.heap.size := by
        have : W.cell? ((⟨b, off, none⟩ : Addr).add (0 * 4) |>.add 0) = some (.int .i64 (y 0).k) := h0
        have := World.block_lt_of_cell? W _ this
        rw [addN, addN] at this
        exact this
      have hle : ((List.range l).map y).length = l := by simp
      have key := rdl_of (w := W) (b := b) (off := off) (ls := (List.range l).map y) hlt (fun k hk => by
        rw [hle] at hk
        have e : ((List.range l).map y).getD k Lk.nil = y k := by simp [List.getD, hk]
        rw [e]
        have gt : ∀ t, t < 4 → W.cell? ⟨b, off + k * 4 + t, none⟩ = [Value.int .i64 (y k).k, .int .i64 (y k).a, .int .i64 (y k).b, .int .i64 (y k).c][t]? := fun t ht => by
          have := hy k hk t ht
          rw [addN, addN] at this
          exact this
        exact ⟨gt 0 (by omega), gt 1 (by omega), gt 2 (by omega), gt 3 (by omega)⟩)
      rw [hle] at key
      exact ⟨_, l, c, _, rfl, key, hl, by omega⟩
    · obtain rfl : l = 0 := by omega
      exact ⟨_, 0, c, [], rfl, RdL.nil _ _ _, hl, Nat.zero_le _⟩
set_option maxRecDepth 100000 in
/-- A net that came in. -/
theorem open_net {H : Type} {enc : TypeId × Value → H} {W : World} {base : Nat} {v : Value} {d : DataW H} {p : List MemPlace} (hv : Value.okWide Tryd.prog W .any base 46 v)
    (h : DataW.Trod enc Tryd.prog W 0 (fun _ => true) true 46 v d p) :
    ∃ (h : NH) (N : Nt), v = .agg #[.slice h.A N.w.length h.c, .slice h.L N.l.length h.d, .slice h.C N.c.length h.e] ∧ RdN W W.heap.size h N ∧ (N.w.length ≤ maxLen ∧ N.l.length ≤ maxLen ∧ N.c.length ≤ maxLen) ∧ ∀ q ∈ N.w, q.length ≤ maxLen := by
  have e := open_agg3 (r := .any) (b0 := base) (v := v) (d := d) (p := p) (P := Tryd.prog) (w := W) (enc := enc) (base := 0) (spare := fun _ => true) (held := true) Tryd.underlying46 (by kernel_rfl) (by kernel_rfl) (by kernel_rfl) (by kernel_rfl) (by kernel_rfl) (by kernel_rfl) (by kernel_rfl)
  obtain ⟨v0, v1, v2, n, y0, y1, y2, rfl, h0, h1, h2⟩ := e hv h
  obtain ⟨a, n0, c, qs, rfl, r0, _, m0, q0, _⟩ := open_rows h0
  obtain ⟨L, n1, d1, ls, rfl, r1, _, m1⟩ := open_links h1
  have hsl : ∃ A l c, v2 = .slice A l c ∧ l ≤ maxLen := by
    rcases open_ints Tryd.underlying26 Tryd.underlying2 (by kernel_rfl) h2 with ⟨hcs, _⟩ | ⟨x, l, c, zs, hcs, _, hl, hm, _⟩
    · exact ⟨none, 0, 0, List.singleton_inj.1 hcs, Nat.zero_le _⟩
    · exact ⟨some x, l, c, List.singleton_inj.1 hcs, by omega⟩
  obtain ⟨C, n2, e2, rfl, m2⟩ := hsl
  obtain ⟨f, r2, _, _⟩ := open_i64s (d := y2.1) (p := y2.2) ⟨n, by simpa [Value.cells] using h2⟩
  have l0 := r0.len; have l1 := r1.len; have l2 := r2.len
  subst l0 l1 l2
  exact ⟨⟨a, c, fun _ => (none, 0), L, d1, C, e2⟩, ⟨qs, ls, f⟩, rfl, ⟨r0, r1, r2⟩, ⟨m0, m1, m2⟩, q0⟩
/-- Too great, or within the laws' bound. -/
theorem sz_casesN (left : Int) (hl : left ≤ 1048576) (N : Nt) : szR left (nsz N) = -1 ∨ ∃ L, szR left (nsz N) = L ∧ 0 ≤ L ∧ L ≤ 1048576 ∧ N.w.length ≤ 1048576 ∧ total N.w ≤ 1048576 ∧ N.l.length ≤ 1048576 ∧ N.c.length ≤ 1048576 := by
  by_cases h : left - (nsz N : Nat) < 0
  · exact .inl (szR_neg h)
  · have hz : nsz N = N.w.length + total N.w + N.l.length + N.c.length := rfl
    exact .inr ⟨left - (nsz N : Nat), szR_pos h, by omega, by omega, by omega, by omega, by omega, by omega⟩
end
section
open Go.ChangeAt Go.ChangeShapes Go.RowKit Go.WideShapes

/-- A net no greater than the laws' bound. -/
structure SmallN (N : Nt) : Prop where
  w : N.w.length ≤ 1048576
  t : total N.w ≤ 1048576
  l : N.l.length ≤ 1048576
  c : N.c.length ≤ 1048576
/-- A net as great as any that came in. -/
structure GreatN (N : Nt) : Prop where
  w : N.w.length ≤ maxLen
  l : N.l.length ≤ maxLen
  c : N.c.length ≤ maxLen
  q : ∀ q ∈ N.w, q.length ≤ maxLen
theorem SmallN.q {N : Nt} (h : SmallN N) : ∀ q ∈ N.w, q.length ≤ 1048576 := fun _ hq => Nat.le_trans (mem_total hq) h.t
theorem SmallN.great {N : Nt} (h : SmallN N) : GreatN N := ⟨Nat.le_trans h.w (by decide), Nat.le_trans h.l (by decide), Nat.le_trans h.c (by decide), fun q hq => Nat.le_trans (h.q q hq) (by decide)⟩
theorem SmallN.tot {N : Nt} (h : SmallN N) : ntot N ≤ 6291456 := by
  have h1 := h.t; have h2 := h.l; have h3 := h.c
  unfold ntot; omega
theorem rd_mrk {w : World} {B : Nat} {h : NH} {k : Int} {N : Nt} (r : RdN w B h (mrkN k N)) : RdN w B h (mrkN k N) := r
end
section
open Go.RowKit

/-- What a symbol adds to the fragment. -/
def bitZ (n : Int) : Int := if n = 11 ∨ n = 12 then 1 else if n = 13 ∨ n = 14 then 2 else if n = 15 ∨ n = 16 then 4 else if n = 17 ∨ n = 18 then 8 else 0
theorem bitZ_other {n : Int} (h : ¬ (11 ≤ n ∧ n ≤ 18)) : bitZ n = 0 := by
  unfold bitZ
  rw [if_neg (by omega), if_neg (by omega), if_neg (by omega), if_neg (by omega)]
theorem bitZ_cases (n : Int) : bitZ n = 0 ∨ bitZ n = 1 ∨ bitZ n = 2 ∨ bitZ n = 4 ∨ bitZ n = 8 := by
  unfold bitZ
  split
  · simp
  · split
    · simp
    · split
      · simp
      · split <;> simp
/-- Does a symbol with this bit occur among the first k? -/
def occ (f : List Int) (v : Int) (k : Nat) : Bool := (f.take k).any fun n => bitZ n == v
theorem occ_zero (f : List Int) (v : Int) : occ f v 0 = false := by simp [occ]
theorem occ_step {f : List Int} {k : Nat} (v : Int) (h : k < f.length) : occ f v (k + 1) = (occ f v k || (bitZ (f.getD k 0) == v)) := by
  unfold occ
  rw [List.take_succ_eq_append_getElem h, List.any_append]
  simp [List.getD, h]
/-- A bit as a number. -/
def bz (b : Bool) : Int := if b then 1 else 0
def sumB (p q r s : Bool) : Int := bz p + 2 * bz q + 4 * bz r + 8 * bz s
/-- The fragment of the first k symbols. -/
def fragK (f : List Int) (k : Nat) : Int := sumB (occ f 1 k) (occ f 2 k) (occ f 4 k) (occ f 8 k)
theorem fragK_zero (f : List Int) : fragK f 0 = 0 := by simp [fragK, occ_zero]; rfl
/-- FragmentOf. -/
def fragV (f : List Int) : Int := if validB f then fragK f f.length else -1
theorem fragV_yes {f : List Int} (h : validB f = true) : fragV f = fragK f f.length := by simp [fragV, h]
theorem fragV_no {f : List Int} (h : validB f = false) : fragV f = -1 := by simp [fragV, h]

theorem or_bits (p q r s : Bool) (b : Int) (hb : b = 0 ∨ b = 1 ∨ b = 2 ∨ b = 4 ∨ b = 8) : bits BinOp.or IntKind.i64 (sumB p q r s) b = sumB (p || (b == 1)) (q || (b == 2)) (r || (b == 4)) (s || (b == 8)) := by
  rcases hb with rfl | rfl | rfl | rfl | rfl <;> cases p <;> cases q <;> cases r <;> cases s <;> decide
theorem frag_step {f : List Int} {k : Nat} (h : k < f.length) : bits BinOp.or IntKind.i64 (fragK f k) (bitZ (f.getD k 0)) = fragK f (k + 1) := by
  unfold fragK
  rw [or_bits _ _ _ _ _ (bitZ_cases _), occ_step 1 h, occ_step 2 h, occ_step 4 h, occ_step 8 h]

set_option maxHeartbeats 1000000 in
theorem fragmentBit_any (n : Int) (w : World) : Calls Tryd.prog 125 #[.int .i64 n] w fun e w' => e = .returned (.int .i64 (bitZ n)) ∧ w = w' := by
  by_cases h : 11 ≤ n ∧ n ≤ 18
  · have : n = 11 ∨ n = 12 ∨ n = 13 ∨ n = 14 ∨ n = 15 ∨ n = 16 ∨ n = 17 ∨ n = 18 := by omega
    clear h
    rcases this with rfl | rfl | rfl | rfl | rfl | rfl | rfl | rfl
    all_goals
      go_enter Tryd.func125, Tryd.ntmps125
      go_wp2
      go_ret
      exact ⟨rfl, rfl⟩
  · rw [bitZ_other h]
    have e1 : (n == 11) = false := by simp; omega
    have e2 : (n == 12) = false := by simp; omega
    have e3 : (n == 13) = false := by simp; omega
    have e4 : (n == 14) = false := by simp; omega
    have e5 : (n == 15) = false := by simp; omega
    have e6 : (n == 16) = false := by simp; omega
    have e7 : (n == 17) = false := by simp; omega
    have e8 : (n == 18) = false := by simp; omega
    clear h
    go_enter Tryd.func125, Tryd.ntmps125
    go_wp2
    go_ret
    exact ⟨rfl, rfl⟩

set_option maxHeartbeats 1000000 in
theorem fragmentOf_impl (A : Option Addr) (n c : Nat) (f : List Int) (w : World) (h : RdI w w.heap.size A n f) (ht : Arit w) (hnc : n ≤ c) :
    Calls Tryd.prog 110 #[.slice A n c] w fun e w' => e = .returned (.int .i64 (fragV f)) ∧ w = w' := by
  have hl := h.len
  subst hl
  cases hv : validB f with
  | false =>
    rw [fragV_no hv]
    go_enter Tryd.func110, Tryd.ntmps110
    go_wp2_with (go_at_call 119; refine (validForm_impl _ _ _ f _ h ht hnc).mono ?_; rintro e w' ⟨rfl, rfl⟩)
    go_ret
    exact ⟨rfl, rfl⟩
  | true =>
    rw [fragV_yes hv]
    have l1 := valid_len hv
    have hl24 : f.length ≤ 24 := l1.2.1
    clear l1
    go_enter Tryd.func110, Tryd.ntmps110
    go_wp2_with (go_at_call 119; refine (validForm_impl _ _ _ f _ h ht hnc).mono ?_; rintro e w' ⟨rfl, rfl⟩)
    clear hv ht
    go_loop [3, 11] (fun v3 v11 => ∃ k : Nat, k ≤ f.length ∧ v11 = .int .i64 k ∧ v3 = .int .i64 (fragK f k)) (fun _ v11 => f.length - (intOf v11).toNat)
    case atStart => exact ⟨0, Nat.zero_le _, rfl, by rw [fragK_zero]⟩
    case round =>
      obtain ⟨k, hk, rfl, rfl⟩ := hrel
      by_cases hlt : k < f.length
      · obtain ⟨b, off, rfl, hbb, hcells⟩ := h.2 (by omega)
        have hc := hcells k hlt
        have HS := Lib.hid (frag_step hlt)
        generalize f.getD k 0 = x at hc HS
        clear hcells
        go_wp2_with (go_at_call 125; refine (fragmentBit_any x _).mono ?_; rintro e w' ⟨rfl, rfl⟩)
        go_round
        case rel => exact ⟨k + 1, by omega, by go_num, by rw [← HS.out]⟩
        case measure => simp [intOf]; omega
      · have hkl : k = f.length := by omega
        subst hkl
        go_wp2
        go_ret
        exact ⟨rfl, rfl⟩

/-- The four cells of the model's marks. -/
def four (f : List Int) (k : Nat) : Array Value := #[.int .i64 (bz (occ f 1 k)), .int .i64 (bz (occ f 2 k)), .int .i64 (bz (occ f 4 k)), .int .i64 (bz (occ f 8 k))]
theorem four_same {f : List Int} {k : Nat} (h : k < f.length) (hb : bitZ (f.getD k 0) = 0) : four f k = four f (k + 1) := by
  unfold four
  rw [occ_step 1 h, occ_step 2 h, occ_step 4 h, occ_step 8 h, hb]
  simp
theorem four_set {f : List Int} {k j : Nat} (h : k < f.length) (hb : bitZ (f.getD k 0) = 1 ∧ j = 0 ∨ bitZ (f.getD k 0) = 2 ∧ j = 1 ∨ bitZ (f.getD k 0) = 4 ∧ j = 2 ∨ bitZ (f.getD k 0) = 8 ∧ j = 3) : (four f k).setIfInBounds j (.int .i64 1) = four f (k + 1) := by
  unfold four
  rw [occ_step 1 h, occ_step 2 h, occ_step 4 h, occ_step 8 h]
  rcases hb with ⟨hb, rfl⟩ | ⟨hb, rfl⟩ | ⟨hb, rfl⟩ | ⟨hb, rfl⟩ <;> rw [hb] <;> simp <;> rfl

set_option maxHeartbeats 4000000 in
theorem sFragmentOf_in (A : Option Addr) (c : Nat) (f : List Int) (w : World) (h : RdI w w.heap.size A f.length f) (hv : validB f = true) :
    Calls Tryd.prog 107 #[.slice A f.length c] w fun e w' => e = .returned (.int .i64 (fragK f f.length)) ∧ Below w.heap.size w w' := by
  have l1 := valid_len hv
  have hl24 : f.length ≤ 24 := l1.2.1
  have HA := Lib.hid (fun k (hk : k < f.length) => valid_at hv hk)
  have H0 : Hid ((w.alloc (.cells #[.int .i64 0, .int .i64 0, .int .i64 0, .int .i64 0] 2)).heap[w.heap.size]? = some (.cells (four f 0) 2 (0, 0))) := by
    have e : four f 0 = #[.int .i64 0, .int .i64 0, .int .i64 0, .int .i64 0] := by simp [four, occ_zero, bz]
    rw [e]; exact heap_alloc_new w _
  have HB0 : Hid (Below w.heap.size w (w.alloc (.cells #[.int .i64 0, .int .i64 0, .int .i64 0, .int .i64 0] 2))) := Lib.hid ((Below.refl _ _).alloc (Nat.le_refl _) _)
  clear l1
  go_enter Tryd.func107, Tryd.ntmps107
  go_wp2_with (go_at_call 118; refine (sValidForm_any _ _ _ f _ h).mono ?_; rintro e w' ⟨rfl, rfl⟩)
  clear hv
  go_loopw [4] (fun i wr => ∃ k : Nat, k ≤ f.length ∧ i = .int .i64 k ∧ wr.heap[w.heap.size]? = some (.cells (four f k) 2 (0, 0)) ∧ Below w.heap.size w wr) (fun i _ => f.length - (intOf i).toNat)
  case atStart => exact ⟨0, Nat.zero_le _, rfl, H0.out, HB0.out⟩
  case round =>
    obtain ⟨k, hk, rfl, hrow, hb⟩ := hrel
    clear H0 HB0
    by_cases hlt : k < f.length
    · obtain ⟨b, off, rfl, hbb, hcells⟩ := h.2 (by omega)
      have hc := (hb.cell (p := ⟨b, off + k, none⟩) hbb).trans (hcells k hlt)
      have hcase := HA.out k hlt
      have H4 := Lib.hid (fun (hb : bitZ (f.getD k 0) = 0) => four_same hlt hb)
      have H5 := Lib.hid (fun (j : Nat) (hb : bitZ (f.getD k 0) = 1 ∧ j = 0 ∨ bitZ (f.getD k 0) = 2 ∧ j = 1 ∨ bitZ (f.getD k 0) = 4 ∧ j = 2 ∨ bitZ (f.getD k 0) = 8 ∧ j = 3) => four_set hlt hb)
      have HC := Lib.hid (fun j => cell_of_row wr w.heap.size j _ _ (0, 0) hrow)
      have HFr := Lib.hid (fun j => frozen_of_row wr w.heap.size j _ _ hrow)
      have HSet := Lib.hid (fun j u => heap_setCell_same wr w.heap.size j _ _ u hrow)
      have HR := Lib.hid hrow
      have HB := Lib.hid hb
      clear hcells hrow hb
      generalize f.getD k 0 = x at hc hcase H4 H5
      rcases hcase with hleaf | ⟨_, hop⟩
      · have hx := leaf_iff.1 hleaf
        have hx1 : x ≤ 8 := by omega
        have HR2 : Hid (wr.heap[w.heap.size]? = some (.cells (four f (k + 1)) 2 (0, 0))) := by rw [← H4.out (bitZ_other (by omega))]; exact HR
        clear hx hleaf
        go_wp2
        go_roundw
        case rel => exact ⟨k + 1, by omega, by go_num, HR2.out, HB.out⟩
        case measure => simp [intOf]; omega
      · have hx := oper_iff.1 hop
        obtain ⟨j, hj4, hjx, hjb⟩ : ∃ j : Nat, j < 4 ∧ (x = 11 + 2 * (j : Int) ∨ x = 12 + 2 * (j : Int)) ∧ (bitZ x = 1 ∧ j = 0 ∨ bitZ x = 2 ∧ j = 1 ∨ bitZ x = 4 ∧ j = 2 ∨ bitZ x = 8 ∧ j = 3) := by
          have : x = 11 ∨ x = 12 ∨ x = 13 ∨ x = 14 ∨ x = 15 ∨ x = 16 ∨ x = 17 ∨ x = 18 := by omega
          rcases this with rfl | rfl | rfl | rfl | rfl | rfl | rfl | rfl
          · exact ⟨0, by decide, .inl rfl, .inl ⟨by decide, rfl⟩⟩
          · exact ⟨0, by decide, .inr rfl, .inl ⟨by decide, rfl⟩⟩
          · exact ⟨1, by decide, .inl rfl, .inr (.inl ⟨by decide, rfl⟩)⟩
          · exact ⟨1, by decide, .inr rfl, .inr (.inl ⟨by decide, rfl⟩)⟩
          · exact ⟨2, by decide, .inl rfl, .inr (.inr (.inl ⟨by decide, rfl⟩))⟩
          · exact ⟨2, by decide, .inr rfl, .inr (.inr (.inl ⟨by decide, rfl⟩))⟩
          · exact ⟨3, by decide, .inl rfl, .inr (.inr (.inr ⟨by decide, rfl⟩))⟩
          · exact ⟨3, by decide, .inr rfl, .inr (.inr (.inr ⟨by decide, rfl⟩))⟩
        have hcell := HC.out j
        obtain ⟨o, ho⟩ : ∃ o, (four f k)[j]? = some o := ⟨_, Array.getElem?_eq_getElem (by show j < 4; exact hj4)⟩
        rw [ho] at hcell
        have hfr := HFr.out j
        have HS := HSet.out j (.int .i64 1)
        rw [H5.out j hjb] at HS
        have HSS := Lib.hid HS
        have HBB := Lib.hid (HB.out.setCell (p := ⟨w.heap.size, j, none⟩) (Nat.le_refl _) (.int .i64 1))
        have hx11 : 11 ≤ x := by omega
        clear HS hjb ho hop hx
        have hmatch : j = 0 ∨ j = 1 ∨ j = 2 ∨ j = 3 := by omega
        rcases hmatch with rfl | rfl | rfl | rfl <;> rcases hjx with rfl | rfl
        all_goals
          go_wp2
          go_roundw
          case rel => exact ⟨k + 1, by omega, by go_num, HSS.out, HBB.out⟩
          case measure => simp [intOf]; omega
    · have hkl : k = f.length := by omega
      subst hkl
      have c0 : wr.cell? ⟨w.heap.size, 0, none⟩ = some (.int .i64 (bz (occ f 1 f.length))) := cell_of_row wr w.heap.size 0 _ _ (0, 0) hrow
      have c1 : wr.cell? ⟨w.heap.size, 1, none⟩ = some (.int .i64 (bz (occ f 2 f.length))) := cell_of_row wr w.heap.size 1 _ _ (0, 0) hrow
      have c2 : wr.cell? ⟨w.heap.size, 2, none⟩ = some (.int .i64 (bz (occ f 4 f.length))) := cell_of_row wr w.heap.size 2 _ _ (0, 0) hrow
      have c3 : wr.cell? ⟨w.heap.size, 3, none⟩ = some (.int .i64 (bz (occ f 8 f.length))) := cell_of_row wr w.heap.size 3 _ _ (0, 0) hrow
      have HV : Hid (fragK f f.length = bz (occ f 1 f.length) + 2 * bz (occ f 2 f.length) + 4 * bz (occ f 4 f.length) + 8 * bz (occ f 8 f.length)) := Lib.hid rfl
      have hbz : ∀ b : Bool, 0 ≤ bz b ∧ bz b ≤ 1 := fun b => by cases b <;> decide
      have b0 := hbz (occ f 1 f.length); have b1 := hbz (occ f 2 f.length); have b2 := hbz (occ f 4 f.length); have b3 := hbz (occ f 8 f.length)
      generalize bz (occ f 1 f.length) = p0 at *
      generalize bz (occ f 2 f.length) = p1 at *
      generalize bz (occ f 4 f.length) = p2 at *
      generalize bz (occ f 8 f.length) = p3 at *
      have HB := Lib.hid hb
      have e1 : IntKind.i64.wrap (2 * p1) = 2 * p1 := IntWalk.i64_in _ (by omega)
      have e2 : IntKind.i64.wrap (p0 + 2 * p1) = p0 + 2 * p1 := IntWalk.i64_in _ (by omega)
      have e3 : IntKind.i64.wrap (4 * p2) = 4 * p2 := IntWalk.i64_in _ (by omega)
      have e4 : IntKind.i64.wrap (p0 + 2 * p1 + 4 * p2) = p0 + 2 * p1 + 4 * p2 := IntWalk.i64_in _ (by omega)
      have e5 : IntKind.i64.wrap (8 * p3) = 8 * p3 := IntWalk.i64_in _ (by omega)
      have e6 : IntKind.i64.wrap (p0 + 2 * p1 + 4 * p2 + 8 * p3) = p0 + 2 * p1 + 4 * p2 + 8 * p3 := IntWalk.i64_in _ (by omega)
      clear hrow hb hbz HA
      go_wp2
      go_quiet (fail)
      go_wp2
      go_ret
      exact ⟨ret_i64 HV.out.symm, below_drewN HB.out _⟩

set_option maxHeartbeats 400000 in
theorem sFragmentOf_any (A : Option Addr) (n c : Nat) (f : List Int) (w : World) (h : RdI w w.heap.size A n f) :
    Calls Tryd.prog 107 #[.slice A n c] w fun e w' => e = .returned (.int .i64 (fragV f)) ∧ Below w.heap.size w w' := by
  have hl := h.len
  subst hl
  cases hv : validB f with
  | true => rw [fragV_yes hv]; exact sFragmentOf_in A c f w h hv
  | false =>
    rw [fragV_no hv]
    go_enter Tryd.func107, Tryd.ntmps107
    go_wp2_with (go_at_call 118; refine (sValidForm_any _ _ _ f _ h).mono ?_; rintro e w' ⟨rfl, rfl⟩)
    go_ret
    exact ⟨rfl, Below.refl _ _⟩
end
end Go.Proofs.YtjfhbofgnagfaaaDoor
