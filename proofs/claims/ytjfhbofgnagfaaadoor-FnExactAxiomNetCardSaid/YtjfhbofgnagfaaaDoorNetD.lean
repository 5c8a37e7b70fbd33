/- The laws' helpers at nets: marks. -/
import Derived.Test.YtjfhbofgnagfaaaDoorNetC
namespace Go.Proofs.YtjfhbofgnagfaaaDoor
open Go.ChangeAt Go.ChangeShapes Go.RowKit Go.WideShapes

theorem mkL_at : ∀ (k : Int) (n j : Nat), j < n → (mkL k n).getD j Lk.nil = ⟨k + (j * 4 : Nat), k + (j * 4 : Nat) + 1, k + (j * 4 : Nat) + 1 + 1, k + (j * 4 : Nat) + 1 + 1 + 1⟩
  | _, 0, _, h => absurd h (by omega)
  | k, n + 1, 0, _ => by
    show (⟨k, k + 1, k + 2, k + 3⟩ : Lk) = _
    rw [show k + ((0 * 4 : Nat) : Int) = k by simp, show k + 1 + 1 = k + 2 by omega, show k + 2 + 1 = k + 3 by omega]
  | k, n + 1, j + 1, h => by
    have ih := mkL_at (k + 4) n j (by omega)
    have e : (mkL k (n + 1)).getD (j + 1) Lk.nil = (mkL (k + 4) n).getD j Lk.nil := rfl
    rw [e, ih, show k + 4 + ((j * 4 : Nat) : Int) = k + (((j + 1) * 4 : Nat) : Int) by omega]
set_option maxHeartbeats 2000000 in
theorem markLS_any (A : Option Addr) (n c : Nat) (ls : List Lk) (k : Int) (w : World) (base : Nat) (h : w.ownsRow base 75 4 (.slice A n c) n ((flL ls).map (Value.int .i64))) (hn : n ≤ 1048576) (hk0 : 0 ≤ k) (hk1 : k ≤ 1073741824) :
    Calls Tryd.prog 87 #[.slice A n c, .int .i64 k] w fun e w' => e = .returned (.int .i64 (k + (n * 4 : Nat))) ∧ w'.ownsRow base 75 4 (.slice A n c) n ((flL (mkL k n)).map (Value.int .i64)) ∧ w.grownBy w' (Value.slice A n c).ownBlock := by
  have hl : ls.length = n := by have := h.1; rw [List.length_map, flL_len] at this; omega
  have hml := mkL_len k n
  have H0 := Lib.hid h
  have HU0 : Hid (Upto4 ((flL ls).map (Value.int .i64)) (mkL k n) 0) := Lib.hid ⟨by rw [List.length_map, flL_len, hml, hl], fun j hj => absurd hj (by omega)⟩
  have HML := Lib.hid hml
  clear h hml hl
  go_enter Tryd.func87, Tryd.ntmps87
  go_wp2
  go_loopw [1, 5] (fun v i wr => ∃ (j : Nat) (xs : List Value), j ≤ n ∧ i = .int .i64 j ∧ v = .int .i64 (k + (j * 4 : Nat)) ∧ Upto4 xs (mkL k n) j ∧ wr.ownsRow base 75 4 (.slice A n c) n xs ∧ w.grownBy wr (Value.slice A n c).ownBlock)
    (fun _ i _ => n - (intOf i).toNat)
  case atStart => exact ⟨0, _, Nat.zero_le _, rfl, by simp, HU0.out, H0.out, World.grownBy.refl w _⟩
  case round =>
    obtain ⟨j, ys, hj, rfl, rfl, hU, hO, hG⟩ := hrel
    clear H0 HU0
    by_cases hlt : j < n
    · obtain ⟨g, cap, hv, hbg, hgl⟩ := hO.form (by omega)
      have hA : A = some ⟨g, 0, none⟩ ∧ c = cap := by injection hv with a b c'; exact ⟨a, c'⟩
      obtain ⟨rfl, rfl⟩ := hA
      have hs := hU.step (k := j) (by rw [HML.out]; exact hlt)
      rw [mkL_at k n j hlt] at hs
      have hyl : ys.length = n * 4 := by rw [hU.1, HML.out]
      obtain ⟨q, hq⟩ : ∃ q : Int, k + (j * 4 : Nat) = q := ⟨_, rfl⟩
      have HN : Hid (q + 1 + 1 + 1 + 1 = k + ((j + 1) * 4 : Nat)) := Lib.hid (by omega)
      have hq0 : 0 ≤ q := by omega
      have hq1 : q ≤ 1090000000 := by omega
      rw [hq] at hs ⊢
      dsimp only at hs
      clear hq
      have hi1 : (j : Int) < (n : Int) := by omega
      obtain ⟨q1, q2⟩ := four_own (o := j * 4) hO (.int .i64 q) (.int .i64 (q + 1)) (.int .i64 (q + 1 + 1)) (.int .i64 (q + 1 + 1 + 1))
      have HS := Lib.hid hs; have HQ1 := Lib.hid q1; have HG := Lib.hid (grownBy_trans hG q2)
      have cl := fun t (ht : t < 4) => hO.cellAt (g := g) (j * 4 + t) (by omega)
      have fr := fun t => hO.frozenAt (g := g) (j * 4 + t)
      obtain ⟨d0, e0⟩ : ∃ u, wr.cell? ⟨g, j * 4, none⟩ = some u := ⟨_, (cl 0 (by omega)).trans (List.getElem?_eq_getElem (show j * 4 + 0 < ys.length by omega))⟩
      obtain ⟨d1, e1⟩ : ∃ u, wr.cell? ⟨g, j * 4 + 1, none⟩ = some u := ⟨_, (cl 1 (by omega)).trans (List.getElem?_eq_getElem (show j * 4 + 1 < ys.length by omega))⟩
      obtain ⟨d2, e2⟩ : ∃ u, wr.cell? ⟨g, j * 4 + 2, none⟩ = some u := ⟨_, (cl 2 (by omega)).trans (List.getElem?_eq_getElem (show j * 4 + 2 < ys.length by omega))⟩
      obtain ⟨d3, e3⟩ : ∃ u, wr.cell? ⟨g, j * 4 + 3, none⟩ = some u := ⟨_, (cl 3 (by omega)).trans (List.getElem?_eq_getElem (show j * 4 + 3 < ys.length by omega))⟩
      have fr0 : wr.frozen? ⟨g, j * 4, none⟩ = false := fr 0
      have fr1 := fr 1; have fr2 := fr 2; have fr3 := fr 3
      clear cl fr hO hU hG hs q1 q2 hv hyl hbg hgl
      go_wp2
      go_roundw
      case rel => exact ⟨j + 1, _, by omega, by go_num, by rw [HN.out], HS.out, HQ1.out, HG.out⟩
      case measure => simp [intOf]; omega
    · have hkl : j = n := by omega
      subst hkl
      have hd := Upto4.done (ls := mkL k j) (by rw [HML.out]; exact hU)
      subst hd
      have HO := Lib.hid hO; have HG := Lib.hid hG
      clear hO hU hG
      go_wp2
      go_ret
      exact ⟨rfl, HO.out, HG.out⟩
set_option maxHeartbeats 2000000 in
theorem heldLS_any (A : Option Addr) (n c : Nat) (k : Int) (w : World) (h : RdL w w.heap.size A n (mkL k n)) (hn : n ≤ 1048576) (hk0 : 0 ≤ k) (hk1 : k ≤ 1073741824) :
    Calls Tryd.prog 96 #[.slice A n c, .int .i64 k] w fun e w' => e = .returned (.int .i64 (k + (n * 4 : Nat))) ∧ w = w' := by
  have H := Lib.hid h
  clear h
  go_enter Tryd.func96, Tryd.ntmps96
  go_wp2
  go_loop [1, 5] (fun v i => ∃ j : Nat, j ≤ n ∧ i = .int .i64 j ∧ v = .int .i64 (k + (j * 4 : Nat))) (fun _ i => n - (intOf i).toNat)
  case atStart => exact ⟨0, Nat.zero_le _, rfl, by simp⟩
  case round =>
    obtain ⟨j, hj, rfl, rfl⟩ := hrel
    by_cases hlt : j < n
    · obtain ⟨b, off, rfl, hbb, hcells⟩ := H.out.at (by omega)
      obtain ⟨x0, x1, x2, x3⟩ := hcells j hlt
      rw [mkL_at k n j hlt] at x0 x1 x2 x3
      obtain ⟨q, hq⟩ : ∃ q : Int, k + (j * 4 : Nat) = q := ⟨_, rfl⟩
      have HN : Hid (q + 1 + 1 + 1 + 1 = k + ((j + 1) * 4 : Nat)) := Lib.hid (by omega)
      have hq0 : 0 ≤ q := by omega
      have hq1 : q ≤ 1090000000 := by omega
      rw [hq] at x0 x1 x2 x3 ⊢
      dsimp only at x0 x1 x2 x3
      clear hq hcells
      have hi1 : (j : Int) < (n : Int) := by omega
      have z0 : (q != q) = false := by simp
      have z1 : (q + 1 != q + 1) = false := by simp
      have z2 : (q + 1 + 1 != q + 1 + 1) = false := by simp
      have z3 : (q + 1 + 1 + 1 != q + 1 + 1 + 1) = false := by simp
      go_wp2
      go_round
      case rel => exact ⟨j + 1, by omega, by go_num, by rw [HN.out]⟩
      case measure => simp [intOf]; omega
    · have hkl : j = n := by omega
      subst hkl
      go_wp2
      go_ret
      exact ⟨rfl, rfl⟩
theorem OwnQ.fine {w w' : World} {lo hi : Nat} {v : Value} {hs : Nat → Option Addr × Nat} {qs : List (List Int)} (h : OwnQ w lo hi v hs qs) (h0 : ∀ b, v.ownBlock = some b → w'.heap[b]? = w.heap[b]?) (h1 : ∀ i, i < qs.length → ∀ b, (hv hs qs i).ownBlock = some b → w'.heap[b]? = w.heap[b]?) : OwnQ w' lo hi v hs qs where
  outer := own_same h.outer h0
  inner i hi := own_same (h.inner i hi) (h1 i hi)
  apart := h.apart
  apart0 := h.apart0
  top0 := h.top0
  top := h.top
theorem hv_mrk (k : Int) (hs : Nat → Option Addr × Nat) (ws : List (List Int)) (i : Nat) (hi : i < ws.length) : hv hs (mrkQ k ws) i = hv hs ws i := by
  unfold hv; rw [mrkQ_at k hi, markL_len]
set_option maxHeartbeats 2000000 in
theorem markN_any (h : NH) (N : Nt) (k : Int) (w : World) (lo hi : Nat) (o : OwnN w lo hi h N) (hn : N.w.length ≤ 1048576) (ht : total N.w ≤ 1048576) (hl : N.l.length ≤ 1048576) (hc : N.c.length ≤ 1048576) (hk0 : 0 ≤ k) (hk1 : k ≤ 536870912) :
    Calls Tryd.prog 33 #[.agg #[.slice h.A N.w.length h.c, .slice h.L N.l.length h.d, .slice h.C N.c.length h.e], .int .i64 k] w fun e w' => e = .returned (.int .i64 (k + (ntot N : Nat))) ∧ OwnN w' lo hi h (mrkN k N) ∧ Kept lo hi w w' := by
  obtain ⟨A, c, hs, L, d, C, e0⟩ := h
  obtain ⟨ws, ls, cs⟩ := N
  obtain ⟨oq, ol, oc, olt, oct, olq, ocq, olc⟩ := o
  dsimp only at oq ol oc olt oct olq ocq olc hn ht hl hc ⊢
  obtain ⟨w1, hw1⟩ : ∃ w1, w1 = w.alloc (.cells #[.slice A ws.length c, .slice L ls.length d, .slice C cs.length e0] 28) := ⟨_, rfl⟩
  obtain ⟨hb, p0, hsz⟩ := box3_any w (.slice A ws.length c) (.slice L ls.length d) (.slice C cs.length e0) 28
  rw [← hw1] at hb p0 hsz
  have HK1 := Lib.hid (Kept.of_below hb lo hi)
  have q1 := oq.below hb
  have HL1 := Lib.hid (own_below ol hb (Nat.le_refl _))
  have HC1 := Lib.hid (own_below oc hb (Nat.le_refl _))
  have hSw : ∀ i b, i < ws.length → (hv hs ws i).ownBlock = some b → b < w.heap.size := fun i b hi e => oq.lt hi e
  have hLw : ∀ b, (Value.slice L ls.length d).ownBlock = some b → b < w.heap.size := fun b e => (ol.lt b e).2
  have hCw : ∀ b, (Value.slice C cs.length e0).ownBlock = some b → b < w.heap.size := fun b e => (oc.lt b e).2
  have hAw : ∀ b, (Value.slice A ws.length c).ownBlock = some b → b < w.heap.size := fun b e => (oq.outer.lt b e).2
  have hSr : ∀ b, (∃ i, i < ws.length ∧ (hv hs ws i).ownBlock = some b) → lo ≤ b ∧ b < hi := fun b ⟨i, hi', e⟩ => ⟨((oq.inner i hi').lt b e).1, oq.top i b hi' e⟩
  have hLr : ∀ b, (Value.slice L ls.length d).ownBlock = some b → lo ≤ b ∧ b < hi := fun b e => ⟨(ol.lt b e).1, olt b e⟩
  have hCr : ∀ b, (Value.slice C cs.length e0).ownBlock = some b → lo ≤ b ∧ b < hi := fun b e => ⟨(oc.lt b e).1, oct b e⟩
  have HM := Lib.hid (markSS_s A ws.length c hs ws k w1 lo hi q1 rfl hn ht hk0 hk1 (fun b => ∃ i, i < ws.length ∧ (hv hs ws i).ownBlock = some b) (fun i b hi' e => ⟨i, hi', e⟩))
  have HSw := Lib.hid hSw; have HLw := Lib.hid hLw; have HCw := Lib.hid hCw; have HAw := Lib.hid hAw; have HSr := Lib.hid hSr; have HLr := Lib.hid hLr; have HCr := Lib.hid hCr
  have HLQ := Lib.hid olq; have HCQ := Lib.hid ocq; have HLC := Lib.hid olc; have HLT := Lib.hid olt; have HCT := Lib.hid oct
  obtain ⟨a0, a1, a2⟩ := three_cells p0
  have P0 := Lib.hid p0
  have hz1 : w.heap.size < w1.heap.size := by omega
  clear hb p0 hsz oq ol oc olt oct olq ocq olc q1 hSw hLw hCw hAw hSr hLr hCr
  have HT : Hid (k + (total ws : Nat) + (ls.length * 4 : Nat) + (cs.length : Nat) = k + (ntot ⟨ws, ls, cs⟩ : Nat)) := Lib.hid (by unfold ntot; dsimp only; omega)
  have hk2 : k + (total ws : Nat) ≤ 540000000 := by omega
  go_enter Tryd.func33, Tryd.ntmps33
  go_wp2_with (fail)
  rw [← hw1]
  clear hw1
  refine HM.out.mono ?_
  rintro e w2 ⟨rfl, own2, ks2⟩
  have P2 := Lib.hid ((ks2.block w.heap.size hz1 (fun ⟨i, hi', e⟩ => by have := HSw.out i _ hi' e; omega)).trans P0.out)
  have HL2 := Lib.hid (own_same HL1.out fun b e => ks2.block b (HL1.out.lt b e).2 (fun ⟨i, hi', e2⟩ => (HLQ.out b e).2 i hi' e2))
  have HC2 := Lib.hid (own_same HC1.out fun b e => ks2.block b (HC1.out.lt b e).2 (fun ⟨i, hi', e2⟩ => (HCQ.out b e).2 i hi' e2))
  have HK2 := Lib.hid (HK1.out.trans (ks2.kept HSr.out))
  have hz2 : w.heap.size < w2.heap.size := by have := ks2.size; omega
  have HQ2 := Lib.hid own2
  clear ks2 own2 HM HL1 HC1 HK1 P0 a0 a1 a2
  obtain ⟨a0, a1, a2⟩ := three_cells P2.out
  obtain ⟨k2, hk2e⟩ : ∃ k2 : Int, k + (total ws : Nat) = k2 := ⟨_, rfl⟩
  have HK2E := Lib.hid hk2e
  rw [hk2e] at hk2 HT ⊢
  have hk20 : 0 ≤ k2 := by omega
  clear hk2e
  go_wp2_with (fail)
  refine (markLS_any L ls.length d ls k2 w2 lo HL2.out hl hk20 (by omega)).mono ?_
  rintro e w3 ⟨rfl, own3, gr3⟩
  have P3 := Lib.hid ((gr3.block w.heap.size hz2 (fun e => by have := HLw.out w.heap.size e.symm; omega)).trans P2.out)
  have HC3 := Lib.hid (own_same HC2.out fun b e => gr3.block b (HC2.out.lt b e).2 (fun e2 => HLC.out b e2.symm e))
  have hw2A : ∀ b, (Value.slice A ws.length c).ownBlock = some b → b < w2.heap.size := fun b e => by have := HAw.out b e; omega
  have HQ3 := Lib.hid (HQ2.out.fine (w' := w3) (fun b e => gr3.block b (hw2A b e) (fun e2 => (HLQ.out b e2.symm).1 e))
    (fun i hi' b e => gr3.block b (HQ2.out.lt hi' e) (fun e2 => (HLQ.out b e2.symm).2 i (by rw [mrkQ_len] at hi'; exact hi') (by rw [hv_mrk k hs ws i (by rw [mrkQ_len] at hi'; exact hi')] at e; exact e))))
  have HK3 := Lib.hid (HK2.out.trans (Kept.of_grown gr3 HLr.out))
  have hz3 : w.heap.size < w3.heap.size := by have := gr3.size; omega
  have HL3 := Lib.hid own3
  clear gr3 own3 HL2 HC2 HQ2 HK2 P2 a0 a1 a2 hw2A
  obtain ⟨a0, a1, a2⟩ := three_cells P3.out
  obtain ⟨k3, hk3e⟩ : ∃ k3 : Int, k2 + (ls.length * 4 : Nat) = k3 := ⟨_, rfl⟩
  have HK3E := Lib.hid hk3e
  rw [hk3e] at HT ⊢
  have hk30 : 0 ≤ k3 := by omega
  have hk31 : k3 ≤ 1073741824 := by omega
  clear hk3e
  go_wp2_with (fail)
  refine (mark_any C cs.length e0 cs k3 w3 lo HC3.out hc hk30 hk31).mono ?_
  rintro e w4 ⟨rfl, own4, gr4⟩
  have hw3A : ∀ b, (Value.slice A ws.length c).ownBlock = some b → b < w3.heap.size := fun b e => by have := HAw.out b e; omega
  have HQ4 := Lib.hid (HQ3.out.fine (w' := w4) (fun b e => gr4.block b (hw3A b e) (fun e2 => (HCQ.out b e2.symm).1 e))
    (fun i hi' b e => gr4.block b (HQ3.out.lt hi' e) (fun e2 => (HCQ.out b e2.symm).2 i (by rw [mrkQ_len] at hi'; exact hi') (by rw [hv_mrk k hs ws i (by rw [mrkQ_len] at hi'; exact hi')] at e; exact e))))
  have HL4 := Lib.hid (own_same HL3.out fun b e => gr4.block b (HL3.out.lt b e).2 (fun e2 => HLC.out b e e2.symm))
  have HK4 := Lib.hid (HK3.out.trans (Kept.of_grown gr4 HCr.out))
  have HC4 := Lib.hid own4
  clear gr4 own4 HL3 HC3 HQ3 HK3 P3 a0 a1 a2 hw3A
  have HON : Hid (OwnN w4 lo hi ⟨A, c, hs, L, d, C, e0⟩ (mrkN k ⟨ws, ls, cs⟩)) := Lib.hid (by
    have e1 : (mrkQ k ws).length = ws.length := mrkQ_len k ws
    have e2 : (mkL (k + total ws) ls.length).length = ls.length := mkL_len _ _
    have e3 : (markL (k + total ws + (ls.length * 4 : Nat)) cs.length).length = cs.length := markL_len _ _
    have c4 := HC4.out
    have l4 := HL4.out
    rw [← HK3E.out, ← HK2E.out] at c4
    rw [← HK2E.out] at l4
    refine ⟨?_, ?_, ?_, ?_, ?_, ?_, ?_, ?_⟩ <;> unfold mrkN <;> dsimp only <;> (try rw [e1]) <;> (try rw [e2]) <;> (try rw [e3])
    · exact HQ4.out
    · exact l4
    · exact c4
    · exact HLT.out
    · exact HCT.out
    · exact fun b e => ⟨(HLQ.out b e).1, fun i hi' => by rw [hv_mrk k hs ws i hi']; exact (HLQ.out b e).2 i hi'⟩
    · exact fun b e => ⟨(HCQ.out b e).1, fun i hi' => by rw [hv_mrk k hs ws i hi']; exact (HCQ.out b e).2 i hi'⟩
    · exact HLC.out)
  go_wp2
  go_ret
  exact ⟨ret_i64 HT.out, HON.out, HK4.out⟩
set_option maxHeartbeats 1000000 in
theorem heldN_any (h : NH) (N : Nt) (k : Int) (w : World) (r : RdN w w.heap.size h (mrkN k N)) (hn : N.w.length ≤ 1048576) (ht : total N.w ≤ 1048576) (hl : N.l.length ≤ 1048576) (hc : N.c.length ≤ 1048576) (hk0 : 0 ≤ k) (hk1 : k ≤ 536870912) :
    Calls Tryd.prog 48 #[.agg #[.slice h.A N.w.length h.c, .slice h.L N.l.length h.d, .slice h.C N.c.length h.e], .int .i64 k] w fun e w' => e = .returned (.int .i64 (k + (ntot N : Nat))) ∧ Below w.heap.size w w' := by
  obtain ⟨A, c, hs, L, d, C, e0⟩ := h
  obtain ⟨ws, ls, cs⟩ := N
  obtain ⟨r1, r2, r3⟩ := r
  unfold mrkN at r1 r2 r3
  dsimp only at r1 r2 r3 hn ht hl hc ⊢
  rw [mrkQ_len] at r1; rw [mkL_len] at r2; rw [markL_len] at r3
  obtain ⟨w1, hw1⟩ : ∃ w1, w1 = w.alloc (.cells #[.slice A ws.length c, .slice L ls.length d, .slice C cs.length e0] 28) := ⟨_, rfl⟩
  obtain ⟨hb, p0, hsz⟩ := box3_any w (.slice A ws.length c) (.slice L ls.length d) (.slice C cs.length e0) 28
  rw [← hw1] at hb p0 hsz
  obtain ⟨a0, a1, a2⟩ := three_cells p0
  have HB := Lib.hid hb
  have H1 := Lib.hid (heldSS_any A ws.length c ws k w1 ((r1.below hb).more hb.size) hn ht hk0 hk1)
  have HT : Hid (k + (total ws : Nat) + (ls.length * 4 : Nat) + (cs.length : Nat) = k + (ntot ⟨ws, ls, cs⟩ : Nat)) := Lib.hid (by unfold ntot; dsimp only; omega)
  have hk2 : k + (total ws : Nat) ≤ 540000000 := by omega
  have R2 := Lib.hid ((r2.below hb).more hb.size); have R3 := Lib.hid ((r3.below hb).more hb.size)
  obtain ⟨k2, hk2e⟩ : ∃ k2 : Int, k + (total ws : Nat) = k2 := ⟨_, rfl⟩
  rw [hk2e] at hk2 HT H1 R2 R3
  have hk20 : 0 ≤ k2 := by omega
  obtain ⟨k3, hk3e⟩ : ∃ k3 : Int, k2 + (ls.length * 4 : Nat) = k3 := ⟨_, rfl⟩
  have H2 := Lib.hid (heldLS_any L ls.length d k2 w1 R2.out hl hk20 (by omega))
  rw [hk3e] at HT R3 H2
  have hk30 : 0 ≤ k3 := by omega
  have hk31 : k3 ≤ 1073741824 := by omega
  have H3 := Lib.hid (held_any C cs.length e0 k3 w1 R3.out hc hk30 hk31)
  have d1 : decide (k2 < 0) = false := decide_eq_false (by omega)
  have d2 : decide (k3 < 0) = false := decide_eq_false (by omega)
  have d3 : decide (k3 + (cs.length : Int) < 0) = false := decide_eq_false (by omega)
  clear hb p0 hsz r1 r2 r3 R2 R3 hk2e hk3e
  go_enter Tryd.func48, Tryd.ntmps48
  go_wp2_with (fail)
  rw [← hw1]
  clear hw1
  refine H1.out.mono ?_
  rintro e w' ⟨rfl, rfl⟩
  go_wp2_with (fail)
  refine H2.out.mono ?_
  rintro e w' ⟨rfl, rfl⟩
  go_wp2_with (fail)
  refine H3.out.mono ?_
  rintro e w' ⟨rfl, rfl⟩
  go_wp2
  go_ret
  exact ⟨ret_i64 HT.out, HB.out⟩
end Go.Proofs.YtjfhbofgnagfaaaDoor
