/- The model's draw of a binding: some row of at most 8 lists. -/
import Derived.Test.YtoniekjchabjlaaDoorSubL
import Derived.Test.YtoniekjchabjlaaDoorAny
namespace Go.Proofs.YtoniekjchabjlaaDoor
open Go.ChangeAt Go.ChangeShapes Go.RowKit Go.WideShapes

/-- What the draw of a binding leaves. -/
def DrawnBd (w : World) (g : Nat) (A : Option Addr) (n c : Nat) (code : List Int) (e : Ending) (w' : World) : Prop :=
  ∃ (hs : Nat → Option Addr × Nat) (gq m cq : Nat) (qs : List (List Int)), e = .returned (.slice (some ⟨gq, 0, none⟩) m cq) ∧ m ≤ 8 ∧ qs.length = m ∧ OwnQ w' w.heap.size w'.heap.size (.slice (some ⟨gq, 0, none⟩) m cq) hs qs ∧ (∀ q ∈ qs, q.length ≤ 64) ∧ Src w' g A n c code ∧ w.grownBy w' (some g)
theorem OwnQ.grown {w w' : World} {lo hi g : Nat} {v : Value} {hs : Nat → Option Addr × Nat} {qs : List (List Int)} (h : OwnQ w lo hi v hs qs) (hg : w.grownBy w' (some g)) (hlt : g < lo) : OwnQ w' lo hi v hs qs :=
  h.same fun k h1 _ h3 => hg.block k h3 fun e => by have : k = g := by injection e
                                                    omega
/-- A part stored that was drawn. -/
theorem OwnQ.draw {w wr w1 : World} {gq m cq j c' g : Nat} {A' : Option Addr} {hs : Nat → Option Addr × Nat} {cur : List (List Int)} {L : List Int} (h : OwnQ wr w.heap.size wr.heap.size (.slice (some ⟨gq, 0, none⟩) m cq) hs cur) (hm : cur.length = m) (hj : j < m)
    (hg : wr.grownBy w1 (some g)) (hlt : g < w.heap.size) (hsz : w.heap.size ≤ wr.heap.size) (own : w1.ownsRow wr.heap.size 2 1 (.slice A' L.length c') L.length (L.map (Value.int .i64))) :
    OwnQ (w1.setCell ⟨gq, j, none⟩ (.slice A' L.length c')) w.heap.size (w1.setCell ⟨gq, j, none⟩ (.slice A' L.length c')).heap.size (.slice (some ⟨gq, 0, none⟩) m cq) (upd hs j (A', c')) (cur.set j L) := by
  have e : (w1.setCell ⟨gq, j, none⟩ (.slice A' L.length c')).heap.size = w1.heap.size := by simp
  rw [e]
  exact (h.grown hg hlt).store hm hj (own.mono hsz) (fun b hb => own.lt b hb) hg.size
theorem Src.far {w : World} {g n c gq j : Nat} {A : Option Addr} {code : List Int} {u : Value} (h : Src w g A n c code) (hlt : g < gq) : Src (w.setCell ⟨gq, j, none⟩ u) g A n c code :=
  h.same fun k hk => Below.heap_setCell _ _ _ _ (by show k ≠ gq; omega)
theorem grown_set {w w1 : World} {g gq j : Nat} {u : Value} (h : w.grownBy w1 (some g)) (hge : w.heap.size ≤ gq) : w.grownBy (w1.setCell ⟨gq, j, none⟩ u) (some g) :=
  ⟨h.os, h.tape, h.output, by have := h.size; simp; omega, fun k hk hne => (Below.heap_setCell _ _ _ _ (by show k ≠ gq; omega)).trans (h.block k hk hne)⟩
theorem grown_trans {w w1 w2 : World} {g : Nat} (h : w.grownBy w1 (some g)) (h2 : w1.grownBy w2 (some g)) : w.grownBy w2 (some g) :=
  ⟨h2.os.trans h.os, h2.tape.trans h.tape, h2.output.trans h.output, Nat.le_trans h.size h2.size, fun k hk hne => (h2.block k (Nat.lt_of_lt_of_le hk h.size) hne).trans (h.block k hk hne)⟩
theorem set_small64 {out : List (List Int)} {D : List Int} {j : Nat} (h : ∀ q ∈ out, q.length ≤ 64) (hD : D.length ≤ 64) : ∀ q ∈ out.set j D, q.length ≤ 64 := fun q hq => by
  rcases List.mem_or_eq_of_mem_set hq with h1 | rfl
  · exact h q h1
  · exact hD

theorem take_getDR {qs : List (List Int)} {k i : Nat} (h : i < k) : (qs.take k).getD i [] = qs.getD i [] := by simp [List.getD, h]
theorem hv_take {hs : Nat → Option Addr × Nat} {qs : List (List Int)} {k i : Nat} (h : i < k) : hv hs (qs.take k) i = hv hs qs i := by unfold hv; rw [take_getDR h]
theorem rowV_take (hs : Nat → Option Addr × Nat) {qs : List (List Int)} {k : Nat} (hk : k ≤ qs.length) : (rowV hs qs).take k = rowV hs (qs.take k) := by
  apply List.ext_getElem?
  intro i
  by_cases h : i < k
  · rw [List.getElem?_take, if_pos h, rowV_at (by omega), rowV_at (by rw [List.length_take]; omega), hv_take h]
  · rw [List.getElem?_take, if_neg h, List.getElem?_eq_none (by rw [rowV_len, List.length_take]; omega)]
theorem own_shortQ {w : World} {lo hi n k c g : Nat} {hs : Nat → Option Addr × Nat} {qs : List (List Int)} (h : OwnQ w lo hi (.slice (some ⟨g, 0, none⟩) n c) hs qs) (hn : qs.length = n) (hk : k ≤ n) : OwnQ w lo hi (.slice (some ⟨g, 0, none⟩) k c) hs (qs.take k) := by
  subst hn
  have hl : (qs.take k).length = k := by rw [List.length_take]; omega
  refine ⟨?_, fun i hi => ?_, fun i j hi hj hij => ?_, fun i hi => ?_, fun b e => h.top0 b e, fun i b hi e => ?_⟩
  · rw [hl, ← rowV_take hs hk]
    exact own_short h.outer hk
  · rw [hl] at hi
    rw [hv_take hi, take_getDR hi]
    exact h.inner i (by omega)
  · rw [hl] at hi hj
    rw [hv_take hi, hv_take hj]
    exact h.apart i j (by omega) (by omega) hij
  · rw [hl] at hi
    rw [hv_take hi]
    exact h.apart0 i (by omega)
  · rw [hl] at hi
    rw [hv_take hi] at e
    exact h.top i b (by omega) e

set_option maxRecDepth 100000 in
set_option maxHeartbeats 8000000 in
theorem drawBinding_any (g n c : Nat) (A : Option Addr) (code : List Int) (w : World) (h : Src w g A n c code) :
    Calls Tryd.prog 45 #[.pointer (some ⟨g, 0, none⟩)] w (DrawnBd w g A n c code) := by
  have hgw := h.lt
  have H := Lib.hid h
  clear h
  go_enter Tryd.func45, Tryd.ntmps45
  go_wp2_with (fail)
  refine (emptyBinding_any w).mono ?_
  rintro e w1 ⟨hs0, gq, cq, rfl, own1, bel1⟩
  have S1 := Lib.hid (H.out.below bel1 hgw)
  have G1 := Lib.hid (grown_below (World.grownBy.refl w (some g)) bel1)
  have hgq : w.heap.size ≤ gq := (own1.outer.lt gq rfl).1
  have O1 := Lib.hid own1
  clear own1 bel1
  go_wp2_with (fail)
  refine (pick_any g n c A code 16 w1 S1.out (by omega) (by omega)).mono ?_
  rintro e w2 ⟨fr, f1, f2, rfl, s2, g2⟩
  have S2 := Lib.hid s2; have G2 := Lib.hid (grown_trans G1.out g2)
  have O2 := Lib.hid ((O1.out.grown g2 hgw).more (Nat.le_refl _) g2.size)
  clear s2 g2 S1 G1 O1
  go_wp2_with (fail)
  go_loopw [5] (fun i wr => ∃ (k : Nat) (hs : Nat → Option Addr × Nat) (qs : List (List Int)), k ≤ 4 ∧ i = .int .i64 k ∧ qs.length = 8 ∧ OwnQ wr w.heap.size wr.heap.size (.slice (some ⟨gq, 0, none⟩) 8 cq) hs qs ∧ (∀ q ∈ qs, q.length ≤ 64) ∧ Src wr g A n c code ∧ w.grownBy wr (some g)) (fun i _ => 4 - (intOf i).toNat)
  case atStart => exact ⟨0, hs0, _, by omega, rfl, rfl, O2.out, fun q hq => by rw [(List.mem_replicate.1 hq).2]; exact Nat.zero_le _, S2.out, G2.out⟩
  case round =>
    obtain ⟨k, hs, qs, hk, rfl, hl, own, hsm, hsrc, hgr⟩ := hrel
    have HL := Lib.hid hl; have HO := Lib.hid own; have HSM := Lib.hid hsm; have HS := Lib.hid hsrc; have HG := Lib.hid hgr
    have hsz := hgr.size
    clear hl own hsm hsrc hgr
    by_cases hlt : k < 4
    · have hd : decide ((k : Int) < 4) = true := decide_eq_true (by omega)
      have hk8 : (k : Int) < 8 := by omega
      go_wp2_with (fail)
      refine (pick_any g n c A code 2 wr HS.out (by omega) (by omega)).mono ?_
      rintro e w3 ⟨r, r1, r2, rfl, s3, g3⟩
      have S3 := Lib.hid s3; have G3 := Lib.hid (grown_trans HG.out g3)
      have hs3 : w.heap.size ≤ w3.heap.size := Nat.le_trans hsz g3.size
      have O3 := Lib.hid ((HO.out.grown g3 hgw).more (Nat.le_refl _) g3.size)
      clear s3 g3
      by_cases hr : r = 0
      · have hr0 : (r == 0) = true := by rw [hr]; rfl
        clear hr
        go_wp2_with (fail)
        refine (pick_any g n c A code 4 w3 S3.out (by omega) (by omega)).mono ?_
        rintro e w4 ⟨t, t1, t2, rfl, s4, g4⟩
        have S4 := Lib.hid s4; have G4 := Lib.hid (grown_trans G3.out g4)
        have hs4 : w.heap.size ≤ w4.heap.size := Nat.le_trans hs3 g4.size
        have O4 := Lib.hid ((O3.out.grown g4 hgw).more (Nat.le_refl _) g4.size)
        have hwt : IntKind.i64.wrap (1 + t) = 1 + t := IntWalk.i64_in _ (by omega)
        obtain ⟨z, hz⟩ : ∃ z : Nat, (z : Int) = 1 + t := ⟨(1 + t).toNat, by omega⟩
        have HD := Lib.hid (drawForm_any g n c A code fr z w4 s4 (by omega) (by omega))
        rw [hz] at HD
        have hz4 : z ≤ 4 := by omega
        clear s4 g4 hz
        go_wp2_with (fail)
        refine HD.out.mono ?_
        rintro e w5 ⟨L, A5, c5, rfl, l1, l2, _, own5, s5, g5⟩
        have HF := Lib.hid (O4.out.draw HL.out (show k < 8 by omega) g5 hgw hs4 own5)
        obtain ⟨hf6, ho6⟩ := (O4.out.grown g5 hgw).at HL.out (show k < 8 by omega)
        obtain ⟨o, hoo⟩ : ∃ o, hv hs qs k = o := ⟨_, rfl⟩
        rw [hoo] at ho6
        have S5 := Lib.hid (s5.far (j := k) (u := .slice A5 L.length c5) (show g < gq by omega))
        have G5 := Lib.hid (grown_set (j := k) (u := .slice A5 L.length c5) (grown_trans G4.out g5) hgq)
        have HL5 : Hid ((qs.set k L).length = 8) := Lib.hid (by rw [List.length_set]; exact HL.out)
        have hL64 : L.length ≤ 64 := by omega
        clear own5 s5 g5 hoo
        go_wp2
        go_roundw
        case rel => exact ⟨k + 1, _, qs.set k L, by omega, by go_num, HL5.out, HF.out, set_small64 HSM.out hL64, S5.out, G5.out⟩
        case measure => simp [intOf]; omega
      · have hr0 : (r == 0) = false := by simpa using hr
        clear hr
        go_wp2
        go_roundw
        case rel => exact ⟨k + 1, hs, qs, by omega, by go_num, HL.out, O3.out, HSM.out, S3.out, G3.out⟩
        case measure => simp [intOf]; omega
    · have hk4 : k = 4 := by omega
      subst hk4
      go_wp2_with (fail)
      refine (pick_any g n c A code 16 wr HS.out (by omega) (by omega)).mono ?_
      rintro e w3 ⟨r, r1, r2, rfl, s3, g3⟩
      have S3 := Lib.hid s3; have G3 := Lib.hid (grown_trans HG.out g3)
      have hs3 : w.heap.size ≤ w3.heap.size := Nat.le_trans hsz g3.size
      have O3 := Lib.hid ((HO.out.grown g3 hgw).more (Nat.le_refl _) g3.size)
      have hcap : 8 ≤ cq := by
        have := O3.out.outer
        rw [HL.out] at this
        exact (own_cap this).1
      clear s3 g3
      by_cases hr0 : r = 0
      · have e0 : (r == 0) = true := by rw [hr0]; rfl
        have h7 : ¬ cq = 0 := by omega
        have h7c : 7 ≤ cq := by omega
        have OS := Lib.hid (own_shortQ O3.out HL.out (show 7 ≤ 8 by omega))
        have HL7 : Hid ((qs.take 7).length = 7) := Lib.hid (by rw [List.length_take, HL.out]; rfl)
        clear hr0
        go_wp2
        go_ret
        exact ⟨hs, gq, 7, cq, qs.take 7, rfl, by omega, HL7.out, OS.out, fun q hq => HSM.out q (List.mem_of_mem_take hq), S3.out, G3.out⟩
      · have e0 : (r == 0) = false := by simpa using hr0
        by_cases hr1 : r = 1
        · have e1 : (r == 1) = true := by rw [hr1]; rfl
          clear hr0 hr1
          go_wp2_with (fail)
          refine (pick_any g n c A code 8 w3 S3.out (by omega) (by omega)).mono ?_
          rintro e w4 ⟨t, t1, t2, rfl, s4, g4⟩
          obtain ⟨j, rfl⟩ : ∃ j : Nat, t = j := ⟨t.toNat, by omega⟩
          have hj8 : j < 8 := by omega
          have hj8' : (j : Int) < 8 := by omega
          have G4 := Lib.hid (grown_trans G3.out g4)
          have hs4 : w.heap.size ≤ w4.heap.size := Nat.le_trans hs3 g4.size
          have O4 := Lib.hid ((O3.out.grown g4 hgw).more (Nat.le_refl _) g4.size)
          have HD := Lib.hid (drawAny_any g n c A code w4 s4)
          clear s4 g4
          go_wp2_with (fail)
          refine HD.out.mono ?_
          rintro e w5 ⟨L, A5, c5, rfl, l2, _, own5, s5, g5⟩
          have HF := Lib.hid (O4.out.draw HL.out hj8 g5 hgw hs4 own5)
          obtain ⟨hf6, ho6⟩ := (O4.out.grown g5 hgw).at HL.out hj8
          obtain ⟨o, hoo⟩ : ∃ o, hv hs qs j = o := ⟨_, rfl⟩
          rw [hoo] at ho6
          have S5 := Lib.hid (s5.far (j := j) (u := .slice A5 L.length c5) (show g < gq by omega))
          have G5 := Lib.hid (grown_set (j := j) (u := .slice A5 L.length c5) (grown_trans G4.out g5) hgq)
          have HL5 : Hid ((qs.set j L).length = 8) := Lib.hid (by rw [List.length_set]; exact HL.out)
          clear own5 s5 g5 hoo
          go_wp2
          go_ret
          exact ⟨_, gq, 8, cq, qs.set j L, rfl, by omega, HL5.out, HF.out, set_small64 HSM.out l2, S5.out, G5.out⟩
        · have e1 : (r == 1) = false := by simpa using hr1
          clear hr0 hr1
          go_wp2
          go_ret
          exact ⟨hs, gq, 8, cq, qs, rfl, by omega, HL.out, O3.out, HSM.out, S3.out, G3.out⟩
end Go.Proofs.YtoniekjchabjlaaDoor
