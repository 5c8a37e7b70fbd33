/- ProofText of the program, whole. -/
import Derived.Test.YtjhagklpnpabeaaDoorProofL
namespace Go.Proofs.YtjhagklpnpabeaaDoor
open Go.ChangeAt Go.ChangeShapes Go.RowKit Go.WideShapes

set_option maxRecDepth 100000 in
set_option maxHeartbeats 4000000 in
theorem linesOf_any (A : Option Addr) (n c bl : Nat) (ss : List Stp) (w : World) (h : RdP w w.heap.size A n ss) (h40 : n ≤ 40) (hpl : ∀ m, m < ss.length → plP (ss.getD m Stp.nil) = true) (ht : Arit w) (hw : Words w)
    (hcl : w.cell? ⟨bl, 0, none⟩ = some (.slice A n c)) (hbl : bl < w.heap.size) :
    Calls Tryd.prog 49 #[.func (.func 50) #[] #[.pointer (some ⟨bl, 0, none⟩)]] w fun e w' => e = .returned (.string ⟨(lnsP ss).toArray⟩) ∧ Below w.heap.size w w' := by
  have hl := h.len
  obtain ⟨w1, hw1⟩ : ∃ w1, w1 = w.alloc (.cells #[Value.pointer none, Value.slice none 0 0] 119) := ⟨_, rfl⟩
  have hb1 := box_any w (.cells #[Value.pointer none, Value.slice none 0 0] 119)
  have p1 : (w.alloc (.cells #[Value.pointer none, Value.slice none 0 0] 119)).heap[w.heap.size]? = some (.cells #[Value.pointer none, Value.slice none 0 0] 119 (0, 0)) := heap_alloc_new _ _
  have hs1 : (w.alloc (.cells #[Value.pointer none, Value.slice none 0 0] 119)).heap.size = w.heap.size + 1 := by simp
  rw [← hw1] at hb1 p1 hs1
  have HLN := Lib.hid (lines_any A n c w.heap.size bl w.heap.size ss w1 (h.below hb1) h40 hpl (ht.below hb1 ht.lt) (hw.below hb1 hw.lt) ht.lt hw.lt ((hb1.cell (p := ⟨bl, 0, none⟩) hbl).trans hcl) p1 (Nat.le_refl _))
  have HB1 := Lib.hid hb1; have P1 := Lib.hid p1
  clear h ht hw hcl hb1 p1
  go_enter Tryd.func49, Tryd.ntmps49
  go_wp2_with (fail)
  rw [← hw1]
  clear hw1
  refine HLN.out.mono ?_
  rintro e w2 ⟨rfl, h0, hh, bel⟩
  have HB2 := Lib.hid (HB1.out.trans bel)
  by_cases hn : n = 0
  · have e1 := h0 hn
    subst e1
    have hss : ss = [] := List.eq_nil_of_length_eq_zero (by omega)
    have HE : Hid ((⟨#[]⟩ : ByteArray) = ⟨(lnsP ss).toArray⟩) := Lib.hid (by rw [hss]; rfl)
    have HS := Lib.hid (string_none P1.out)
    clear hh bel h0 HLN
    go_wp2_with (fail)
    refine HS.out.mono ?_
    rintro e w3 ⟨rfl, bel3⟩
    have HB3 := Lib.hid (HB2.out.trans (bel3.mono HB2.out.size))
    clear bel3
    go_wp2
    go_ret
    exact ⟨ret_str HE.out, HB3.out⟩
  · have hne : lnsP ss ≠ [] := by
      intro e
      cases hss : ss with
      | nil => rw [hss] at hl; simp at hl; omega
      | cons s r =>
        rw [hss] at e
        have := congrArg List.length e
        simp [lnsP, lnP] at this
    have HS := Lib.hid (string_some hh hne)
    clear hh bel h0 HLN
    go_wp2_with (fail)
    refine HS.out.mono ?_
    rintro e w3 ⟨rfl, bel3⟩
    have HB3 := Lib.hid (HB2.out.trans bel3)
    clear bel3
    go_wp2
    go_ret
    exact ⟨rfl, HB3.out⟩
theorem prT_badP {ss : List Stp} (h : badP ss = true) : prT ss = ⟨#[]⟩ := by
  unfold badP at h
  obtain ⟨s, hs, hp⟩ := List.any_eq_true.1 h
  have : ss.all plP = false := List.all_eq_false.2 ⟨s, hs, by simpa using hp⟩
  unfold prT
  rw [this, Bool.and_false]
  rfl
theorem plP_of {ss : List Stp} (h : badP ss = false) : ∀ m, m < ss.length → plP (ss.getD m Stp.nil) = true := by
  intro m hm
  cases hp : plP (ss.getD m Stp.nil) with
  | true => rfl
  | false => rw [badP_yes hm hp] at h; cases h

set_option maxRecDepth 100000 in
set_option maxHeartbeats 4000000 in
theorem proofText_impl (A : Option Addr) (n c : Nat) (ss : List Stp) (w : World) (h : RdP w w.heap.size A n ss) (hn : n ≤ 1048576) (ht : Arit w) (hw : Words w) :
    Calls Tryd.prog 19 #[.slice A n c] w fun e w' => e = .returned (.string (prT ss)) ∧ Below w.heap.size w w' := by
  have hl := h.len
  obtain ⟨w1, hw1⟩ : ∃ w1, w1 = w.alloc (.cells #[Value.slice A n c] 42) := ⟨_, rfl⟩
  have hb1 := box_any w (.cells #[Value.slice A n c] 42)
  have hc1 : (w.alloc (.cells #[Value.slice A n c] 42)).cell? ⟨w.heap.size, 0, none⟩ = some (.slice A n c) := by simp
  have hs1 : (w.alloc (.cells #[Value.slice A n c] 42)).heap.size = w.heap.size + 1 := by simp
  rw [← hw1] at hb1 hc1 hs1
  have h1 := (h.below hb1).more hb1.size
  by_cases h40 : n ≤ 40
  · have hd : decide ((40 : Int) < n) = false := decide_eq_false (by omega)
    have HCF := Lib.hid (containsFunc_any A n c ss w1 h1 hn (ht.below hb1 ht.lt))
    have HB1 := Lib.hid hb1
    have H := Lib.hid h; have HT := Lib.hid ht; have HW := Lib.hid hw
    clear h ht hw hb1 h1
    cases hb : badP ss with
    | true =>
      rw [hb] at HCF
      have HE : Hid ((⟨#[]⟩ : ByteArray) = prT ss) := Lib.hid (prT_badP hb).symm
      go_enter Tryd.func19, Tryd.ntmps19
      go_wp2_with (fail)
      rw [← hw1]
      clear hw1
      refine HCF.out.mono ?_
      rintro e w2 ⟨rfl, bel⟩
      have HB2 := Lib.hid (HB1.out.trans (bel.mono HB1.out.size))
      clear bel
      go_wp2
      go_ret
      exact ⟨ret_str HE.out, HB2.out⟩
    | false =>
      rw [hb] at HCF
      have hpl := plP_of hb
      have HE : Hid ((⟨(lnsP ss).toArray⟩ : ByteArray) = prT ss) := Lib.hid (prT_all hpl (by omega)).symm
      have HPL := Lib.hid hpl
      clear hpl
      go_enter Tryd.func19, Tryd.ntmps19
      go_wp2_with (fail)
      rw [← hw1]
      clear hw1
      refine HCF.out.mono ?_
      rintro e w2 ⟨rfl, bel⟩
      have HB2 := Lib.hid (HB1.out.trans (bel.mono HB1.out.size))
      have hc2 := (bel.cell (p := ⟨w.heap.size, 0, none⟩) (by show w.heap.size < _; omega)).trans hc1
      have hs2 := bel.size
      clear bel hc1
      have HLO := Lib.hid (linesOf_any A n c w.heap.size ss w2 ((H.out.below HB2.out).more HB2.out.size) h40 HPL.out (HT.out.below HB2.out HT.out.lt) (HW.out.below HB2.out HW.out.lt) hc2 (by omega))
      go_wp2_with (fail)
      refine HLO.out.mono ?_
      rintro e w3 ⟨rfl, bel⟩
      have HB3 := Lib.hid (HB2.out.trans (bel.mono HB2.out.size))
      clear bel
      go_wp2
      go_ret
      exact ⟨ret_str HE.out, HB3.out⟩
  · have hd : decide ((40 : Int) < n) = true := decide_eq_true (by omega)
    have HE : Hid ((⟨#[]⟩ : ByteArray) = prT ss) := Lib.hid (prT_bad (k := 0) (by omega) (.inr (by omega))).symm
    have HB1 := Lib.hid hb1
    clear h ht hw hb1 h1
    go_enter Tryd.func19, Tryd.ntmps19
    go_wp2
    go_ret
    rw [← hw1]
    exact ⟨ret_str HE.out, HB1.out⟩
end Go.Proofs.YtjhagklpnpabeaaDoor
