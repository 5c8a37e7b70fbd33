/- SubformsOf of the program, given what slices.CompactFunc does. -/
import Derived.Test.YtdgejhlpncnenaaDoorSrt
import Derived.Test.YtdgejhlpncnenaaDoorComp
import Derived.Test.YtdgejhlpncnenaaDoorSubS
import Derived.Test.YtdgejhlpncnenaaDoorClone
import Derived.Test.YtdgejhlpncnenaaDoorValid
namespace Go.Proofs.YtdgejhlpncnenaaDoor
open Go.ChangeShapes Go.WideShapes Go.ChangeAt Go.RowKit

/-- What slices.CompactFunc is to do at a row of parts in memory of one's own. -/
def CompactOk : Prop := ∀ (w : World) (lo hi n c g : Nat) (hs : Nat → Option Addr × Nat) (qs : List (List Int)), OwnQ w lo hi (.slice (some ⟨g, 0, none⟩) n c) hs qs → qs.length = n → n ≤ 1000 → n ≤ c → (∀ q ∈ qs, q.length ≤ 1000) →
  Calls Tryd.prog 40 #[.slice (some ⟨g, 0, none⟩) n c, .func (.func 41) #[] #[]] w fun e w' => ∃ hs', e = .returned (.slice (some ⟨g, 0, none⟩) (cmpctL qs).length c) ∧
    OwnQ w' lo hi (.slice (some ⟨g, 0, none⟩) (cmpctL qs).length c) hs' (cmpctL qs) ∧ Below lo w w'
theorem parts_len (f : List Int) : (parts f).length = f.length := by simp [parts]
theorem parts_at {f : List Int} {k : Nat} (h : k < f.length) : (parts f).getD k [] = partAt f k := by simp [parts, List.getD, h]
theorem parts_mem {f : List Int} (hv : validB f = true) : ∀ q ∈ parts f, q.length ≤ 24 := by
  intro q hq
  obtain ⟨k, hk, rfl⟩ := List.mem_map.1 hq
  exact (partAt_len hv (List.mem_range.1 hk)).2
theorem selQ_all (qs : List (List Int)) : selQ qs (List.range qs.length) = qs := by
  apply List.ext_getElem?
  intro j
  by_cases hj : j < qs.length
  · simp [selQ, List.getD, hj]
  · simp [selQ, hj]
theorem selQ_perm {qs : List (List Int)} {sel : List Nat} (h : sel.Perm (List.range qs.length)) : (selQ qs sel).Perm qs := by
  have := h.map (fun i => qs.getD i [])
  rw [show (List.range qs.length).map (fun i => qs.getD i []) = qs from selQ_all qs] at this
  exact this
theorem selQ_mem {qs : List (List Int)} {sel : List Nat} (h : sel.Perm (List.range qs.length)) {q : List Int} (hq : q ∈ selQ qs sel) : q ∈ qs := (selQ_perm h).mem_iff.1 hq
theorem sub_sorted {f : List Int} (hv : validB f = true) {sel : List Nat} (h : sel.Perm (List.range (parts f).length)) (hs : SoL (selQ (parts f) sel)) : cmpctL (selQ (parts f) sel) = subL f := by
  rw [subL_yes hv, sub_same (selQ_perm h) hs]; rfl

theorem subforms_no (A : Option Addr) (c : Nat) (f : List Int) (w : World) (h : RdI w w.heap.size A f.length f) (ht : Arit w) (hnc : f.length ≤ c) (hv : validB f = false) :
    Calls Tryd.prog 10 #[.slice A f.length c] w (GivesSS w (subL f)) := by
  have HV : Hid _ := Lib.hid (hv ▸ validForm_impl A f.length c f w h ht hnc)
  have HE := Lib.hid (subL_no hv)
  clear h ht
  go_enter Tryd.func10, Tryd.ntmps10
  go_wp2_with (go_at_call 35; refine HV.out.mono ?_; rintro e w' ⟨rfl, rfl⟩)
  go_ret
  rw [HE.out]
  exact ⟨fun _ => (none, 0), none, 0, rfl, OwnQ.nil _ _ _ _, Below.refl _ _⟩

set_option maxHeartbeats 4000000 in
theorem subforms_yes (hC : CompactOk) (A : Option Addr) (c : Nat) (f : List Int) (w : World) (h : RdI w w.heap.size A f.length f) (ht : Arit w) (hnc : f.length ≤ c) (hv : validB f = true) :
    Calls Tryd.prog 10 #[.slice A f.length c] w (GivesSS w (subL f)) := by
  have HV : Hid _ := Lib.hid (hv ▸ validForm_impl A f.length c f w h ht hnc)
  obtain ⟨i0, hi0, hz0, hz1, hz2⟩ := info_parts_s
  have h24 : f.length ≤ 24 := (valid_len hv).2.1
  have HC := Lib.hid hC; have HR := Lib.hid h; have HTA := Lib.hid ht; have HVB := Lib.hid hv
  have HPL := Lib.hid (parts_len f)
  clear h ht hC hv
  go_enter Tryd.func10, Tryd.ntmps10
  have b2 : i0.bytes * f.length ≤ 281474976710656 := by rw [hz2]; omega
  have b3 : f.length ≤ maxLen := by unfold maxLen; omega
  go_wp2_with (first | (go_at_call 35; refine HV.out.mono ?_; rintro e w' ⟨rfl, rfl⟩) | (at_make; refine wpList_make_full _ rfl _ _ _ rfl _ 24 i0 (.slice none 0 0) 1 Tryd.underlying26 hi0 hz0 hz1 _ _ _ _ f.length rfl rfl rfl rfl b2 b3 (Nat.le_refl _) ?_; intro w1 hown hg))
  have hbel : Below w.heap.size w w1 := (Below.refl _ _).grown hg (Nat.le_refl _) (by intro k hk; cases hk)
  have hown0 : w1.ownsRow w.heap.size 24 1 (.slice (some ⟨w.heap.size, 0, none⟩) f.length f.length) f.length (List.replicate f.length (.slice none 0 0)) := by
    rw [← toList_madeCells_one]; simpa [Value.cells] using hown
  have hlt1 : w.heap.size < w1.heap.size := (hown0.lt _ rfl).2
  have hown1 : OwnQ w1 w.heap.size w1.heap.size (.slice (some ⟨w.heap.size, 0, none⟩) f.length f.length) (fun _ => (none, 0)) (cpq (parts f) 0) := by
    rw [← cpq_zero, HPL.out]; exact OwnQ.fresh hown0 _ (fun _ => rfl) _ hlt1
  have HO1 := Lib.hid hown1; have HB1 := Lib.hid hbel
  clear hg hown hown0 hlt1 b2 b3 hi0 hz0 hz1 hz2 hown1 hbel
  obtain ⟨g, hgd⟩ : ∃ g, w.heap.size = g := ⟨_, rfl⟩
  have HGD := Lib.hid hgd
  simp only [hgd]
  clear hgd
  go_loopw [4, 13] (fun _ i wr => ∃ k : Nat, k ≤ f.length ∧ i = .int .i64 k ∧ ∃ hs, OwnQ wr w.heap.size wr.heap.size (.slice (some ⟨g, 0, none⟩) f.length f.length) hs (cpq (parts f) k) ∧ Below w.heap.size w wr)
    (fun _ i _ => f.length - (intOf i).toNat)
  case atStart => exact ⟨0, Nat.zero_le _, rfl, _, by have := HO1.out; rw [HGD.out] at this ⊢; exact this, HB1.out⟩
  case round =>
    obtain ⟨k, hk, rfl, hs, hown, hb⟩ := hrel
    by_cases hlt : k < f.length
    · have hrd := (HR.out.below hb).more hb.size
      have hta := HTA.out.below hb HTA.out.lt
      have h1 := fe_some HVB.out hlt
      have hFE := formEnd_impl A f.length c f k wr hrd hta hnc
      have hpl := partAt_len HVB.out hlt
      obtain ⟨b, off, rfl, hbb, hcells⟩ := hrd.2 (by omega)
      obtain ⟨E, hE⟩ : ∃ E : Nat, fe f k = E := ⟨(fe f k).toNat, by omega⟩
      rw [feI_small h24, hE] at hFE
      rw [hE] at h1
      have hPd : partAt f k = (f.drop k).take (E - k) := by unfold partAt; rw [hE, Int.toNat_natCast]
      have hP := part_cut (c := c - k) (lo := k) (hi := E) hbb hcells (by omega) (by omega)
      rw [← hPd] at hP
      have hCL := clone_any _ (partAt f k) wr hP (by omega)
      have HFE := Lib.hid hFE; have HCL := Lib.hid hCL
      have hcS : ¬ c = k := by omega
      have hSE : k ≤ E := by omega
      have hEc : E ≤ c := by omega
      have hl2 := (cpq_len (qs := parts f) (k := k) (by rw [HPL.out]; omega)).trans HPL.out
      have hst := cpq_step (qs := parts f) (k := k) (by rw [HPL.out]; exact hlt)
      rw [parts_at hlt] at hst
      have HSTEP := Lib.hid hst
      have hgg : g < wr.heap.size := hown.top0 _ rfl
      have HO := Lib.hid hown; have HB := Lib.hid hb; have HL2 := Lib.hid hl2
      generalize partAt f k = q at *
      clear hst hown hb hl2 hrd hta hFE hCL hP hPd hE hcells hpl
      go_wp2_with (fail)
      refine HFE.out.mono ?_
      rintro e w' ⟨rfl, rfl⟩
      go_wp2_with (fail)
      refine HCL.out.mono ?_
      rintro e w3 ⟨A3, c3, rfl, own3, bel3⟩
      obtain ⟨hF, hFb⟩ := HO.out.fill HL2.out hlt rfl HB.out own3 bel3
      rw [HSTEP.out] at hF
      have hO2 := HO.out.below bel3
      obtain ⟨hf, ho⟩ := hO2.at HL2.out hlt
      obtain ⟨o, hoo⟩ : ∃ o, hv hs (cpq (parts f) k) k = o := ⟨_, rfl⟩
      rw [hoo] at ho
      have HF := Lib.hid hF; have HFB := Lib.hid hFb
      clear hF hFb hoo hO2 own3 bel3
      go_wp2
      go_roundw
      case rel => exact ⟨k + 1, by omega, by go_num, _, HF.out, HFB.out⟩
      case measure => simp [intOf]; omega
    · have hkl : k = f.length := by omega
      subst hkl
      rw [← HPL.out, cpq_all, HPL.out] at hown
      have HS := Lib.hid (sortQ_any hown HPL.out (by omega) (fun q hq => by have := parts_mem HVB.out q hq; omega))
      have HB := Lib.hid hb
      clear hown hb
      go_wp2_with (fail)
      refine HS.out.mono ?_
      rintro e w2 ⟨rfl, sel, hp, hso, own2, bel2⟩
      rw [← HPL.out] at hp
      have hE := sub_sorted HVB.out hp hso
      have hsl : (selQ (parts f) sel).length = f.length := by rw [(selQ_perm hp).length_eq]; exact HPL.out
      have hcc := HC.out w2 _ _ _ _ _ _ _ own2 hsl (by omega) (Nat.le_refl _) (fun q hq => by have := parts_mem HVB.out q (selQ_mem hp hq); omega)
      rw [hE] at hcc
      have hz2 := bel2.size
      have HCC := Lib.hid hcc; have HB2 := Lib.hid (HB.out.trans bel2)
      clear own2 bel2 hcc hE hp hso hsl
      go_wp2_with (fail)
      refine HCC.out.mono ?_
      rintro e w4 ⟨hs4, rfl, own4, bel4⟩
      have hz4 := bel4.size
      have HO4 := Lib.hid own4; have HB4 := Lib.hid (HB2.out.trans bel4)
      clear own4 bel4
      go_wp2
      go_ret
      exact ⟨hs4, some ⟨g, 0, none⟩, f.length, rfl, HO4.out.more (Nat.le_refl _) (by omega), HB4.out⟩
end Go.Proofs.YtdgejhlpncnenaaDoor
