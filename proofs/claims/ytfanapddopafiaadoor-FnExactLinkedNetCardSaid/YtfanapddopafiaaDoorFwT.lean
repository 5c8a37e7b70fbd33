/- The program's formsWithin: the formulas that begin at the symbols of a formula. -/
import Derived.Test.YtfanapddopafiaaDoorQPgJ
import Derived.Test.YtfanapddopafiaaDoorDepth
namespace Go.Proofs.YtfanapddopafiaaDoor
set_option linter.unusedSimpArgs false
set_option linter.unusedVariables false
open Go.ChangeShapes Go.WideShapes Go.ChangeAt Go.RowKit

theorem scan_less : ∀ (xs : List Int) (m n a : Int), 1 ≤ m → m ≤ n → 0 ≤ a → scan xs n a ≠ -1 → scan xs m a ≠ -1
  | [], _, _, _, _, _, _, h => absurd rfl h
  | x :: xs, m, n, a, h1, h2, h3, h => by
    rcases arZ_cases x with hx | hx
    · rw [scan_bad _ _ _ hx] at h; exact absurd rfl h
    · have hx0 : 0 ≤ arZ x := by omega
      by_cases hm : m + arZ x = 1
      · rw [scan_end _ _ _ hx0 hm]; omega
      · rw [scan_on _ _ _ hx0 hm]
        rw [scan_on _ _ _ hx0 (by omega)] at h
        exact scan_less xs _ _ _ (by omega) (by omega) (by omega) h
theorem scan_tail {f : List Int} (h : scan f 1 0 = f.length) : ∀ k : Nat, k < f.length → ∃ n : Int, 1 ≤ n ∧ scan (f.drop k) n k = f.length
  | 0, _ => ⟨1, by omega, by simpa using h⟩
  | k + 1, hk => by
    obtain ⟨n, hn, hs⟩ := scan_tail h k (by omega)
    rw [drop_cons (by omega)] at hs
    generalize f.getD k 0 = x at hs
    rcases arZ_cases x with hx | hx
    · rw [scan_bad _ _ _ hx] at hs; omega
    · have hx0 : 0 ≤ arZ x := by omega
      by_cases hm : n + arZ x = 1
      · rw [scan_end _ _ _ hx0 hm] at hs; omega
      · rw [scan_on _ _ _ hx0 hm] at hs
        exact ⟨n + arZ x - 1, by omega, by push_cast; exact hs⟩
/-- A formula begins at every symbol of a formula. -/
theorem fe_some {f : List Int} (hv : validB f = true) {k : Nat} (hk : k < f.length) : (k : Int) + 1 ≤ fe f k ∧ fe f k ≤ f.length := by
  have h0 := (valid_len hv).2.2
  have h0' : scan f 1 0 = f.length := by
    have := fe_nat (f := f) (a := 0) (by omega)
    rw [List.drop_zero] at this
    have e : ((0 : Nat) : Int) = 0 := rfl
    rw [e] at this
    rw [← this]; exact h0
  obtain ⟨n, hn, hs⟩ := scan_tail h0' k hk
  have h1 := scan_less (f.drop k) 1 n k (by omega) hn (by omega) (by omega)
  rw [← fe_nat hk] at h1
  rcases fe_bd f k with h | h
  · exact absurd h h1
  · exact ⟨h.2.1, h.2.2⟩
/-- The formula that begins at symbol k. -/
def partAt (f : List Int) (k : Nat) : List Int := (f.drop k).take ((fe f k).toNat - k)
theorem partAt_len {f : List Int} (hv : validB f = true) {k : Nat} (hk : k < f.length) : 0 < (partAt f k).length ∧ (partAt f k).length ≤ 24 := by
  have h1 := fe_some hv hk
  have h2 := valid_len hv
  unfold partAt
  rw [List.length_take, List.length_drop]
  omega
/-- All of them, in the order of their places. -/
def parts (f : List Int) : List (List Int) := (List.range f.length).map (partAt f)
theorem parts_len (f : List Int) : (parts f).length = f.length := by simp [parts]
theorem parts_at {f : List Int} {k : Nat} (h : k < f.length) : (parts f).getD k [] = partAt f k := by simp [parts, List.getD, h]
theorem parts_mem {f : List Int} (hv : validB f = true) : ∀ q ∈ parts f, q.length ≤ 24 := by
  intro q hq
  obtain ⟨k, hk, rfl⟩ := List.mem_map.1 hq
  exact (partAt_len hv (List.mem_range.1 hk)).2
set_option maxHeartbeats 4000000 in
theorem formsWithin_any (A : Option Addr) (c : Nat) (f : List Int) (w : World) (h : RdI w w.heap.size A f.length f) (ht : Arit w) (hnc : f.length ≤ c) (hv : validB f = true) :
    Calls Tryd.prog 60 #[.slice A f.length c] w fun e w' => ∃ g hs, e = .returned (.slice (some ⟨g, 0, none⟩) f.length f.length) ∧ OwnQ w' w.heap.size w'.heap.size (.slice (some ⟨g, 0, none⟩) f.length f.length) hs (parts f) ∧ Below w.heap.size w w' := by
  obtain ⟨i0, hi0, hz0, hz1, hz2⟩ := info_parts_s
  have h24 : f.length ≤ 24 := (valid_len hv).2.1
  have HR := Lib.hid h; have HTA := Lib.hid ht; have HVB := Lib.hid hv
  have HPL := Lib.hid (parts_len f)
  clear h ht hv
  go_enter Tryd.func60, Tryd.ntmps60
  have b2 : i0.bytes * f.length ≤ 281474976710656 := by rw [hz2]; omega
  have b3 : f.length ≤ maxLen := by unfold maxLen; omega
  go_wp2_with (at_make; refine wpList_make_full _ rfl _ _ _ rfl _ 24 i0 (.slice none 0 0) 1 Tryd.underlying22 hi0 hz0 hz1 _ _ _ _ f.length rfl rfl rfl rfl b2 b3 (Nat.le_refl _) ?_; intro w1 hown hg)
  have hbel : Below w.heap.size w w1 := (Below.refl _ _).grown hg (Nat.le_refl _) (by intro k hk; cases hk)
  have hown0 : w1.ownsRow w.heap.size 24 1 (.slice (some ⟨w.heap.size, 0, none⟩) f.length f.length) f.length (List.replicate f.length (.slice none 0 0)) := by
    rw [← toList_madeCells_one]; simpa [Value.cells] using hown
  have hlt1 : w.heap.size < w1.heap.size := (hown0.lt _ rfl).2
  have hown1 : OwnQ w1 w.heap.size w1.heap.size (.slice (some ⟨w.heap.size, 0, none⟩) f.length f.length) (fun _ => (none, 0)) (cpq (parts f) 0) := by
    rw [← cpq_zero, HPL.out]; exact OwnQ.fresh hown0 _ (fun _ => rfl) _ hlt1
  have HO1 := Lib.hid hown1; have HB1 := Lib.hid hbel
  clear hg hown hown0 hlt1 b2 b3 hi0 hz0 hz1 hz2 hown1 hbel
  obtain ⟨g, hgd⟩ : ∃ g, w.heap.size = g := ⟨_, rfl⟩
  have HGD := Lib.hid hgd
  simp only [hgd]
  clear hgd
  go_loopw [10] (fun i wr => ∃ k : Nat, k ≤ f.length ∧ i = .int .i64 k ∧ ∃ hs, OwnQ wr w.heap.size wr.heap.size (.slice (some ⟨g, 0, none⟩) f.length f.length) hs (cpq (parts f) k) ∧ Below w.heap.size w wr)
    (fun i _ => f.length - (intOf i).toNat)
  case atStart => exact ⟨0, Nat.zero_le _, rfl, _, by have := HO1.out; rw [HGD.out] at this ⊢; exact this, HB1.out⟩
  case round =>
    obtain ⟨k, hk, rfl, hs, hown, hb⟩ := hrel
    by_cases hlt : k < f.length
    · have hrd := (HR.out.below hb).more hb.size
      have hta := HTA.out.below hb HTA.out.lt
      have h1 := fe_some HVB.out hlt
      have hFE := formEnd_impl A f.length c f k wr hrd hta hnc
      have hpl := partAt_len HVB.out hlt
      obtain ⟨b, off, rfl, hbb, hcells⟩ := hrd.2 (by omega)
      obtain ⟨E, hE⟩ : ∃ E : Nat, fe f k = E := ⟨(fe f k).toNat, by omega⟩
      rw [feI_small h24, hE] at hFE
      rw [hE] at h1
      have hPd : partAt f k = (f.drop k).take (E - k) := by unfold partAt; rw [hE, Int.toNat_natCast]
      have hP := part_cut (c := c - k) (lo := k) (hi := E) hbb hcells (by omega) (by omega)
      rw [← hPd] at hP
      have hCL := clone_any _ (partAt f k) wr hP (by omega)
      have HFE := Lib.hid hFE; have HCL := Lib.hid hCL
      have hcS : ¬ c = k := by omega
      have hSE : k ≤ E := by omega
      have hEc : E ≤ c := by omega
      have hl2 := (cpq_len (qs := parts f) (k := k) (by rw [HPL.out]; omega)).trans HPL.out
      have hst := cpq_step (qs := parts f) (k := k) (by rw [HPL.out]; exact hlt)
      rw [parts_at hlt] at hst
      have HSTEP := Lib.hid hst
      have hgg : g < wr.heap.size := hown.top0 _ rfl
      have HO := Lib.hid hown; have HB := Lib.hid hb; have HL2 := Lib.hid hl2
      generalize partAt f k = q at *
      clear hst hown hb hl2 hrd hta hFE hCL hP hPd hE hcells hpl
      go_wp2_with (fail)
      refine HFE.out.mono ?_
      rintro e w' ⟨rfl, rfl⟩
      go_wp2_with (fail)
      refine HCL.out.mono ?_
      rintro e w3 ⟨A3, c3, rfl, own3, bel3⟩
      obtain ⟨hF, hFb⟩ := HO.out.fill HL2.out hlt rfl HB.out own3 bel3
      rw [HSTEP.out] at hF
      have hO2 := HO.out.below bel3
      obtain ⟨hf, ho⟩ := hO2.at HL2.out hlt
      obtain ⟨o, hoo⟩ : ∃ o, hv hs (cpq (parts f) k) k = o := ⟨_, rfl⟩
      rw [hoo] at ho
      have HF := Lib.hid hF; have HFB := Lib.hid hFb
      clear hF hFb hoo hO2 own3 bel3
      go_wp2
      go_roundw
      case rel => exact ⟨k + 1, by omega, by go_num, _, HF.out, HFB.out⟩
      case measure => simp [intOf]; omega
    · have hkl : k = f.length := by omega
      subst hkl
      rw [← HPL.out, cpq_all, HPL.out] at hown
      have HOW := Lib.hid hown; have HB := Lib.hid hb
      clear hown hb
      go_wp2
      go_ret
      exact ⟨g, hs, rfl, HOW.out, HB.out⟩

end Go.Proofs.YtfanapddopafiaaDoor
