/- SubformsOf of the model. -/
import Derived.Test.YtjmalgadpodmbaaDoorInsW
import Derived.Test.YtjmalgadpodmbaaDoorOpnd
namespace Go.Proofs.YtjmalgadpodmbaaDoor
open Go.ChangeShapes Go.WideShapes Go.ChangeAt Go.RowKit

theorem scan_less : ∀ (xs : List Int) (m n a : Int), 1 ≤ m → m ≤ n → 0 ≤ a → scan xs n a ≠ -1 → scan xs m a ≠ -1
  | [], _, _, _, _, _, _, h => absurd rfl h
  | x :: xs, m, n, a, h1, h2, h3, h => by
    rcases arZ_cases x with hx | hx
    · rw [scan_bad _ _ _ hx] at h; exact absurd rfl h
    · have hx0 : 0 ≤ arZ x := by omega
      by_cases hm : m + arZ x = 1
      · rw [scan_end _ _ _ hx0 hm]; omega
      · rw [scan_on _ _ _ hx0 hm]
        rw [scan_on _ _ _ hx0 (by omega)] at h
        exact scan_less xs _ _ _ (by omega) (by omega) (by omega) h
theorem scan_tail {f : List Int} (h : scan f 1 0 = f.length) : ∀ k : Nat, k < f.length → ∃ n : Int, 1 ≤ n ∧ scan (f.drop k) n k = f.length
  | 0, _ => ⟨1, by omega, by simpa using h⟩
  | k + 1, hk => by
    obtain ⟨n, hn, hs⟩ := scan_tail h k (by omega)
    rw [drop_cons (by omega)] at hs
    generalize f.getD k 0 = x at hs
    rcases arZ_cases x with hx | hx
    · rw [scan_bad _ _ _ hx] at hs; omega
    · have hx0 : 0 ≤ arZ x := by omega
      by_cases hm : n + arZ x = 1
      · rw [scan_end _ _ _ hx0 hm] at hs; omega
      · rw [scan_on _ _ _ hx0 hm] at hs
        exact ⟨n + arZ x - 1, by omega, by push_cast; exact hs⟩
/-- A formula begins at every symbol of a formula. -/
theorem fe_some {f : List Int} (hv : validB f = true) {k : Nat} (hk : k < f.length) : (k : Int) + 1 ≤ fe f k ∧ fe f k ≤ f.length := by
  have h0 := (valid_len hv).2.2
  have h0' : scan f 1 0 = f.length := by
    have := fe_nat (f := f) (a := 0) (by omega)
    rw [List.drop_zero] at this
    have e : ((0 : Nat) : Int) = 0 := rfl
    rw [e] at this
    rw [← this]; exact h0
  obtain ⟨n, hn, hs⟩ := scan_tail h0' k hk
  have h1 := scan_less (f.drop k) 1 n k (by omega) hn (by omega) (by omega)
  rw [← fe_nat hk] at h1
  rcases fe_bd f k with h | h
  · exact absurd h h1
  · exact ⟨h.2.1, h.2.2⟩
/-- The formula that begins at symbol k. -/
def partAt (f : List Int) (k : Nat) : List Int := (f.drop k).take ((fe f k).toNat - k)
theorem partAt_len {f : List Int} (hv : validB f = true) {k : Nat} (hk : k < f.length) : 0 < (partAt f k).length ∧ (partAt f k).length ≤ 24 := by
  have h1 := fe_some hv hk
  have h2 := valid_len hv
  unfold partAt
  rw [List.length_take, List.length_drop]
  omega
/-- All of them, in the order of their places. -/
def parts (f : List Int) : List (List Int) := (List.range f.length).map (partAt f)
/-- The first k of them, put in one by one. -/
def insK (f : List Int) (k : Nat) : List (List Int) := ((List.range k).map (partAt f)).foldl (fun l q => insL q l) []
theorem insK_step (f : List Int) (k : Nat) : insK f (k + 1) = insL (partAt f k) (insK f k) := by
  unfold insK
  rw [List.range_succ, List.map_append, List.foldl_append]
  rfl
theorem insK_sos (f : List Int) : ∀ k, SoS (insK f k)
  | 0 => by simp [insK, SoS]
  | k + 1 => by rw [insK_step]; exact insL_sos _ _ (insK_sos f k)
theorem insL_len (q : List Int) : ∀ xs : List (List Int), (insL q xs).length ≤ xs.length + 1
  | [] => by simp [insL]
  | x :: xs => by
    have ih := insL_len q xs
    unfold insL
    by_cases e : q = x
    · rw [if_pos e]; simp
    · rw [if_neg e]
      by_cases h : cmpL q x < 0
      · rw [if_pos h]; simp
      · rw [if_neg h]; simp; exact ih
theorem insK_len (f : List Int) : ∀ k, (insK f k).length ≤ k
  | 0 => by simp [insK]
  | k + 1 => by rw [insK_step]; have := insL_len (partAt f k) (insK f k); have := insK_len f k; omega
theorem insK_mem {f : List Int} (hv : validB f = true) : ∀ k, k ≤ f.length → ∀ x ∈ insK f k, 0 < x.length ∧ x.length ≤ 24
  | 0, _ => by simp [insK]
  | k + 1, hk => by
    rw [insK_step]
    intro x hx
    rcases (insL_mem _ _ _).1 hx with rfl | hx
    · exact partAt_len hv (by omega)
    · exact insK_mem hv k (by omega) x hx
/-- The subformulas. -/
def subL (f : List Int) : List (List Int) := if validB f = true then insK f f.length else []
theorem subL_no {f : List Int} (h : validB f = false) : subL f = [] := by unfold subL; rw [h]; rfl
theorem subL_yes {f : List Int} (h : validB f = true) : subL f = insK f f.length := by unfold subL; rw [if_pos h]
theorem subL_small (f : List Int) : (subL f).length ≤ 1048576 ∧ total (subL f) ≤ 1048576 := by
  cases hv : validB f with
  | false => rw [subL_no hv]; simp [total]
  | true =>
    rw [subL_yes hv]
    have h1 := insK_len f f.length
    have h2 := (valid_len hv).2.1
    have h3 := total_small (qs := insK f f.length) fun x hx => (insK_mem hv f.length (Nat.le_refl _) x hx).2
    omega

set_option maxRecDepth 100000 in
set_option maxHeartbeats 4000000 in
theorem sSubformsOf_any (A : Option Addr) (n c : Nat) (f : List Int) (w : World) (h : RdI w w.heap.size A n f) (hn : n ≤ 1048576) (hnc : n ≤ c) :
    Calls Tryd.prog 40 #[.slice A n c] w (GivesSS w (subL f)) := by
  have hl := h.len
  subst hl
  have hw0 := OwnQ.made w (fun _ => (none, 0))
  have hb0 : Below w.heap.size w (w.alloc (.cells #[] 44)) := (Below.refl _ _).alloc (Nat.le_refl _) _
  have H0 := Lib.hid hw0; have HB0 := Lib.hid hb0
  have HH := Lib.hid h
  clear hw0 hb0 h
  go_enter Tryd.func40, Tryd.ntmps40
  go_wp2
  generalize w.alloc (.cells #[] 44) = w1 at *
  go_loopw [3, 4] (fun o i wr => ∃ (k : Nat) (hs : Nat → Option Addr × Nat) (A2 : Option Addr) (c2 : Nat), k ≤ f.length ∧ i = .int .i64 k ∧ o = .slice A2 (insK f k).length c2 ∧ (validB f = false → k = 0) ∧
      OwnQ wr w.heap.size wr.heap.size (.slice A2 (insK f k).length c2) hs (insK f k) ∧ Below w.heap.size w wr) (fun _ i _ => f.length - (intOf i).toNat)
  case atStart => exact ⟨0, _, _, _, Nat.zero_le _, rfl, rfl, fun _ => rfl, H0.out, HB0.out⟩
  case round =>
    obtain ⟨k, hs, A2, c2, hk, rfl, rfl, hk0, hown, hb⟩ := hrel
    have HO := Lib.hid hown; have HB := Lib.hid hb
    have hrd := (HH.out.below hb).more hb.size
    have hV := sValidForm_any A f.length c f wr hrd
    clear hown hb
    by_cases hlt : k < f.length
    · cases hv : validB f with
      | false =>
        rw [hv] at hV
        have HV := Lib.hid hV
        obtain rfl := hk0 hv
        have HE := Lib.hid (subL_no hv)
        clear hV hrd hk0
        go_wp2_with (fail)
        refine HV.out.mono ?_
        rintro e w' ⟨rfl, rfl⟩
        go_wp2
        go_ret
        exact ⟨hs, A2, c2, ret_len (by rw [HE.out]; rfl), by rw [HE.out]; exact HO.out, HB.out⟩
      | true =>
        rw [hv] at hV
        have HV := Lib.hid hV
        have h1 := fe_some hv hlt
        have h24 := (valid_len hv).2.1
        have hFE := sformEnd_any A f.length c f k wr hrd hn
        have hpl := partAt_len hv hlt
        have HST := Lib.hid (insK_step f k)
        have HSO := Lib.hid (insK_sos f k)
        have HKL := Lib.hid (insK_len f k)
        have HKM := Lib.hid (insK_mem hv k (by omega))
        obtain ⟨b, off, rfl, hbb, hcells⟩ := hrd.2 (by omega)
        obtain ⟨E, hE⟩ : ∃ E : Nat, fe f k = E := ⟨(fe f k).toNat, by omega⟩
        rw [hE] at hFE h1
        have hPd : partAt f k = (f.drop k).take (E - k) := by unfold partAt; rw [hE, Int.toNat_natCast]
        have hP := part_cut (c := c - k) (lo := k) (hi := E) hbb hcells (by omega) (by omega)
        rw [← hPd] at hP
        have hPl : (partAt f k).length = E - k := by rw [hPd, List.length_take, List.length_drop]; omega
        have HC := Lib.hid (copyInts_any _ (partAt f k) wr hP (by omega))
        have HFE := Lib.hid hFE
        have hcS : ¬ c = k := by omega
        have hSE : k ≤ E := by omega
        have hEc : E ≤ c := by omega

        generalize partAt f k = q at *
        clear hV hFE hP hPd hPl hcells hrd hk0 hE hv
        go_wp2_with (fail)
        refine HV.out.mono ?_
        rintro e w' ⟨rfl, rfl⟩
        go_wp2_with (fail)
        refine HFE.out.mono ?_
        rintro e w' ⟨rfl, rfl⟩
        go_wp2_with (fail)
        refine HC.out.mono ?_
        rintro e w6 ⟨A6, c6, rfl, own6, bel6⟩
        have hlo : w.heap.size ≤ wr.heap.size := HB.out.size
        have HIN := Lib.hid (insertForm_any A2 A6 (insK f k).length c2 c6 w.heap.size wr.heap.size hs (insK f k) q w6 (HO.out.below bel6) rfl (by have := bel6.size; omega) bel6.size (own6.mono hlo) (fun b e => (own6.lt b e).1) HSO.out (by have := HKL.out; omega) (fun x hx => by have := HKM.out x hx; omega) (by omega))
        rw [← HST.out] at HIN
        have HB6 := Lib.hid (HB.out.trans (bel6.mono hlo))
        clear own6 bel6
        go_wp2_with (fail)
        refine HIN.out.mono ?_
        rintro e w7 ⟨hs7, A7, c7, rfl, own7, bel7⟩
        have HO7 := Lib.hid own7
        have HB7 := Lib.hid (HB6.out.trans (bel7.mono HB6.out.size))
        clear own7 bel7
        go_wp2
        go_roundw
        case rel => exact ⟨k + 1, hs7, A7, c7, by omega, by go_num, rfl, fun h => Bool.noConfusion h, HO7.out, HB7.out⟩
        case measure => simp [intOf]; omega
    · have hkl : k = f.length := by omega
      subst hkl
      have HE : Hid (insK f f.length = subL f) := Lib.hid (by
        cases hv : validB f with
        | true => rw [subL_yes hv]
        | false =>
          have := hk0 hv
          rw [subL_no hv, this]; rfl)
      clear hV hrd hk0
      go_wp2
      go_ret
      exact ⟨hs, A2, c2, ret_len (by rw [HE.out]), by rw [← HE.out]; exact HO.out, HB.out⟩
end Go.Proofs.YtjmalgadpodmbaaDoor
