/- The model: is an input chosen by a switching? -/
import Derived.Test.YtlcapifgpcimpaaDoorSmF
import Derived.Deep.RegionHeldLaw
import Derived.Deep.DeepCutAuto
import Derived.BigQuiet
namespace Go.Proofs.YtlcapifgpcimpaaDoor
set_option linter.unusedSimpArgs false
set_option linter.unusedVariables false
open Go.ChangeAt Go.ChangeShapes Go.RowKit Go.WideShapes

theorem prk_find {L : List Int} {k : Int} {i : Nat} (hi : i < L.length) (hno : ∀ j, j < i → (L.getD j 0 == k) = false) (he : (L.getD i 0 == k) = true) : L.findIdx? (fun p => p == k) = some i := by
  rw [List.findIdx?_eq_some_iff_getElem]
  refine ⟨hi, by simpa [List.getD, hi] using he, fun j hj => ?_⟩
  have := hno j hj
  have hj2 : j < L.length := by omega
  simpa [List.getD, hj2] using this
theorem cho_at {N : Nt} {s : List Int} {k x : Int} {i : Nat} (hi : i < (prkN N).length) (hno : ∀ j, j < i → ((prkN N).getD j 0 == k) = false) (he : ((prkN N).getD i 0 == k) = true) :
    choB N s k x = ((decide (s.getD i 0 = 0) && decide ((N.l.getD k.toNat Lk.nil).a = x)) || (decide (s.getD i 0 = 1) && decide ((N.l.getD k.toNat Lk.nil).b = x))) := by
  unfold choB; rw [prk_find hi hno he]
theorem cho_none {N : Nt} {s : List Int} {k x : Int} (hno : ∀ j, j < (prkN N).length → ((prkN N).getD j 0 == k) = false) : choB N s k x = true := by
  have e : (prkN N).findIdx? (fun p => p == k) = none := by
    rw [List.findIdx?_eq_none_iff]
    intro l hl
    obtain ⟨j, hj, rfl⟩ := List.getElem_of_mem hl
    have := hno j hj
    simpa [List.getD, hj] using this
  unfold choB; rw [e]
theorem all_stepC {p : Nat → Prop} {k : Nat} (h : ∀ j, j < k → p j) (hk : p k) : ∀ j, j < k + 1 → p j := fun j hj => by
  by_cases e : j < k
  · exact h j e
  · obtain rfl : j = k := by omega
    exact hk
set_option maxRecDepth 100000 in
set_option maxHeartbeats 1000000 in
theorem sChosen_any (h : NH) (N : Nt) (s : List Int) (S : Option Addr) (sc : Nat) (kk : Nat) (x : Int) (w : World) (hsw : isSw N s = true) (hkk : kk < N.l.length) (r : RdN w w.heap.size h N) (rS : RdI w w.heap.size S s.length s) :
    Calls Tryd.prog 108 #[.agg #[.slice h.A N.w.length h.c, .slice h.L N.l.length h.d, .slice h.C N.c.length h.e], .slice S s.length sc, .int .i64 kk, .int .i64 x] w fun e w' => e = .returned (.bool (choB N s kk x)) ∧ Below w.heap.size w w' := by
  obtain ⟨hvt, hsl, hs01⟩ := isSw_yes hsw
  obtain ⟨h48, h48l⟩ := valN_size hvt
  have hpl := prkN_len N
  obtain ⟨w0, hw0⟩ : ∃ w0, w0 = w.alloc (.cells #[.slice h.A N.w.length h.c, .slice h.L N.l.length h.d, .slice h.C N.c.length h.e] 35) := ⟨_, rfl⟩
  obtain ⟨hb, hh, hsz⟩ := box3_any w (.slice h.A N.w.length h.c) (.slice h.L N.l.length h.d) (.slice h.C N.c.length h.e) 35
  rw [← hw0] at hb hh hsz
  have hs0 : w.heap.size + 1 ≤ w0.heap.size := by omega
  have HK : Hid (∀ w', Below w0.heap.size w0 w' → w'.cell? ⟨w.heap.size, 0, none⟩ = some (.slice h.A N.w.length h.c) ∧ w'.cell? ⟨w.heap.size, 1, none⟩ = some (.slice h.L N.l.length h.d) ∧ w'.cell? ⟨w.heap.size, 2, none⟩ = some (.slice h.C N.c.length h.e)) := Lib.hid fun w' hw => three_cells ((hw.block _ (by omega)).trans hh)
  have HP := Lib.hid (fun (w' : World) (hw : Below w0.heap.size w0 w') => sPars_any h N w' ((r.below (hb.trans (hw.mono hb.size))).more (Nat.le_trans hb.size hw.size)) (by omega))
  have HR := Lib.hid (fun (w' : World) (hw : Below w0.heap.size w0 w') => ((r.below (hb.trans (hw.mono hb.size))).more (Nat.le_trans hb.size hw.size)))
  have HRS := Lib.hid (fun (w' : World) (hw : Below w0.heap.size w0 w') => show RdI w' w'.heap.size S s.length s from ((rS.below (hb.trans (hw.mono hb.size))).more (Nat.le_trans hb.size hw.size)))
  have HB0 := Lib.hid hb
  have HSL := Lib.hid hsl; have HS01 := Lib.hid hs01
  obtain ⟨y0, y1, y2⟩ := three_cells hh
  clear hb hh hsz r rS hvt hsw hsl hs01
  go_enter Tryd.func108, Tryd.ntmps108
  go_wp2_with (fail)
  rw [← hw0]
  clear hw0
  refine (HP.out _ (Below.refl _ _)).mono ?_
  rintro e w1 ⟨A1, c1, rfl, own1, bel1⟩
  have B1 := Lib.hid bel1
  have R1 := Lib.hid (RdI.of_own own1)
  clear own1 bel1 y0 y1 y2 HP
  go_wp2
  go_loopw [10] (fun i wx => ∃ k : Nat, k ≤ (prkN N).length ∧ i = .int .i64 k ∧ (∀ j, j < k → ((prkN N).getD j 0 == (kk : Int)) = false) ∧ Below w1.heap.size w1 wx) (fun i _ => (prkN N).length - (intOf i).toNat)
  case atStart => exact ⟨0, Nat.zero_le _, rfl, fun j hj => absurd hj (by omega), Below.refl _ _⟩
  case round =>
    obtain ⟨k, hk, rfl, hno, hB⟩ := hrel
    have HB := Lib.hid hB
    have HN := Lib.hid hno
    have hB01 := B1.out.trans (hB.mono B1.out.size)
    clear hno
    by_cases hlt : k < (prkN N).length
    · obtain ⟨bp, op, hAp, hbp, hcp⟩ := ((R1.out.below hB).more hB.size).2 (by omega)
      obtain ⟨bs, os, hAs, hbs, hcs⟩ := (HRS.out _ hB01).2 (by have := HSL.out; omega)
      obtain ⟨bl, ol, hAl, hbl, hcl⟩ := (HR.out _ hB01).2.1.at (by omega)
      obtain ⟨y0, y1, y2⟩ := HK.out _ hB01
      have cp := hcp k hlt
      have cs := hcs k (by have := HSL.out; omega)
      obtain ⟨_, x1, x2, _⟩ := hcl kk hkk
      have hks : (k : Int) < (s.length : Int) := by have := HSL.out; omega
      have HAT := Lib.hid (fun e => cho_at (N := N) (s := s) (k := (kk : Int)) (x := x) (i := k) hlt HN.out e)
      have HZ := HS01.out _ (getL_mem (d := 0) (show k < s.length by have := HSL.out; omega))
      have HST := Lib.hid (fun e => all_stepC (p := fun j => ((prkN N).getD j 0 == (kk : Int)) = false) HN.out e)
      rw [Int.toNat_natCast] at HAT
      generalize (prkN N).getD k 0 = p at *
      generalize s.getD k 0 = z at *
      generalize (N.l.getD kk Lk.nil).a = la at *
      generalize (N.l.getD kk Lk.nil).b = lb at *
      have HBB := Lib.hid (HB0.out.trans (hB01.mono HB0.out.size))
      subst hAp; subst hAs
      rw [hAl] at y1
      clear hcp hcs hcl hB hB01
      by_cases hp : p = kk
      · have hd : (p == (kk : Int)) = true := by simp [hp]
        have HE := Lib.hid (HAT.out hd)
        clear hp HAT HST
        rcases HZ with rfl | rfl
        · by_cases ha : la = x
          · have da : (la == x) = true := by simp [ha]
            have HE1 : Hid (true = choB N s kk x) := Lib.hid (by rw [HE.out]; simp [ha])
            clear ha
            go_wp2
            go_ret
            exact ⟨ret_bool HE1.out, HBB.out⟩
          · have da : (la == x) = false := by simp [ha]
            have HE1 : Hid (false = choB N s kk x) := Lib.hid (by rw [HE.out]; simp [ha])
            clear ha
            go_wp2
            go_ret
            exact ⟨ret_bool HE1.out, HBB.out⟩
        · by_cases ha : lb = x
          · have da : (lb == x) = true := by simp [ha]
            have HE1 : Hid (true = choB N s kk x) := Lib.hid (by rw [HE.out]; simp [ha])
            clear ha
            go_wp2
            go_ret
            exact ⟨ret_bool HE1.out, HBB.out⟩
          · have da : (lb == x) = false := by simp [ha]
            have HE1 : Hid (false = choB N s kk x) := Lib.hid (by rw [HE.out]; simp [ha])
            clear ha
            go_wp2
            go_ret
            exact ⟨ret_bool HE1.out, HBB.out⟩
      · have hd : (p == (kk : Int)) = false := by simp [hp]
        have HS2 := Lib.hid (HST.out hd)
        clear hp HAT HST
        go_wp2
        go_roundw
        case rel => exact ⟨k + 1, by omega, by go_num, HS2.out, HB.out⟩
        case measure => simp [intOf]; omega
    · have hkl : k = (prkN N).length := by omega
      subst hkl
      have HE1 : Hid (true = choB N s kk x) := Lib.hid (cho_none HN.out).symm
      have HBB := Lib.hid (HB0.out.trans (hB01.mono HB0.out.size))
      go_wp2
      go_ret
      exact ⟨ret_bool HE1.out, HBB.out⟩
end Go.Proofs.YtlcapifgpcimpaaDoor
