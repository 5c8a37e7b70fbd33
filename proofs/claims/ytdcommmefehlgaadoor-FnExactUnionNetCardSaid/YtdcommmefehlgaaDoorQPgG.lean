/- The program's ValidNet. Answers of chapter 8 are small. The program's checkedNet and AxiomNet. -/
import Derived.Test.YtdcommmefehlgaaDoorQPgC
import Derived.Test.YtdcommmefehlgaaDoorPgD
import Derived.Test.YtdcommmefehlgaaDoorPgE
import Derived.Test.YtdcommmefehlgaaDoorPgF
import Derived.Test.YtdcommmefehlgaaDoorQNetW
import Derived.Test.YtdcommmefehlgaaDoorQNetO
namespace Go.Proofs.YtdcommmefehlgaaDoor
set_option linter.unusedSimpArgs false
set_option linter.unusedVariables false
section
set_option linter.unusedSimpArgs false
set_option linter.unusedVariables false
open Go.ChangeAt Go.ChangeShapes Go.RowKit Go.WideShapes

theorem wAt_nat (ws : List (List Int)) (i : Nat) : wAt ws (i : Nat) = ws.getD i [] := by unfold wAt; rw [Int.toNat_natCast]
theorem linkFits_any (A L C : Option Addr) (cA m d k0 e0 : Nat) (ws : List (List Int)) (l : Lk) (w : World) (hn : ws.length ≤ 48) (r : RdQ w w.heap.size A ws.length ws) (hf : ws.all formN = true) (ht : Arit w) (hu : Dual w) :
    Calls Tryd.prog 73 #[.agg #[.slice A ws.length cA, .slice L m d, .slice C k0 e0], .agg #[.int .i64 l.k, .int .i64 l.a, .int .i64 l.b, .int .i64 l.c]] w fun e w' => e = .returned (.bool (fitsN ws l)) ∧ Below w.heap.size w w' := by
  obtain ⟨k, a, b, c⟩ := l
  dsimp only
  unfold fitsN
  dsimp only
  cases ha : inW ws.length a with
  | false => exact lf_na A L C cA m d k0 e0 ws w k a b c hn ha
  | true =>
  cases hb : inW ws.length b with
  | false => exact lf_nb A L C cA m d k0 e0 ws w k a b c hn ha hb
  | true =>
  cases hc : inW ws.length c with
  | false => exact lf_nc A L C cA m d k0 e0 ws w k a b c hn ha hb hc
  | true =>
  rw [Bool.true_and, Bool.true_and, Bool.true_and]
  obtain ⟨_, hia, ea⟩ := inW_yes ha
  obtain ⟨_, hib, eb⟩ := inW_yes hb
  obtain ⟨_, hic, ec⟩ := inW_yes hc
  generalize a.toNat = ia at *
  generalize b.toNat = ib at *
  generalize c.toNat = ic at *
  subst ea eb ec
  clear ha hb hc
  have va := formN_valid (all_at (d := []) hf hia)
  cases hcz : (((ic : Nat) : Int) == (lnk k ia ib ic).c) with
  | false =>
    have h34 : ¬ (k = 3 ∨ k = 4) := fun e => by
      unfold lnk at hcz
      dsimp only at hcz
      rw [if_pos e] at hcz
      simp at hcz
    have h0 : ¬ ((ic : Nat) : Int) = 0 := fun e => by
      unfold lnk at hcz
      dsimp only at hcz
      rw [if_neg h34, e] at hcz
      simp at hcz
    have e : rightN ws ⟨k, ia, ib, ic⟩ = false := by
      unfold rightN
      dsimp only
      by_cases h12 : k = 1 ∨ k = 2
      · rw [if_pos h12, decide_eq_false h0]; rfl
      · rw [if_neg h12, if_neg (fun e => h34 (.inl e)), if_neg (fun e => h34 (.inr e))]
    rw [e]
    exact lf_ne A L C cA m d k0 e0 ws w k _ ia ib ic hn hia hib hic r hf ht hu rfl hcz
  | true =>
    have e12 : k = 1 ∨ k = 2 → rightN ws ⟨k, ia, ib, ic⟩ = decide (ws.getD ib [] = dualL (ws.getD ia [])) := fun h12 => by
      have h34 : ¬ (k = 3 ∨ k = 4) := by omega
      have h0 : ((ic : Nat) : Int) = 0 := by
        unfold lnk at hcz
        dsimp only at hcz
        rw [if_neg h34] at hcz
        simpa using hcz
      unfold rightN
      dsimp only
      rw [if_pos h12, decide_eq_true h0, Bool.true_and, wAt_nat, wAt_nat, dualL_yes va]
    by_cases h1 : k = 1
    · rw [e12 (.inl h1)]
      exact lf_1 A L C cA m d k0 e0 ws w k _ ia ib ic hn hia hib hic r hf ht hu rfl hcz (by simpa using h1)
    by_cases h2 : k = 2
    · rw [e12 (.inr h2)]
      exact lf_2 A L C cA m d k0 e0 ws w k _ ia ib ic hn hia hib hic r hf ht hu rfl hcz (by simpa using h1) (by simpa using h2)
    by_cases h3 : k = 3
    · have e : rightN ws ⟨k, ia, ib, ic⟩ = decide (ws.getD ic [] = opK k :: (ws.getD ia [] ++ ws.getD ib [])) := by
        subst h3
        unfold rightN
        dsimp only
        rw [if_neg (by omega), if_pos rfl, wAt_nat, wAt_nat, wAt_nat]
        rfl
      rw [e]
      exact lf_3 A L C cA m d k0 e0 ws w k _ ia ib ic hn hia hib hic r hf ht hu rfl hcz (by simpa using h1) (by simpa using h2) (by simpa using h3)
    by_cases h4 : k = 4
    · have e : rightN ws ⟨k, ia, ib, ic⟩ = decide (ws.getD ic [] = opK k :: (ws.getD ia [] ++ ws.getD ib [])) := by
        subst h4
        unfold rightN
        dsimp only
        rw [if_neg (by omega), if_neg (by omega), if_pos rfl, wAt_nat, wAt_nat, wAt_nat]
        rfl
      rw [e]
      exact lf_4 A L C cA m d k0 e0 ws w k _ ia ib ic hn hia hib hic r hf ht hu rfl hcz (by simpa using h1) (by simpa using h2) (by simpa using h3) (by simpa using h4)
    have e : rightN ws ⟨k, ia, ib, ic⟩ = false := by
      unfold rightN
      dsimp only
      rw [if_neg (by omega), if_neg h3, if_neg h4]
    rw [e]
    exact lf_o A L C cA m d k0 e0 ws w k _ ia ib ic hn hia hib hic r hf ht hu rfl hcz (by simpa using h1) (by simpa using h2) (by simpa using h3) (by simpa using h4)
theorem valN_ends {N : Nt} (h1 : N.w.length ≤ 48 ∧ N.l.length ≤ 48) (h2 : N.w.all formN = true) (h3 : N.l.all (fitsN N.w) = true) (h4 : N.c.all (inW N.w.length) = true) : valN N = evenN N := by
  unfold valN; rw [decide_eq_true h1, h2, h3, h4]; rfl
set_option maxRecDepth 100000 in
set_option maxHeartbeats 4000000 in
theorem validNet_in (h : NH) (N : Nt) (w : World) (r : RdN w w.heap.size h N) (h1 : N.w.length ≤ 48) (h2 : N.l.length ≤ 48) (h3 : N.c.length ≤ 1048576) (ht : Arit w) (hu : Dual w) :
    Calls Tryd.prog 28 #[.agg #[.slice h.A N.w.length h.c, .slice h.L N.l.length h.d, .slice h.C N.c.length h.e]] w fun e w' => e = .returned (.bool (valN N)) ∧ Below w.heap.size w w' := by
  obtain ⟨A, cA, hs, L, dL, C, e0⟩ := h
  obtain ⟨ws, ls, cs⟩ := N
  dsimp only at *
  obtain ⟨w0, hw0⟩ : ∃ w0, w0 = w.alloc (.cells #[.slice A ws.length cA, .slice L ls.length dL, .slice C cs.length e0] 30) := ⟨_, rfl⟩
  obtain ⟨hb, hh, hsz⟩ := box3_any w (.slice A ws.length cA) (.slice L ls.length dL) (.slice C cs.length e0) 30
  rw [← hw0] at hb hh hsz
  have HK : Hid (∀ w', Below w0.heap.size w0 w' → w'.cell? ⟨w.heap.size, 0, none⟩ = some (.slice A ws.length cA) ∧ w'.cell? ⟨w.heap.size, 1, none⟩ = some (.slice L ls.length dL) ∧ w'.cell? ⟨w.heap.size, 2, none⟩ = some (.slice C cs.length e0)) := Lib.hid fun w' hw => three_cells ((hw.block _ (by omega)).trans hh)
  have HR := Lib.hid (fun (w' : World) (hw : Below w0.heap.size w0 w') => show RdN w' w'.heap.size ⟨A, cA, hs, L, dL, C, e0⟩ ⟨ws, ls, cs⟩ from (r.below (hb.trans (hw.mono hb.size))).more (Nat.le_trans hb.size hw.size))
  have HT := Lib.hid (fun (w' : World) (hw : Below w0.heap.size w0 w') => show Arit w' ∧ Dual w' from ⟨ht.below (hb.trans (hw.mono hb.size)) ht.lt, hu.below (hb.trans (hw.mono hb.size)) hu.lt⟩)
  have HB0 := Lib.hid hb
  obtain ⟨y0, y1, y2⟩ := three_cells hh
  have d1 : decide ((48 : Int) < (ws.length : Int)) = false := decide_eq_false (by omega)
  have d2 : decide ((48 : Int) < (ls.length : Int)) = false := decide_eq_false (by omega)
  clear hb hh hsz r ht hu
  go_enter Tryd.func28, Tryd.ntmps28
  go_wp2_with (fail)
  rw [← hw0]
  clear hw0
  go_loopw [22] (fun i wr => ∃ k : Nat, k ≤ ws.length ∧ i = .int .i64 k ∧ (ws.take k).all formN = true ∧ Below w0.heap.size w0 wr) (fun i _ => ws.length - (intOf i).toNat)
  case atStart => exact ⟨0, Nat.zero_le _, rfl, by simp, Below.refl _ _⟩
  case round =>
    obtain ⟨k, hk, rfl, hall, hB⟩ := hrel
    clear y0 y1 y2
    obtain ⟨y0, y1, y2⟩ := HK.out _ hB
    by_cases hlt : k < ws.length
    · obtain ⟨b, off, hA, hbb, hcells⟩ := (HR.out _ hB).1.2 (show 0 < ws.length by omega)
      dsimp only at hA
      subst hA
      obtain ⟨A', c', hcell, hcc, hrd⟩ := hcells k hlt
      have hF := isWireForm_any A' _ c' _ wr hrd (HT.out _ hB).1 hcc
      cases hv : formN (ws.getD k []) with
      | false =>
        have HE : Hid (false = valN ⟨ws, ls, cs⟩) := Lib.hid (valN_badw (N := ⟨ws, ls, cs⟩) hlt hv).symm
        rw [hv] at hF
        have HF := Lib.hid hF; have HB := Lib.hid hB
        clear hF hcells hrd hv hall hB hcc
        generalize (ws.getD k []).length = M at *
        go_wp2_with (fail)
        refine HF.out.mono ?_
        rintro e w1 ⟨rfl, rfl⟩
        have HB1 := Lib.hid (HB0.out.trans (HB.out.mono HB0.out.size))
        go_wp2
        go_ret
        exact ⟨ret_bool' HE.out, HB1.out⟩
      | true =>
        have HA := Lib.hid (all_step hlt hall hv)
        rw [hv] at hF
        have HF := Lib.hid hF; have HB := Lib.hid hB
        clear hF hcells hrd hv hall hB hcc
        generalize (ws.getD k []).length = M at *
        go_wp2_with (fail)
        refine HF.out.mono ?_
        rintro e w1 ⟨rfl, rfl⟩
        go_wp2
        go_roundw
        case rel => exact ⟨k + 1, by omega, by go_num, HA.out, HB.out⟩
        case measure => simp [intOf]; omega
    · have hkl : k = ws.length := by omega
      subst hkl
      rw [List.take_of_length_le (Nat.le_refl _)] at hall
      have HW := Lib.hid hall; have HB := Lib.hid hB
      clear hall hB
      go_wp2
      go_loopw [33] (fun i wx => ∃ k : Nat, k ≤ ls.length ∧ i = .int .i64 k ∧ (ls.take k).all (fitsN ws) = true ∧ Below w0.heap.size w0 wx) (fun i _ => ls.length - (intOf i).toNat)
      case atStart => exact ⟨0, Nat.zero_le _, rfl, by simp, HB.out⟩
      case round =>
        obtain ⟨k, hk, rfl, hall, hB⟩ := hrel
        clear y0 y1 y2 HB
        obtain ⟨y0, y1, y2⟩ := HK.out _ hB
        by_cases hlt : k < ls.length
        · obtain ⟨b, off, hA, hbb, hcells⟩ := (HR.out _ hB).2.1.at (show 0 < ls.length by omega)
          dsimp only at hA
          subst hA
          obtain ⟨x0, x1, x2, x3⟩ := hcells k hlt
          have hst := fun hb => all_step (d := Lk.nil) hlt hall hb
          have hbd := fun hb => valN_badl (N := ⟨ws, ls, cs⟩) hlt hb
          dsimp only at hbd
          obtain ⟨⟨lk, la, lb, lc⟩, hl⟩ : ∃ l, ls.getD k Lk.nil = l := ⟨_, rfl⟩
          rw [hl] at x0 x1 x2 x3 hst hbd
          dsimp only at x0 x1 x2 x3
          obtain ⟨bl, z0, z1, z2, z3, zs⟩ := lnk_any wr ⟨lk, la, lb, lc⟩ 72
          dsimp only at bl z0 z1 z2 z3
          have hB1 := hB.trans (bl.mono hB.size)
          have hcut : wr.heap.size = wr.heap.size := rfl
          obtain ⟨y0', y1', y2'⟩ := HK.out _ hB1
          have hLF := linkFits_any A (some ⟨b, off, none⟩) C cA ls.length dL cs.length e0 ws ⟨lk, la, lb, lc⟩ _ h1 (HR.out _ hB1).1 HW.out (HT.out _ hB1).1 (HT.out _ hB1).2
          dsimp only at hLF
          have HB1 := Lib.hid hB1
          clear hcells hall hB bl zs hl hB1 hcut
          cases hv : fitsN ws ⟨lk, la, lb, lc⟩ with
          | false =>
            have HE : Hid (false = valN ⟨ws, ls, cs⟩) := Lib.hid (hbd hv).symm
            rw [hv] at hLF
            have HLF := Lib.hid hLF
            clear hLF hst hbd hv
            go_wp2_with (fail)
            refine HLF.out.mono ?_
            rintro e w1 ⟨rfl, bel⟩
            have HBX := Lib.hid (HB0.out.trans ((HB1.out.trans (bel.mono HB1.out.size)).mono HB0.out.size))
            clear bel
            go_wp2
            go_ret
            exact ⟨ret_bool' HE.out, HBX.out⟩
          | true =>
            have HA := Lib.hid (hst hv)
            rw [hv] at hLF
            have HLF := Lib.hid hLF
            clear hLF hst hbd hv
            go_wp2_with (fail)
            refine HLF.out.mono ?_
            rintro e w1 ⟨rfl, bel⟩
            have HBX := Lib.hid (HB1.out.trans (bel.mono HB1.out.size))
            clear bel
            go_wp2
            go_roundw
            case rel => exact ⟨k + 1, by omega, by go_num, HA.out, HBX.out⟩
            case measure => simp [intOf]; omega
        · have hkl : k = ls.length := by omega
          subst hkl
          rw [List.take_of_length_le (Nat.le_refl _)] at hall
          have HL := Lib.hid hall; have HB := Lib.hid hB
          clear hall hB
          go_wp2
          go_loopw [45] (fun i wx => ∃ k : Nat, k ≤ cs.length ∧ i = .int .i64 k ∧ (cs.take k).all (inW ws.length) = true ∧ Below w0.heap.size w0 wx) (fun i _ => cs.length - (intOf i).toNat)
          case atStart => exact ⟨0, Nat.zero_le _, rfl, by simp, HB.out⟩
          case round =>
            obtain ⟨k, hk, rfl, hall, hB⟩ := hrel
            clear y0 y1 y2 HB
            obtain ⟨y0, y1, y2⟩ := HK.out _ hB
            by_cases hlt : k < cs.length
            · obtain ⟨b, off, hA, hbb, hcells⟩ := (HR.out _ hB).2.2.2 (show 0 < cs.length by omega)
              dsimp only at hA
              subst hA
              have hcell := hcells k hlt
              have hst := fun hb => all_step (d := 0) hlt hall hb
              have hbd := fun hb => valN_badc (N := ⟨ws, ls, cs⟩) hlt hb
              dsimp only at hbd
              obtain ⟨z, hz⟩ : ∃ z, cs.getD k 0 = z := ⟨_, rfl⟩
              rw [hz] at hcell hst hbd
              have hIW := isWire_any A L (some ⟨b, off, none⟩) ws.length cA ls.length dL cs.length e0 z wr (by unfold maxLen; omega)
              have HB := Lib.hid hB
              clear hcells hz hall hB
              cases hv : inW ws.length z with
              | false =>
                have HE : Hid (false = valN ⟨ws, ls, cs⟩) := Lib.hid (hbd hv).symm
                rw [hv] at hIW
                have HIW := Lib.hid hIW
                clear hIW hst hbd hv
                go_wp2_with (fail)
                refine HIW.out.mono ?_
                rintro e w1 ⟨rfl, bel⟩
                have HBX := Lib.hid (HB0.out.trans ((HB.out.trans (bel.mono HB.out.size)).mono HB0.out.size))
                clear bel
                go_wp2
                go_ret
                exact ⟨ret_bool' HE.out, HBX.out⟩
              | true =>
                have HA := Lib.hid (hst hv)
                rw [hv] at hIW
                have HIW := Lib.hid hIW
                clear hIW hst hbd hv
                go_wp2_with (fail)
                refine HIW.out.mono ?_
                rintro e w1 ⟨rfl, bel⟩
                have HBX := Lib.hid (HB.out.trans (bel.mono HB.out.size))
                clear bel
                go_wp2
                go_roundw
                case rel => exact ⟨k + 1, by omega, by go_num, HA.out, HBX.out⟩
                case measure => simp [intOf]; omega
            · have hkl : k = cs.length := by omega
              subst hkl
              rw [List.take_of_length_le (Nat.le_refl _)] at hall
              have HC := Lib.hid hall; have HB := Lib.hid hB
              have hVE : valN ⟨ws, ls, cs⟩ = evenN ⟨ws, ls, cs⟩ := valN_ends (N := ⟨ws, ls, cs⟩) ⟨h1, h2⟩ HW.out HL.out hall
              have hUF := usesFit_any ⟨A, cA, hs, L, dL, C, e0⟩ ⟨ws, ls, cs⟩ wr (HR.out _ hB) h1 h2 h3 (fun l hl => by
                have := fitsN_yes ((List.all_eq_true.1 HL.out) l hl)
                exact ⟨this.1, this.2.1, this.2.2.1⟩) hall
              rw [← hVE] at hUF
              dsimp only at hUF
              have HUF := Lib.hid hUF
              clear hall hB hVE hUF
              go_wp2_with (fail)
              refine HUF.out.mono ?_
              rintro e w1 ⟨rfl, bel⟩
              have HBX := Lib.hid (HB0.out.trans ((HB.out.trans (bel.mono HB.out.size)).mono HB0.out.size))
              clear bel
              go_wp2
              go_ret
              exact ⟨rfl, HBX.out⟩
theorem validNet_impl (h : NH) (N : Nt) (w : World) (r : RdN w w.heap.size h N) (sm : SmallN N) (ht : Arit w) (hu : Dual w) :
    Calls Tryd.prog 28 #[.agg #[.slice h.A N.w.length h.c, .slice h.L N.l.length h.d, .slice h.C N.c.length h.e]] w fun e w' => e = .returned (.bool (valN N)) ∧ Below w.heap.size w w' := by
  by_cases hg : N.w.length ≤ 48 ∧ N.l.length ≤ 48
  · exact validNet_in h N w r hg.1 hg.2 sm.c ht hu
  · rw [valN_great (by omega)]
    have s1 := sm.w; have s2 := sm.l; have s3 := sm.c
    obtain ⟨A, cA, hs, L, dL, C, e0⟩ := h
    obtain ⟨ws, ls, cs⟩ := N
    dsimp only at *
    obtain ⟨hb, hh, hsz⟩ := box3_any w (.slice A ws.length cA) (.slice L ls.length dL) (.slice C cs.length e0) 30
    obtain ⟨w0, hw0⟩ : ∃ w0, w0 = w.alloc (.cells #[.slice A ws.length cA, .slice L ls.length dL, .slice C cs.length e0] 30) := ⟨_, rfl⟩
    rw [← hw0] at hb hh hsz
    obtain ⟨y0, y1, y2⟩ := three_cells hh
    have HB0 := Lib.hid hb
    clear hb hh hsz r
    by_cases h1 : ws.length ≤ 48
    · have d1 : decide ((48 : Int) < (ws.length : Int)) = false := decide_eq_false (by omega)
      have d2 : decide ((48 : Int) < (ls.length : Int)) = true := decide_eq_true (by omega)
      clear hg h1
      go_enter Tryd.func28, Tryd.ntmps28
      go_wp2_with (fail)
      rw [← hw0]
      go_ret
      exact ⟨rfl, HB0.out⟩
    · have d1 : decide ((48 : Int) < (ws.length : Int)) = true := decide_eq_true (by omega)
      clear hg h1
      go_enter Tryd.func28, Tryd.ntmps28
      go_wp2_with (fail)
      rw [← hw0]
      go_ret
      exact ⟨rfl, HB0.out⟩
end
section
open Go.ChangeAt Go.ChangeShapes Go.RowKit Go.WideShapes
theorem nil_small : SmallN Nt.nil := ⟨by simp [Nt.nil], by simp [Nt.nil, total], by simp [Nt.nil], by simp [Nt.nil]⟩
theorem valN_small {N : Nt} (h : valN N = true) : SmallN N := by
  have h1 := valN_size h
  have h2 := valN_conc_le h
  have h3 : total N.w ≤ 24 * N.w.length := total_valid (List.all_eq_true.2 fun q hq => formN_valid (List.all_eq_true.1 (valN_forms h) q hq))
  exact ⟨by omega, by omega, by omega, by omega⟩
end
section
set_option linter.unusedSimpArgs false
set_option linter.unusedVariables false
open Go.ChangeAt Go.ChangeShapes Go.RowKit Go.WideShapes

theorem checked_yes (h : NH) (N : Nt) (w : World) (r : RdN w w.heap.size h N) (sm : SmallN N) (ht : Arit w) (hu : Dual w) (hv : valN N = true) :
    Calls Tryd.prog 46 #[.agg #[.slice h.A N.w.length h.c, .slice h.L N.l.length h.d, .slice h.C N.c.length h.e]] w fun e w' => e = .returned (.tuple #[.agg #[.slice h.A N.w.length h.c, .slice h.L N.l.length h.d, .slice h.C N.c.length h.e], .bool true]) ∧ Below w.heap.size w w' := by
  obtain ⟨w3, hw3⟩ : ∃ w3, w3 = (w.alloc (.cells #[.slice h.A N.w.length h.c, .slice h.L N.l.length h.d, .slice h.C N.c.length h.e] 30)).alloc (.cells #[.slice none 0 0, .slice none 0 0, .slice none 0 0] 30) := ⟨_, rfl⟩
  obtain ⟨hb, g0, g1, hsz⟩ := two_any' w (.cells #[.slice h.A N.w.length h.c, .slice h.L N.l.length h.d, .slice h.C N.c.length h.e] 30) (.cells #[.slice none 0 0, .slice none 0 0, .slice none 0 0] 30)
  rw [← hw3] at hb g0 g1 hsz
  obtain ⟨y0, y1, y2⟩ := three_cells g0
  have hs3 : w.heap.size + 2 ≤ w3.heap.size := by omega
  have hV := validNet_impl h N w3 ((r.below hb).more hb.size) sm (ht.below hb ht.lt) (hu.below hb hu.lt)
  rw [hv] at hV
  have HV := Lib.hid hV; have G0 := Lib.hid g0; have G1 := Lib.hid g1; have HB0 := Lib.hid hb
  clear hV hv r sm ht hu g0 g1 hb hsz
  go_enter Tryd.func46, Tryd.ntmps46
  go_wp2_with (fail)
  rw [← hw3]
  clear hw3
  refine HV.out.mono ?_
  rintro e w4 ⟨rfl, bel⟩
  have q7 := (bel.block (w.heap.size + 1) (by omega)).trans G1.out
  have q8 := (bel.block w.heap.size (by omega)).trans G0.out
  clear y0 y1 y2
  obtain ⟨a0, a1, a2⟩ := three_cells q7
  obtain ⟨y0, y1, y2⟩ := three_cells q8
  have f0 := frozen_of_row _ _ 0 _ _ q7; have f1 := frozen_of_row _ _ 1 _ _ q7; have f2 := frozen_of_row _ _ 2 _ _ q7
  have HB7 := Lib.hid (set3_below (HB0.out.trans (bel.mono HB0.out.size)) (show w.heap.size ≤ w.heap.size + 1 by omega) (.slice h.A N.w.length h.c) (.slice h.L N.l.length h.d) (.slice h.C N.c.length h.e))
  have H7 := Lib.hid (set3_at q7 (.slice h.A N.w.length h.c) (.slice h.L N.l.length h.d) (.slice h.C N.c.length h.e))
  clear q7 q8 bel
  go_wp2
  (try simp only [Exit.inBlock, Exit.then])
  refine bodyPost_ret (results_cell_row_tmp rfl _ _ (w.heap.size + 1) _ _ (0, 0) _ rfl H7.out Tryd.underlying30 rfl (by kernel_rfl)) rfl ?_
  exact ⟨rfl, HB7.out⟩
theorem checked_no (h : NH) (N : Nt) (w : World) (r : RdN w w.heap.size h N) (sm : SmallN N) (ht : Arit w) (hu : Dual w) (hv : valN N = false) :
    Calls Tryd.prog 46 #[.agg #[.slice h.A N.w.length h.c, .slice h.L N.l.length h.d, .slice h.C N.c.length h.e]] w fun e w' => e = .returned (.tuple #[.agg #[.slice none 0 0, .slice none 0 0, .slice none 0 0], .bool false]) ∧ Below w.heap.size w w' := by
  obtain ⟨w3, hw3⟩ : ∃ w3, w3 = (w.alloc (.cells #[.slice h.A N.w.length h.c, .slice h.L N.l.length h.d, .slice h.C N.c.length h.e] 30)).alloc (.cells #[.slice none 0 0, .slice none 0 0, .slice none 0 0] 30) := ⟨_, rfl⟩
  obtain ⟨hb, g0, g1, hsz⟩ := two_any' w (.cells #[.slice h.A N.w.length h.c, .slice h.L N.l.length h.d, .slice h.C N.c.length h.e] 30) (.cells #[.slice none 0 0, .slice none 0 0, .slice none 0 0] 30)
  rw [← hw3] at hb g0 g1 hsz
  obtain ⟨y0, y1, y2⟩ := three_cells g0
  have hs3 : w.heap.size + 2 ≤ w3.heap.size := by omega
  have hV := validNet_impl h N w3 ((r.below hb).more hb.size) sm (ht.below hb ht.lt) (hu.below hb hu.lt)
  rw [hv] at hV
  have HV := Lib.hid hV; have G1 := Lib.hid g1; have HB0 := Lib.hid hb
  clear hV hv r sm ht hu g0 g1 hb hsz
  go_enter Tryd.func46, Tryd.ntmps46
  go_wp2_with (fail)
  rw [← hw3]
  clear hw3
  refine HV.out.mono ?_
  rintro e w4 ⟨rfl, bel⟩
  have q7 := (bel.block (w.heap.size + 1) (by omega)).trans G1.out
  clear y0 y1 y2
  obtain ⟨a0, a1, a2⟩ := three_cells q7
  have f0 := frozen_of_row _ _ 0 _ _ q7; have f1 := frozen_of_row _ _ 1 _ _ q7; have f2 := frozen_of_row _ _ 2 _ _ q7
  have HB7 := Lib.hid (set3_below (HB0.out.trans (bel.mono HB0.out.size)) (show w.heap.size ≤ w.heap.size + 1 by omega) (.slice none 0 0) (.slice none 0 0) (.slice none 0 0))
  have H7 := Lib.hid (set3_at q7 (.slice none 0 0) (.slice none 0 0) (.slice none 0 0))
  clear q7 bel
  go_wp2
  (try simp only [Exit.inBlock, Exit.then])
  refine bodyPost_ret (results_cell_row_tmp rfl _ _ (w.heap.size + 1) _ _ (0, 0) _ rfl H7.out Tryd.underlying30 rfl (by kernel_rfl)) rfl ?_
  exact ⟨rfl, HB7.out⟩
set_option maxRecDepth 100000 in
set_option maxHeartbeats 1000000 in
theorem clone_x (A : Option Addr) (n c : Nat) (zs : List Int) (w : World) (h : RdI w w.heap.size A n zs) (hn : n ≤ 1048576) :
    Calls Tryd.prog 81 #[.slice A n c] w (Gives w zs) := by
  obtain ⟨i0, hi0, hz0, hz1, hz2⟩ := info_parts info_i64
  have hl := h.len
  subst hl
  cases A with
  | none =>
    have h0 : zs.length = 0 := by
      by_cases e : 0 < zs.length
      · obtain ⟨b, off, e2, _⟩ := h.2 e
        cases e2
      · omega
    obtain rfl : zs = [] := List.eq_nil_of_length_eq_zero h0
    have hnil : ∀ wx : World, (binOp .eql 24 (.slice none 0 c) (.slice none 0 0)).run Tryd.prog wx = .ok (.bool true) wx := fun wx => Lib.run_eql_slice_nil wx 24 2 _ _ _ _ _ Tryd.underlying24
    have HG := Lib.hid (gives_nil (Below.refl w.heap.size w))
    clear h h0 hi0 hz0 hz1 hz2 hn
    rw [List.length_nil]
    go_enter Tryd.func81, Tryd.ntmps81
    go_wp2
    go_ret
    exact HG.out
  | some a =>
    have hnil : ∀ wx : World, (binOp .eql 24 (.slice (some a) zs.length c) (.slice none 0 0)).run Tryd.prog wx = .ok (.bool false) wx := fun wx => Lib.run_eql_slice_nil wx 24 2 _ _ _ _ _ Tryd.underlying24
    have hb0 : Below w.heap.size w (w.alloc (.cells #[] 2)) := (Below.refl _ _).alloc (Nat.le_refl _) _
    have H0 := Lib.hid (World.ownsRow_made (e := 2) (base := w.heap.size) (size := 1) w #[] 0 (Nat.le_refl _) (by simp [maxLen]) rfl)
    have HN1 : Hid (∀ j u, (zs.map (Value.int .i64))[j]? = some u → (w.alloc (.cells #[] 2)).cell? (a.add j) = some u) := Lib.hid (fun j u hu => by
      by_cases e : 0 < zs.length
      · obtain ⟨b1, off1, e2, hb1, hc1⟩ := h.2 e
        injection e2 with e2
        subst e2
        exact part_news (fun j hj => (hb0.cell (p := ⟨b1, off1 + j, none⟩) hb1).trans (hc1 j hj)) j u hu
      · rw [List.eq_nil_of_length_eq_zero (by omega : zs.length = 0)] at hu
        simp at hu)
    have HB0 := Lib.hid hb0
    have HL1 : Hid ((zs.map (Value.int .i64)).length = zs.length * 1) := Lib.hid (by simp)
    have HHO := Lib.hid (ints_one zs)
    have HM1 : Hid (0 + zs.length ≤ maxLen) := Lib.hid (by unfold maxLen; omega)
    have HS1 : Hid ((0 + zs.length) * 8 ≤ 140737488355328) := Lib.hid (by omega)
    have HJ : Hid ([] ++ zs.map (Value.int .i64) = zs.map (Value.int .i64)) := Lib.hid (by simp)
    have HI := Lib.hid hi0; have HZ0 := Lib.hid hz0; have HZ1 := Lib.hid hz1; have HZ2 := Lib.hid hz2
    have HLL : Hid (0 + zs.length = zs.length) := Lib.hid (by omega)
    clear hb0 hi0 hz0 hz1 hz2 h
    go_enter Tryd.func81, Tryd.ntmps81
    go_wp2_with (at_builtin; refine wpList_append_own _ rfl _ _ 24 rfl w.heap.size 2 i0 (.int .i64 0) 1 8 Tryd.underlying24 HI.out HZ0.out HZ1.out HZ2.out rfl (by decide) _ _ _ rfl H0.out a zs.length c (zs.map (Value.int .i64)) rfl HL1.out HN1.out HHO.out HM1.out HS1.out HB0.out.size ?_; intro v2 w2 hown2 hgrow2 _; obtain ⟨A2, c2, rfl, HO2, HB2⟩ := app_news HB0 H0 hown2 hgrow2 HJ HLL.out; clear hown2 hgrow2)
    go_ret
    exact ⟨_, _, rfl, HO2.out, HB2.out⟩
theorem du_symN {x : Int} (h : 0 ≤ arZ x) : arZ (duZ x) = arZ x ∧ duZ (duZ x) = x ∧ leafB (duZ x) = leafB x ∧ bitZ (duZ x) = bitZ x ∧ (leafB x = true → duZ x = -x) := by
  rcases sym_cases x with ⟨hl, ha, hb⟩ | ⟨hl, ho, h8⟩ | ⟨_, _, hn, _⟩
  · have e : duZ x = -x := duZ_leaf hl
    have hl2 : leafB (-x) = true := leaf_iff.2 (by omega)
    refine ⟨by rw [e, ha, arZ_leaf hl2], by rw [e, duZ_leaf hl2]; omega, by rw [e, hl, hl2], by rw [e, bitZ_other (by omega), bitZ_other (by omega)], fun _ => e⟩
  · refine ⟨?_, ?_, ?_, ?_, fun h => by rw [hl] at h; cases h⟩ <;> rcases h8 with ⟨rfl, _⟩ | ⟨rfl, _⟩ | ⟨rfl, _⟩ | ⟨rfl, _⟩ | ⟨rfl, _⟩ | ⟨rfl, _⟩ | ⟨rfl, _⟩ | ⟨rfl, _⟩ <;> decide
  · omega
theorem scan_dualN : ∀ (xs : List Int) (m a : Int), (∀ x ∈ xs, 0 ≤ arZ x) → scan (xs.map duZ) m a = scan xs m a
  | [], _, _, _ => rfl
  | x :: xs, m, a, h => by
    have hx := h x (by simp)
    have e := (du_symN hx).1
    simp only [List.map_cons, scan, e, scan_dualN xs _ _ (fun y hy => h y (by simp [hy]))]
theorem fe_dualN {f : List Int} (h : ∀ x ∈ f, 0 ≤ arZ x) (a : Nat) : fe (f.map duZ) a = fe f a := by
  rw [fe_any, fe_any, ← List.map_drop, scan_dualN _ _ _ (fun x hx => h x (List.mem_of_mem_drop hx))]
theorem valid_dualN {f : List Int} (h : validB f = true) : validB (f.map duZ) = true := by
  obtain ⟨h1, h2, h3⟩ := valid_len h
  have e := fe_dualN (valid_all h) 0
  rw [show ((0 : Nat) : Int) = 0 from rfl, h3] at e
  simp only [validB, decide_eq_true_eq]
  rw [feI_small (by simpa using h2), e]
  simp
theorem frag_dualN {f : List Int} (h : validB f = true) : fragV (f.map duZ) = fragV f := by
  rw [fragV_yes h, fragV_yes (valid_dualN h)]
  have e : ∀ v, occ (f.map duZ) v (f.map duZ).length = occ f v f.length := by
    intro v
    unfold occ
    rw [List.take_of_length_le (Nat.le_refl _), List.take_of_length_le (Nat.le_refl _), List.any_map]
    have e2 : ∀ x ∈ f, ((fun n => bitZ n == v) ∘ duZ) x = (fun n => bitZ n == v) x := fun x hx => by
      show (bitZ (duZ x) == v) = (bitZ x == v)
      rw [(du_symN (valid_all h x hx)).2.2.2.1]
    rw [Bool.eq_iff_iff, List.any_eq_true, List.any_eq_true]
    constructor
    · rintro ⟨x, hx, h'⟩; exact ⟨x, hx, (e2 x hx).symm.trans h'⟩
    · rintro ⟨x, hx, h'⟩; exact ⟨x, hx, (e2 x hx).trans h'⟩
  unfold fragK
  rw [e, e, e, e]
theorem gives_eq {w w' : World} {N M : Nt} {b : Bool} {e : Ending} (h : GivesNB w N b e w') (hN : N = M) : GivesNB w M b e w' := hN ▸ h
/-- The net of an axiom, before it is checked. -/
def axD (f : List Int) : Nt := ⟨[f, dualL f], [⟨1, 0, 1, 0⟩], [0, 1]⟩
theorem axD_small {f : List Int} (h : f.length ≤ 1048576) : SmallN (axD f) := by
  refine ⟨by simp [axD], ?_, by simp [axD], by simp [axD]⟩
  unfold axD
  dsimp only
  cases hv : validB f with
  | true =>
    have := valid_len hv
    have := dualL_len f
    simp [total]
    omega
  | false => rw [dualL_no hv]; simpa [total] using h
theorem formN_dual {f : List Int} (h : formN f = true) : formN (f.map duZ) = true := by
  unfold formN at h ⊢
  rw [frag_dualN (formN_valid h)]; exact h
theorem axD_val (f : List Int) : valN (axD f) = formN f := by
  cases hf : formN f with
  | false => exact valN_badw (N := axD f) (k := 0) (by simp [axD]) (by simpa [axD] using hf)
  | true =>
    have hd := dualL_yes (formN_valid hf)
    refine valN_yes (by simp [axD]) (by simp [axD, hf, hd, formN_dual hf]) ?_ (by simp [axD, inW]) ?_
    · simp only [axD, List.all_cons, List.all_nil, Bool.and_true]
      unfold fitsN rightN
      simp [inW, wAt, hd]
    · intro x hx
      have hx2 : x < 2 := by simpa [axD] using hx
      rcases x with _ | _ | x
      · simp [axD, madeN, usedN, concN, mk1, us1, one]
      · simp [axD, madeN, usedN, concN, mk1, us1, one]
      · omega
theorem axD_yes {f : List Int} (h : formN f = true) : axD f = axN f := by unfold axD axN; rw [dualL_yes (formN_valid h)]
theorem ax_own {w0 u2 u4 : World} {A1 A2 : Option Addr} {c1 c2 : Nat} {f df : List Int} {u1 : World}
    (o1 : u1.ownsRow w0.heap.size 2 1 (.slice A1 f.length c1) f.length (f.map (Value.int .i64))) (b1 : Below w0.heap.size w0 u1)
    (o2 : u2.ownsRow u1.heap.size 2 1 (.slice A2 df.length c2) df.length (df.map (Value.int .i64))) (b2 : Below u1.heap.size u1 u2)
    (b4 : Below (u2.alloc (.cells #[.slice A1 f.length c1, .slice A2 df.length c2] 24)).heap.size (u2.alloc (.cells #[.slice A1 f.length c1, .slice A2 df.length c2] 24)) u4) :
    ∃ g1 g2 g3 : Nat, g1 = u2.heap.size ∧ g2 = u4.heap.size ∧ g3 = u4.heap.size + 1 ∧
      OwnN ((u4.alloc (.cells #[.int .i64 1, .int .i64 0, .int .i64 1, .int .i64 0] 72)).alloc (.cells #[.int .i64 0, .int .i64 1] 2)) w0.heap.size ((u4.alloc (.cells #[.int .i64 1, .int .i64 0, .int .i64 1, .int .i64 0] 72)).alloc (.cells #[.int .i64 0, .int .i64 1] 2)).heap.size
        ⟨some ⟨g1, 0, none⟩, 2, fun i => if i = 0 then (A1, c1) else (A2, c2), some ⟨g2, 0, none⟩, 1, some ⟨g3, 0, none⟩, 2⟩ ⟨[f, df], [⟨1, 0, 1, 0⟩], [0, 1]⟩ ∧
      Below w0.heap.size w0 ((u4.alloc (.cells #[.int .i64 1, .int .i64 0, .int .i64 1, .int .i64 0] 72)).alloc (.cells #[.int .i64 0, .int .i64 1] 2)) := by
  have s1 := b1.size
  have s2 := b2.size
  have hq := OwnQ.two o1 o2 b2 s1
  have bq : Below u2.heap.size u2 (u2.alloc (.cells #[.slice A1 f.length c1, .slice A2 df.length c2] 24)) := (Below.refl _ _).alloc (Nat.le_refl _) _
  obtain ⟨u3, hu3⟩ : ∃ u3, u3 = u2.alloc (.cells #[.slice A1 f.length c1, .slice A2 df.length c2] 24) := ⟨_, rfl⟩
  have s3 : u3.heap.size = u2.heap.size + 1 := by rw [hu3]; simp
  rw [← hu3] at hq bq b4
  have s4 := b4.size
  have hl4 := own_lit (w := u4) (n := 1) (e := 72) (base := u4.heap.size) (size := 4) #[.int .i64 1, .int .i64 0, .int .i64 1, .int .i64 0] (Nat.le_refl _) (by simp [maxLen]) rfl
  have b5 : Below u4.heap.size u4 (u4.alloc (.cells #[.int .i64 1, .int .i64 0, .int .i64 1, .int .i64 0] 72)) := (Below.refl _ _).alloc (Nat.le_refl _) _
  obtain ⟨u5, hu5⟩ : ∃ u5, u5 = u4.alloc (.cells #[.int .i64 1, .int .i64 0, .int .i64 1, .int .i64 0] 72) := ⟨_, rfl⟩
  have s5 : u5.heap.size = u4.heap.size + 1 := by rw [hu5]; simp
  rw [← hu5] at hl4 b5 ⊢
  have hc5 := own_lit (w := u5) (n := 2) (e := 2) (base := u5.heap.size) (size := 1) #[.int .i64 0, .int .i64 1] (Nat.le_refl _) (by simp [maxLen]) rfl
  have b6 : Below u5.heap.size u5 (u5.alloc (.cells #[.int .i64 0, .int .i64 1] 2)) := (Below.refl _ _).alloc (Nat.le_refl _) _
  obtain ⟨u6, hu6⟩ : ∃ u6, u6 = u5.alloc (.cells #[.int .i64 0, .int .i64 1] 2) := ⟨_, rfl⟩
  have s6 : u6.heap.size = u5.heap.size + 1 := by rw [hu6]; simp
  rw [← hu6] at hc5 b6 ⊢
  have b46 := b5.trans (b6.mono b5.size)
  have b36 := b4.trans (b46.mono b4.size)
  have B6 : Below w0.heap.size w0 u6 := b1.trans ((b2.trans ((bq.trans (b36.mono bq.size)).mono b2.size)).mono s1)
  refine ⟨u2.heap.size, u4.heap.size, u5.heap.size, rfl, rfl, s5, ?_, B6⟩
  have hq6 : OwnQ u6 w0.heap.size u3.heap.size (.slice (some ⟨u2.heap.size, 0, none⟩) 2 2) (fun i => if i = 0 then (A1, c1) else (A2, c2)) [f, df] := (hq.below b36).more (Nat.le_refl _) (by omega)
  exact OwnN.mk' (m1 := u4.heap.size) (m2 := u5.heap.size) (hq6.more (Nat.le_refl _) (by omega)) (own_below hl4 b6 (Nat.le_refl _)) (fun b e => by have h9 : u4.heap.size = b := (by simpa [Value.ownBlock] using e); omega) hc5 (by omega) (by omega) (Nat.le_refl _) (by omega)
end
end Go.Proofs.YtdcommmefehlgaaDoor
