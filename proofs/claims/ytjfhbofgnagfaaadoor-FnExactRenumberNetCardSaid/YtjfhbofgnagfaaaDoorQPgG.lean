/- The program's ValidNet. The program's checkedNet and AxiomNet. The program's placed: a net put into another one under given numbers. Permutations by sorting; a net placed under permuted numbers. Plain mathematics. The program's isPermutation: slices.Sort at a row of one's own. -/
import Derived.Test.YtjfhbofgnagfaaaDoorQPgK
import Derived.Test.YtjfhbofgnagfaaaDoorPgD
import Derived.Test.YtjfhbofgnagfaaaDoorPgE
import Derived.Test.YtjfhbofgnagfaaaDoorPgF
import Derived.Test.YtjfhbofgnagfaaaDoorQNetO
import Derived.Test.YtjfhbofgnagfaaaDoorQPgM
import Derived.Test.YtjfhbofgnagfaaaDoorQNetH
import Derived.Test.YtjfhbofgnagfaaaDoorNetN
import Derived.Test.YtjfhbofgnagfaaaDoorQNetV
import Derived.Test.YtjfhbofgnagfaaaDoorShelfI
import Derived.Lib.OwnBridge
namespace Go.Proofs.YtjfhbofgnagfaaaDoor
set_option linter.unusedSimpArgs false
set_option linter.unusedVariables false
section
set_option linter.unusedSimpArgs false
set_option linter.unusedVariables false
open Go.ChangeAt Go.ChangeShapes Go.RowKit Go.WideShapes

theorem wAt_nat (ws : List (List Int)) (i : Nat) : wAt ws (i : Nat) = ws.getD i [] := by unfold wAt; rw [Int.toNat_natCast]
theorem linkFits_any (A L C : Option Addr) (cA m d k0 e0 : Nat) (ws : List (List Int)) (l : Lk) (w : World) (hn : ws.length ≤ 48) (r : RdQ w w.heap.size A ws.length ws) (hf : ws.all formN = true) (ht : Arit w) (hu : Dual w) :
    Calls Tryd.prog 62 #[.agg #[.slice A ws.length cA, .slice L m d, .slice C k0 e0], .agg #[.int .i64 l.k, .int .i64 l.a, .int .i64 l.b, .int .i64 l.c]] w fun e w' => e = .returned (.bool (fitsN ws l)) ∧ Below w.heap.size w w' := by
  obtain ⟨k, a, b, c⟩ := l
  dsimp only
  unfold fitsN
  dsimp only
  cases ha : inW ws.length a with
  | false => exact lf_na A L C cA m d k0 e0 ws w k a b c hn ha
  | true =>
  cases hb : inW ws.length b with
  | false => exact lf_nb A L C cA m d k0 e0 ws w k a b c hn ha hb
  | true =>
  cases hc : inW ws.length c with
  | false => exact lf_nc A L C cA m d k0 e0 ws w k a b c hn ha hb hc
  | true =>
  rw [Bool.true_and, Bool.true_and, Bool.true_and]
  obtain ⟨_, hia, ea⟩ := inW_yes ha
  obtain ⟨_, hib, eb⟩ := inW_yes hb
  obtain ⟨_, hic, ec⟩ := inW_yes hc
  generalize a.toNat = ia at *
  generalize b.toNat = ib at *
  generalize c.toNat = ic at *
  subst ea eb ec
  clear ha hb hc
  have va := formN_valid (all_at (d := []) hf hia)
  cases hcz : (((ic : Nat) : Int) == (lnk k ia ib ic).c) with
  | false =>
    have h34 : ¬ (k = 3 ∨ k = 4) := fun e => by
      unfold lnk at hcz
      dsimp only at hcz
      rw [if_pos e] at hcz
      simp at hcz
    have h0 : ¬ ((ic : Nat) : Int) = 0 := fun e => by
      unfold lnk at hcz
      dsimp only at hcz
      rw [if_neg h34, e] at hcz
      simp at hcz
    have e : rightN ws ⟨k, ia, ib, ic⟩ = false := by
      unfold rightN
      dsimp only
      by_cases h12 : k = 1 ∨ k = 2
      · rw [if_pos h12, decide_eq_false h0]; rfl
      · rw [if_neg h12, if_neg (fun e => h34 (.inl e)), if_neg (fun e => h34 (.inr e))]
    rw [e]
    exact lf_ne A L C cA m d k0 e0 ws w k _ ia ib ic hn hia hib hic r hf ht hu rfl hcz
  | true =>
    have e12 : k = 1 ∨ k = 2 → rightN ws ⟨k, ia, ib, ic⟩ = decide (ws.getD ib [] = dualL (ws.getD ia [])) := fun h12 => by
      have h34 : ¬ (k = 3 ∨ k = 4) := by omega
      have h0 : ((ic : Nat) : Int) = 0 := by
        unfold lnk at hcz
        dsimp only at hcz
        rw [if_neg h34] at hcz
        simpa using hcz
      unfold rightN
      dsimp only
      rw [if_pos h12, decide_eq_true h0, Bool.true_and, wAt_nat, wAt_nat, dualL_yes va]
    by_cases h1 : k = 1
    · rw [e12 (.inl h1)]
      exact lf_1 A L C cA m d k0 e0 ws w k _ ia ib ic hn hia hib hic r hf ht hu rfl hcz (by simpa using h1)
    by_cases h2 : k = 2
    · rw [e12 (.inr h2)]
      exact lf_2 A L C cA m d k0 e0 ws w k _ ia ib ic hn hia hib hic r hf ht hu rfl hcz (by simpa using h1) (by simpa using h2)
    by_cases h3 : k = 3
    · have e : rightN ws ⟨k, ia, ib, ic⟩ = decide (ws.getD ic [] = opK k :: (ws.getD ia [] ++ ws.getD ib [])) := by
        subst h3
        unfold rightN
        dsimp only
        rw [if_neg (by omega), if_pos rfl, wAt_nat, wAt_nat, wAt_nat]
        rfl
      rw [e]
      exact lf_3 A L C cA m d k0 e0 ws w k _ ia ib ic hn hia hib hic r hf ht hu rfl hcz (by simpa using h1) (by simpa using h2) (by simpa using h3)
    by_cases h4 : k = 4
    · have e : rightN ws ⟨k, ia, ib, ic⟩ = decide (ws.getD ic [] = opK k :: (ws.getD ia [] ++ ws.getD ib [])) := by
        subst h4
        unfold rightN
        dsimp only
        rw [if_neg (by omega), if_neg (by omega), if_pos rfl, wAt_nat, wAt_nat, wAt_nat]
        rfl
      rw [e]
      exact lf_4 A L C cA m d k0 e0 ws w k _ ia ib ic hn hia hib hic r hf ht hu rfl hcz (by simpa using h1) (by simpa using h2) (by simpa using h3) (by simpa using h4)
    have e : rightN ws ⟨k, ia, ib, ic⟩ = false := by
      unfold rightN
      dsimp only
      rw [if_neg (by omega), if_neg h3, if_neg h4]
    rw [e]
    exact lf_o A L C cA m d k0 e0 ws w k _ ia ib ic hn hia hib hic r hf ht hu rfl hcz (by simpa using h1) (by simpa using h2) (by simpa using h3) (by simpa using h4)
theorem valN_ends {N : Nt} (h1 : N.w.length ≤ 48 ∧ N.l.length ≤ 48) (h2 : N.w.all formN = true) (h3 : N.l.all (fitsN N.w) = true) (h4 : N.c.all (inW N.w.length) = true) : valN N = evenN N := by
  unfold valN; rw [decide_eq_true h1, h2, h3, h4]; rfl
set_option maxRecDepth 100000 in
set_option maxHeartbeats 4000000 in
theorem validNet_in (h : NH) (N : Nt) (w : World) (r : RdN w w.heap.size h N) (h1 : N.w.length ≤ 48) (h2 : N.l.length ≤ 48) (h3 : N.c.length ≤ 1048576) (ht : Arit w) (hu : Dual w) :
    Calls Tryd.prog 18 #[.agg #[.slice h.A N.w.length h.c, .slice h.L N.l.length h.d, .slice h.C N.c.length h.e]] w fun e w' => e = .returned (.bool (valN N)) ∧ Below w.heap.size w w' := by
  obtain ⟨A, cA, hs, L, dL, C, e0⟩ := h
  obtain ⟨ws, ls, cs⟩ := N
  dsimp only at *
  obtain ⟨w0, hw0⟩ : ∃ w0, w0 = w.alloc (.cells #[.slice A ws.length cA, .slice L ls.length dL, .slice C cs.length e0] 28) := ⟨_, rfl⟩
  obtain ⟨hb, hh, hsz⟩ := box3_any w (.slice A ws.length cA) (.slice L ls.length dL) (.slice C cs.length e0) 28
  rw [← hw0] at hb hh hsz
  have HK : Hid (∀ w', Below w0.heap.size w0 w' → w'.cell? ⟨w.heap.size, 0, none⟩ = some (.slice A ws.length cA) ∧ w'.cell? ⟨w.heap.size, 1, none⟩ = some (.slice L ls.length dL) ∧ w'.cell? ⟨w.heap.size, 2, none⟩ = some (.slice C cs.length e0)) := Lib.hid fun w' hw => three_cells ((hw.block _ (by omega)).trans hh)
  have HR := Lib.hid (fun (w' : World) (hw : Below w0.heap.size w0 w') => show RdN w' w'.heap.size ⟨A, cA, hs, L, dL, C, e0⟩ ⟨ws, ls, cs⟩ from (r.below (hb.trans (hw.mono hb.size))).more (Nat.le_trans hb.size hw.size))
  have HT := Lib.hid (fun (w' : World) (hw : Below w0.heap.size w0 w') => show Arit w' ∧ Dual w' from ⟨ht.below (hb.trans (hw.mono hb.size)) ht.lt, hu.below (hb.trans (hw.mono hb.size)) hu.lt⟩)
  have HB0 := Lib.hid hb
  obtain ⟨y0, y1, y2⟩ := three_cells hh
  have d1 : decide ((48 : Int) < (ws.length : Int)) = false := decide_eq_false (by omega)
  have d2 : decide ((48 : Int) < (ls.length : Int)) = false := decide_eq_false (by omega)
  clear hb hh hsz r ht hu
  go_enter Tryd.func18, Tryd.ntmps18
  go_wp2_with (fail)
  rw [← hw0]
  clear hw0
  go_loopw [22] (fun i wr => ∃ k : Nat, k ≤ ws.length ∧ i = .int .i64 k ∧ (ws.take k).all formN = true ∧ Below w0.heap.size w0 wr) (fun i _ => ws.length - (intOf i).toNat)
  case atStart => exact ⟨0, Nat.zero_le _, rfl, by simp, Below.refl _ _⟩
  case round =>
    obtain ⟨k, hk, rfl, hall, hB⟩ := hrel
    clear y0 y1 y2
    obtain ⟨y0, y1, y2⟩ := HK.out _ hB
    by_cases hlt : k < ws.length
    · obtain ⟨b, off, hA, hbb, hcells⟩ := (HR.out _ hB).1.2 (show 0 < ws.length by omega)
      dsimp only at hA
      subst hA
      obtain ⟨A', c', hcell, hcc, hrd⟩ := hcells k hlt
      have hF := isWireForm_any A' _ c' _ wr hrd (HT.out _ hB).1 hcc
      cases hv : formN (ws.getD k []) with
      | false =>
        have HE : Hid (false = valN ⟨ws, ls, cs⟩) := Lib.hid (valN_badw (N := ⟨ws, ls, cs⟩) hlt hv).symm
        rw [hv] at hF
        have HF := Lib.hid hF; have HB := Lib.hid hB
        clear hF hcells hrd hv hall hB hcc
        generalize (ws.getD k []).length = M at *
        go_wp2_with (fail)
        refine HF.out.mono ?_
        rintro e w1 ⟨rfl, rfl⟩
        have HB1 := Lib.hid (HB0.out.trans (HB.out.mono HB0.out.size))
        go_wp2
        go_ret
        exact ⟨ret_bool' HE.out, HB1.out⟩
      | true =>
        have HA := Lib.hid (all_step hlt hall hv)
        rw [hv] at hF
        have HF := Lib.hid hF; have HB := Lib.hid hB
        clear hF hcells hrd hv hall hB hcc
        generalize (ws.getD k []).length = M at *
        go_wp2_with (fail)
        refine HF.out.mono ?_
        rintro e w1 ⟨rfl, rfl⟩
        go_wp2
        go_roundw
        case rel => exact ⟨k + 1, by omega, by go_num, HA.out, HB.out⟩
        case measure => simp [intOf]; omega
    · have hkl : k = ws.length := by omega
      subst hkl
      rw [List.take_of_length_le (Nat.le_refl _)] at hall
      have HW := Lib.hid hall; have HB := Lib.hid hB
      clear hall hB
      go_wp2
      go_loopw [33] (fun i wx => ∃ k : Nat, k ≤ ls.length ∧ i = .int .i64 k ∧ (ls.take k).all (fitsN ws) = true ∧ Below w0.heap.size w0 wx) (fun i _ => ls.length - (intOf i).toNat)
      case atStart => exact ⟨0, Nat.zero_le _, rfl, by simp, HB.out⟩
      case round =>
        obtain ⟨k, hk, rfl, hall, hB⟩ := hrel
        clear y0 y1 y2 HB
        obtain ⟨y0, y1, y2⟩ := HK.out _ hB
        by_cases hlt : k < ls.length
        · obtain ⟨b, off, hA, hbb, hcells⟩ := (HR.out _ hB).2.1.at (show 0 < ls.length by omega)
          dsimp only at hA
          subst hA
          obtain ⟨x0, x1, x2, x3⟩ := hcells k hlt
          have hst := fun hb => all_step (d := Lk.nil) hlt hall hb
          have hbd := fun hb => valN_badl (N := ⟨ws, ls, cs⟩) hlt hb
          dsimp only at hbd
          obtain ⟨⟨lk, la, lb, lc⟩, hl⟩ : ∃ l, ls.getD k Lk.nil = l := ⟨_, rfl⟩
          rw [hl] at x0 x1 x2 x3 hst hbd
          dsimp only at x0 x1 x2 x3
          obtain ⟨bl, z0, z1, z2, z3, zs⟩ := lnk_any wr ⟨lk, la, lb, lc⟩ 75
          dsimp only at bl z0 z1 z2 z3
          have hB1 := hB.trans (bl.mono hB.size)
          have hcut : wr.heap.size = wr.heap.size := rfl
          obtain ⟨y0', y1', y2'⟩ := HK.out _ hB1
          have hLF := linkFits_any A (some ⟨b, off, none⟩) C cA ls.length dL cs.length e0 ws ⟨lk, la, lb, lc⟩ _ h1 (HR.out _ hB1).1 HW.out (HT.out _ hB1).1 (HT.out _ hB1).2
          dsimp only at hLF
          have HB1 := Lib.hid hB1
          clear hcells hall hB bl zs hl hB1 hcut
          cases hv : fitsN ws ⟨lk, la, lb, lc⟩ with
          | false =>
            have HE : Hid (false = valN ⟨ws, ls, cs⟩) := Lib.hid (hbd hv).symm
            rw [hv] at hLF
            have HLF := Lib.hid hLF
            clear hLF hst hbd hv
            go_wp2_with (fail)
            refine HLF.out.mono ?_
            rintro e w1 ⟨rfl, bel⟩
            have HBX := Lib.hid (HB0.out.trans ((HB1.out.trans (bel.mono HB1.out.size)).mono HB0.out.size))
            clear bel
            go_wp2
            go_ret
            exact ⟨ret_bool' HE.out, HBX.out⟩
          | true =>
            have HA := Lib.hid (hst hv)
            rw [hv] at hLF
            have HLF := Lib.hid hLF
            clear hLF hst hbd hv
            go_wp2_with (fail)
            refine HLF.out.mono ?_
            rintro e w1 ⟨rfl, bel⟩
            have HBX := Lib.hid (HB1.out.trans (bel.mono HB1.out.size))
            clear bel
            go_wp2
            go_roundw
            case rel => exact ⟨k + 1, by omega, by go_num, HA.out, HBX.out⟩
            case measure => simp [intOf]; omega
        · have hkl : k = ls.length := by omega
          subst hkl
          rw [List.take_of_length_le (Nat.le_refl _)] at hall
          have HL := Lib.hid hall; have HB := Lib.hid hB
          clear hall hB
          go_wp2
          go_loopw [45] (fun i wx => ∃ k : Nat, k ≤ cs.length ∧ i = .int .i64 k ∧ (cs.take k).all (inW ws.length) = true ∧ Below w0.heap.size w0 wx) (fun i _ => cs.length - (intOf i).toNat)
          case atStart => exact ⟨0, Nat.zero_le _, rfl, by simp, HB.out⟩
          case round =>
            obtain ⟨k, hk, rfl, hall, hB⟩ := hrel
            clear y0 y1 y2 HB
            obtain ⟨y0, y1, y2⟩ := HK.out _ hB
            by_cases hlt : k < cs.length
            · obtain ⟨b, off, hA, hbb, hcells⟩ := (HR.out _ hB).2.2.2 (show 0 < cs.length by omega)
              dsimp only at hA
              subst hA
              have hcell := hcells k hlt
              have hst := fun hb => all_step (d := 0) hlt hall hb
              have hbd := fun hb => valN_badc (N := ⟨ws, ls, cs⟩) hlt hb
              dsimp only at hbd
              obtain ⟨z, hz⟩ : ∃ z, cs.getD k 0 = z := ⟨_, rfl⟩
              rw [hz] at hcell hst hbd
              have hIW := isWire_any A L (some ⟨b, off, none⟩) ws.length cA ls.length dL cs.length e0 z wr (by unfold maxLen; omega)
              have HB := Lib.hid hB
              clear hcells hz hall hB
              cases hv : inW ws.length z with
              | false =>
                have HE : Hid (false = valN ⟨ws, ls, cs⟩) := Lib.hid (hbd hv).symm
                rw [hv] at hIW
                have HIW := Lib.hid hIW
                clear hIW hst hbd hv
                go_wp2_with (fail)
                refine HIW.out.mono ?_
                rintro e w1 ⟨rfl, bel⟩
                have HBX := Lib.hid (HB0.out.trans ((HB.out.trans (bel.mono HB.out.size)).mono HB0.out.size))
                clear bel
                go_wp2
                go_ret
                exact ⟨ret_bool' HE.out, HBX.out⟩
              | true =>
                have HA := Lib.hid (hst hv)
                rw [hv] at hIW
                have HIW := Lib.hid hIW
                clear hIW hst hbd hv
                go_wp2_with (fail)
                refine HIW.out.mono ?_
                rintro e w1 ⟨rfl, bel⟩
                have HBX := Lib.hid (HB.out.trans (bel.mono HB.out.size))
                clear bel
                go_wp2
                go_roundw
                case rel => exact ⟨k + 1, by omega, by go_num, HA.out, HBX.out⟩
                case measure => simp [intOf]; omega
            · have hkl : k = cs.length := by omega
              subst hkl
              rw [List.take_of_length_le (Nat.le_refl _)] at hall
              have HC := Lib.hid hall; have HB := Lib.hid hB
              have hVE : valN ⟨ws, ls, cs⟩ = evenN ⟨ws, ls, cs⟩ := valN_ends (N := ⟨ws, ls, cs⟩) ⟨h1, h2⟩ HW.out HL.out hall
              have hUF := usesFit_any ⟨A, cA, hs, L, dL, C, e0⟩ ⟨ws, ls, cs⟩ wr (HR.out _ hB) h1 h2 h3 (fun l hl => by
                have := fitsN_yes ((List.all_eq_true.1 HL.out) l hl)
                exact ⟨this.1, this.2.1, this.2.2.1⟩) hall
              rw [← hVE] at hUF
              dsimp only at hUF
              have HUF := Lib.hid hUF
              clear hall hB hVE hUF
              go_wp2_with (fail)
              refine HUF.out.mono ?_
              rintro e w1 ⟨rfl, bel⟩
              have HBX := Lib.hid (HB0.out.trans ((HB.out.trans (bel.mono HB.out.size)).mono HB0.out.size))
              clear bel
              go_wp2
              go_ret
              exact ⟨rfl, HBX.out⟩
theorem validNet_impl (h : NH) (N : Nt) (w : World) (r : RdN w w.heap.size h N) (sm : SmallN N) (ht : Arit w) (hu : Dual w) :
    Calls Tryd.prog 18 #[.agg #[.slice h.A N.w.length h.c, .slice h.L N.l.length h.d, .slice h.C N.c.length h.e]] w fun e w' => e = .returned (.bool (valN N)) ∧ Below w.heap.size w w' := by
  by_cases hg : N.w.length ≤ 48 ∧ N.l.length ≤ 48
  · exact validNet_in h N w r hg.1 hg.2 sm.c ht hu
  · rw [valN_great (by omega)]
    have s1 := sm.w; have s2 := sm.l; have s3 := sm.c
    obtain ⟨A, cA, hs, L, dL, C, e0⟩ := h
    obtain ⟨ws, ls, cs⟩ := N
    dsimp only at *
    obtain ⟨hb, hh, hsz⟩ := box3_any w (.slice A ws.length cA) (.slice L ls.length dL) (.slice C cs.length e0) 28
    obtain ⟨w0, hw0⟩ : ∃ w0, w0 = w.alloc (.cells #[.slice A ws.length cA, .slice L ls.length dL, .slice C cs.length e0] 28) := ⟨_, rfl⟩
    rw [← hw0] at hb hh hsz
    obtain ⟨y0, y1, y2⟩ := three_cells hh
    have HB0 := Lib.hid hb
    clear hb hh hsz r
    by_cases h1 : ws.length ≤ 48
    · have d1 : decide ((48 : Int) < (ws.length : Int)) = false := decide_eq_false (by omega)
      have d2 : decide ((48 : Int) < (ls.length : Int)) = true := decide_eq_true (by omega)
      clear hg h1
      go_enter Tryd.func18, Tryd.ntmps18
      go_wp2_with (fail)
      rw [← hw0]
      go_ret
      exact ⟨rfl, HB0.out⟩
    · have d1 : decide ((48 : Int) < (ws.length : Int)) = true := decide_eq_true (by omega)
      clear hg h1
      go_enter Tryd.func18, Tryd.ntmps18
      go_wp2_with (fail)
      rw [← hw0]
      go_ret
      exact ⟨rfl, HB0.out⟩
end
section
set_option linter.unusedSimpArgs false
set_option linter.unusedVariables false
open Go.ChangeAt Go.ChangeShapes Go.RowKit Go.WideShapes

set_option maxRecDepth 100000 in
set_option maxHeartbeats 1000000 in
theorem clone_x (A : Option Addr) (n c : Nat) (zs : List Int) (w : World) (h : RdI w w.heap.size A n zs) (hn : n ≤ 1048576) :
    Calls Tryd.prog 84 #[.slice A n c] w (Gives w zs) := by
  obtain ⟨i0, hi0, hz0, hz1, hz2⟩ := info_parts info_i64
  have hl := h.len
  subst hl
  cases A with
  | none =>
    have h0 : zs.length = 0 := by
      by_cases e : 0 < zs.length
      · obtain ⟨b, off, e2, _⟩ := h.2 e
        cases e2
      · omega
    obtain rfl : zs = [] := List.eq_nil_of_length_eq_zero h0
    have hnil : ∀ wx : World, (binOp .eql 26 (.slice none 0 c) (.slice none 0 0)).run Tryd.prog wx = .ok (.bool true) wx := fun wx => Lib.run_eql_slice_nil wx 26 2 _ _ _ _ _ Tryd.underlying26
    have HG := Lib.hid (gives_nil (Below.refl w.heap.size w))
    clear h h0 hi0 hz0 hz1 hz2 hn
    rw [List.length_nil]
    go_enter Tryd.func84, Tryd.ntmps84
    go_wp2
    go_ret
    exact HG.out
  | some a =>
    have hnil : ∀ wx : World, (binOp .eql 26 (.slice (some a) zs.length c) (.slice none 0 0)).run Tryd.prog wx = .ok (.bool false) wx := fun wx => Lib.run_eql_slice_nil wx 26 2 _ _ _ _ _ Tryd.underlying26
    have hb0 : Below w.heap.size w (w.alloc (.cells #[] 2)) := (Below.refl _ _).alloc (Nat.le_refl _) _
    have H0 := Lib.hid (World.ownsRow_made (e := 2) (base := w.heap.size) (size := 1) w #[] 0 (Nat.le_refl _) (by simp [maxLen]) rfl)
    have HN1 : Hid (∀ j u, (zs.map (Value.int .i64))[j]? = some u → (w.alloc (.cells #[] 2)).cell? (a.add j) = some u) := Lib.hid (fun j u hu => by
      by_cases e : 0 < zs.length
      · obtain ⟨b1, off1, e2, hb1, hc1⟩ := h.2 e
        injection e2 with e2
        subst e2
        exact part_news (fun j hj => (hb0.cell (p := ⟨b1, off1 + j, none⟩) hb1).trans (hc1 j hj)) j u hu
      · rw [List.eq_nil_of_length_eq_zero (by omega : zs.length = 0)] at hu
        simp at hu)
    have HB0 := Lib.hid hb0
    have HL1 : Hid ((zs.map (Value.int .i64)).length = zs.length * 1) := Lib.hid (by simp)
    have HHO := Lib.hid (ints_one zs)
    have HM1 : Hid (0 + zs.length ≤ maxLen) := Lib.hid (by unfold maxLen; omega)
    have HS1 : Hid ((0 + zs.length) * 8 ≤ 140737488355328) := Lib.hid (by omega)
    have HJ : Hid ([] ++ zs.map (Value.int .i64) = zs.map (Value.int .i64)) := Lib.hid (by simp)
    have HI := Lib.hid hi0; have HZ0 := Lib.hid hz0; have HZ1 := Lib.hid hz1; have HZ2 := Lib.hid hz2
    have HLL : Hid (0 + zs.length = zs.length) := Lib.hid (by omega)
    clear hb0 hi0 hz0 hz1 hz2 h
    go_enter Tryd.func84, Tryd.ntmps84
    go_wp2_with (at_builtin; refine wpList_append_own _ rfl _ _ 26 rfl w.heap.size 2 i0 (.int .i64 0) 1 8 Tryd.underlying26 HI.out HZ0.out HZ1.out HZ2.out rfl (by decide) _ _ _ rfl H0.out a zs.length c (zs.map (Value.int .i64)) rfl HL1.out HN1.out HHO.out HM1.out HS1.out HB0.out.size ?_; intro v2 w2 hown2 hgrow2 _; obtain ⟨A2, c2, rfl, HO2, HB2⟩ := app_news HB0 H0 hown2 hgrow2 HJ HLL.out; clear hown2 hgrow2)
    go_ret
    exact ⟨_, _, rfl, HO2.out, HB2.out⟩
end
section
set_option linter.unusedSimpArgs false
set_option linter.unusedVariables false
open Go.ChangeAt Go.ChangeShapes Go.RowKit Go.WideShapes

/-- What placed holds: the target, grown, and its box. -/
structure PlSt (wb w0 wr : World) (sx : Nat) (hT : NH) (T : Nt) (h : NH) (M : Nt) : Prop where
  own : OwnN wr wb.heap.size wr.heap.size h M
  far : ∀ b, b < w0.heap.size → FarN hT T b → FarN h M b
  keep : ∀ b, b < w0.heap.size → FarN hT T b → b ≠ sx → wr.heap[b]? = w0.heap[b]?
  box : wr.heap[sx]? = some (.cells #[.slice h.A M.w.length h.c, .slice h.L M.l.length h.d, .slice h.C M.c.length h.e] 28 (0, 0))
  bel : Below wb.heap.size wb wr
  size : w0.heap.size ≤ wr.heap.size
  sxl : sx < w0.heap.size
  sxf : FarN hT T sx
  sxb : wb.heap.size ≤ sx
section
variable {wb w0 wr w' : World} {sx : Nat} {hT h : NH} {T M : Nt}
theorem PlSt.below (p : PlSt wb w0 wr sx hT T h M) (hb : Below wr.heap.size wr w') : PlSt wb w0 w' sx hT T h M where
  own := (p.own.below hb).more (Nat.le_refl _) hb.size
  far := p.far
  keep b h1 h2 h3 := (hb.block b (Nat.lt_of_lt_of_le h1 p.size)).trans (p.keep b h1 h2 h3)
  box := (hb.block sx (Nat.lt_of_lt_of_le p.sxl p.size)).trans p.box
  bel := p.bel.trans (hb.mono p.bel.size)
  size := Nat.le_trans p.size hb.size
  sxl := p.sxl
  sxf := p.sxf
  sxb := p.sxb
theorem PlSt.drew (p : PlSt wb w0 wr sx hT T h M) : PlSt wb w0 wr.drew sx hT T h M := p.below ((Below.refl _ _).drew)
theorem PlSt.cell (p : PlSt wb w0 wr sx hT T h M) {b off : Nat} (h1 : b < w0.heap.size) (h2 : FarN hT T b) (h3 : b ≠ sx) : wr.cell? ⟨b, off, none⟩ = w0.cell? ⟨b, off, none⟩ := by
  unfold World.cell?
  rw [p.keep b h1 h2 h3]
theorem PlSt.ne (p : PlSt wb w0 wr sx hT T h M) {g : Nat} (hA : h.A = some ⟨g, 0, none⟩) (hl : 0 < M.w.length) {b : Nat} (h1 : b < w0.heap.size) (h2 : FarN hT T b) : b ≠ g := fun e => by
  have := (p.far b h1 h2).a
  rw [hA, e] at this
  obtain ⟨n, hn⟩ : ∃ n, M.w.length = n + 1 := ⟨M.w.length - 1, by omega⟩
  rw [hn] at this
  exact this rfl
theorem PlSt.storeW {g k c' : Nat} {A : Option Addr} {q : List Int} {u : World} (p : PlSt wb w0 wr sx hT T h M) (hA : h.A = some ⟨g, 0, none⟩) (hk : k < M.w.length) (hg : wb.heap.size ≤ g) (own : u.ownsRow wr.heap.size 2 1 (.slice A q.length c') q.length (q.map (Value.int .i64))) (bel : Below wr.heap.size wr u) :
    PlSt wb w0 (u.setCell ⟨g, k, none⟩ (.slice A q.length c')) sx hT T ⟨h.A, h.c, upd h.hs k (A, c'), h.L, h.d, h.C, h.e⟩ ⟨M.w.set k q, M.l, M.c⟩ := by
  obtain ⟨o5, f5⟩ := p.own.storeW hA hk p.bel own bel
  have p4 := p.below bel
  have hsx : sx ≠ g := p.ne hA (by omega) p.sxl p.sxf
  have es : (u.setCell ⟨g, k, none⟩ (.slice A q.length c')).heap.size = u.heap.size := by simp
  exact {
    own := o5
    far := fun b h1 h2 => f5 b (Nat.lt_of_lt_of_le h1 p.size) (p.far b h1 h2)
    keep := fun b h1 h2 h3 => (Below.heap_setCell _ _ _ _ (by show b ≠ g; exact p.ne hA (by omega) h1 h2)).trans (p4.keep b h1 h2 h3)
    box := by
      show _ = some (Obj.cells #[.slice h.A (M.w.set k q).length h.c, .slice h.L M.l.length h.d, .slice h.C M.c.length h.e] 28 (0, 0))
      rw [List.length_set]
      exact (Below.heap_setCell _ _ _ _ (by show sx ≠ g; exact hsx)).trans p4.box
    bel := p4.bel.setCell (p := ⟨g, k, none⟩) hg _
    size := by rw [es]; exact p4.size
    sxl := p.sxl
    sxf := p.sxf
    sxb := p.sxb }
theorem PlSt.neL (p : PlSt wb w0 wr sx hT T h M) {g : Nat} (hL : h.L = some ⟨g, 0, none⟩) (hl : 0 < M.l.length) {b : Nat} (h1 : b < w0.heap.size) (h2 : FarN hT T b) : b ≠ g := fun e => by
  have := (p.far b h1 h2).l
  rw [hL, e] at this
  obtain ⟨n, hn⟩ : ∃ n, M.l.length = n + 1 := ⟨M.l.length - 1, by omega⟩
  rw [hn] at this
  exact this rfl
theorem PlSt.storeL {g k : Nat} {l : Lk} (p : PlSt wb w0 wr sx hT T h M) (hL : h.L = some ⟨g, 0, none⟩) (hk : k < M.l.length) (hg : wb.heap.size ≤ g) :
    PlSt wb w0 (fourW wr g (k * 4) (.int .i64 l.k) (.int .i64 l.a) (.int .i64 l.b) (.int .i64 l.c)) sx hT T h ⟨M.w, M.l.set k l, M.c⟩ := by
  obtain ⟨o5, f5⟩ := p.own.storeL (l := l) hL hk
  have hsx : sx ≠ g := p.neL hL (by omega) p.sxl p.sxf
  have b5 := four_below p.bel hg (.int .i64 l.k) (.int .i64 l.a) (.int .i64 l.b) (.int .i64 l.c) (o := k * 4)
  have es : wr.heap.size ≤ (fourW wr g (k * 4) (.int .i64 l.k) (.int .i64 l.a) (.int .i64 l.b) (.int .i64 l.c)).heap.size := (four_below (Below.refl wr.heap.size wr |>.mono (Nat.zero_le _)) (Nat.zero_le g) _ _ _ _).size
  exact {
    own := o5.size
    far := fun b h1 h2 => f5 b (p.far b h1 h2)
    keep := fun b h1 h2 h3 => (four_heap (p.neL hL (by omega) h1 h2)).trans (p.keep b h1 h2 h3)
    box := by
      show _ = some (Obj.cells #[.slice h.A M.w.length h.c, .slice h.L (M.l.set k l).length h.d, .slice h.C M.c.length h.e] 28 (0, 0))
      rw [List.length_set]
      exact (four_heap hsx).trans p.box
    bel := b5
    size := Nat.le_trans p.size es
    sxl := p.sxl
    sxf := p.sxf
    sxb := p.sxb }
theorem set2_at {w : World} {b : Nat} {a0 a1 a2 : Value} {t : TypeId} (h : w.heap[b]? = some (.cells #[a0, a1, a2] t (0, 0))) (v : Value) : (w.setCell ⟨b, 2, none⟩ v).heap[b]? = some (.cells #[a0, a1, v] t (0, 0)) := by
  have := heap_setCell_same w b 2 _ t v h
  simpa using this
theorem PlSt.pushC {u u' : World} {C : Option Addr} {e : Nat} {cs : List Int} (p : PlSt wb w0 wr sx hT T h M) (hb : Below wr.heap.size wr u) (hc : u'.ownsRow wb.heap.size 2 1 (.slice C cs.length e) cs.length (cs.map (Value.int .i64))) (hg : u.grownBy u' (Value.slice h.C M.c.length h.e).ownBlock)
    (hat : (Value.slice C cs.length e).ownBlock = (Value.slice h.C M.c.length h.e).ownBlock ∨ (Value.slice C cs.length e).ownBlock = some u.heap.size) :
    PlSt wb w0 (u'.setCell ⟨sx, 2, none⟩ (.slice C cs.length e)) sx hT T ⟨h.A, h.c, h.hs, h.L, h.d, C, e⟩ ⟨M.w, M.l, cs⟩ := by
  have o5 := p.own.pushC hb hc hg hat
  have hsb : ∀ b, b < w0.heap.size → FarN hT T b → FarN ⟨h.A, h.c, h.hs, h.L, h.d, C, e⟩ ⟨M.w, M.l, cs⟩ b := fun b h1 h2 => (p.far b h1 h2).pushC hat (Nat.lt_of_lt_of_le h1 (Nat.le_trans p.size hb.size))
  have hk : ∀ b, b < w0.heap.size → FarN hT T b → u'.heap[b]? = wr.heap[b]? := fun b h1 h2 => (hg.block b (Nat.lt_of_lt_of_le h1 (Nat.le_trans p.size hb.size)) (fun e2 => (p.far b h1 h2).c e2.symm)).trans (hb.block b (Nat.lt_of_lt_of_le h1 p.size))
  have hB : Below wb.heap.size wb u' := (p.bel.trans (hb.mono p.bel.size)).grown hg (Nat.le_trans p.bel.size hb.size) (fun q hq => (p.own.c.lt q hq).1)
  have es : (u'.setCell ⟨sx, 2, none⟩ (.slice C cs.length e)).heap.size = u'.heap.size := by simp
  exact {
    own := by
      have := o5.farSet (hsb sx p.sxl p.sxf) 2 (.slice C cs.length e)
      rw [es]; exact this
    far := hsb
    keep := fun b h1 h2 h3 => (Below.heap_setCell _ _ _ _ (by show b ≠ sx; exact h3)).trans ((hk b h1 h2).trans (p.keep b h1 h2 h3))
    box := set2_at ((hk sx p.sxl p.sxf).trans p.box) _
    bel := hB.setCell (p := ⟨sx, 2, none⟩) p.sxb _
    size := by rw [es]; exact Nat.le_trans p.size (Nat.le_trans hb.size hg.size)
    sxl := p.sxl
    sxf := p.sxf
    sxb := p.sxb }
end
theorem placed_out {wb w w0 wr : World} {hT h : NH} {T M : Nt} {b2 : Nat} (p : PlSt wb w0 wr w.heap.size hT T h M) (hbw : Below w.heap.size w w0) (h1 : b2 < w0.heap.size) (h2 : FarN hT T b2) (h3 : w.heap.size < b2) {u0 u1 u2 : Value} :
    ∃ h' : NH, Ending.returned (.agg #[.slice h.A M.w.length h.c, .slice h.L M.l.length h.d, .slice h.C M.c.length h.e]) = .returned (.agg #[.slice h'.A M.w.length h'.c, .slice h'.L M.l.length h'.d, .slice h'.C M.c.length h'.e]) ∧ OwnN (((wr.setCell ⟨b2, 0, none⟩ u0).setCell ⟨b2, 1, none⟩ u1).setCell ⟨b2, 2, none⟩ u2) wb.heap.size (((wr.setCell ⟨b2, 0, none⟩ u0).setCell ⟨b2, 1, none⟩ u1).setCell ⟨b2, 2, none⟩ u2).heap.size h' M ∧ Below wb.heap.size wb (((wr.setCell ⟨b2, 0, none⟩ u0).setCell ⟨b2, 1, none⟩ u1).setCell ⟨b2, 2, none⟩ u2) ∧ w.heap.size ≤ (((wr.setCell ⟨b2, 0, none⟩ u0).setCell ⟨b2, 1, none⟩ u1).setCell ⟨b2, 2, none⟩ u2).heap.size ∧ ∀ b, b < w.heap.size → FarN hT T b → FarN h' M b ∧ (((wr.setCell ⟨b2, 0, none⟩ u0).setCell ⟨b2, 1, none⟩ u1).setCell ⟨b2, 2, none⟩ u2).heap[b]? = w.heap[b]? := by
  have fb := p.far b2 h1 h2
  have es : (((wr.setCell ⟨b2, 0, none⟩ u0).setCell ⟨b2, 1, none⟩ u1).setCell ⟨b2, 2, none⟩ u2).heap.size = wr.heap.size := by simp
  have hge : wb.heap.size ≤ b2 := Nat.le_trans p.sxb (Nat.le_of_lt h3)
  refine ⟨h, rfl, ?_, ?_, ?_, fun b hb hf => ⟨p.far b (Nat.lt_of_lt_of_le hb hbw.size) hf, ?_⟩⟩
  · rw [es]
    exact ((p.own.farSet fb 0 u0).farSet fb 1 u1).farSet fb 2 u2
  · exact ((p.bel.setCell (p := ⟨b2, 0, none⟩) hge u0).setCell (p := ⟨b2, 1, none⟩) hge u1).setCell (p := ⟨b2, 2, none⟩) hge u2
  · rw [es]; exact Nat.le_trans hbw.size p.size
  · have hne : b ≠ b2 := by omega
    exact (Below.heap_setCell _ _ _ _ hne).trans ((Below.heap_setCell _ _ _ _ hne).trans ((Below.heap_setCell _ _ _ _ hne).trans ((p.keep b (Nat.lt_of_lt_of_le hb hbw.size) hf (by omega)).trans (hbw.block b hb))))
end
section
set_option linter.unusedSimpArgs false
set_option linter.unusedVariables false
open Go.ChangeAt Go.ChangeShapes Go.RowKit Go.WideShapes

def srtI (xs : List Int) : List Int := xs.mergeSort fun x y => decide (x ≤ y)
theorem srtI_perm (xs : List Int) : (srtI xs).Perm xs := List.mergeSort_perm xs _
theorem srtI_le (xs : List Int) : (srtI xs).Pairwise (· ≤ ·) :=
  (List.pairwise_mergeSort (le := fun x y : Int => decide (x ≤ y)) (fun a b c h1 h2 => by simp only [decide_eq_true_eq] at *; omega) (fun a b => by simp only [Bool.or_eq_true, decide_eq_true_eq]; omega) xs).imp fun h => by simpa using h
theorem markL_nat (n : Nat) : (markL 0 n).map Int.toNat = List.range n := by
  unfold markL
  rw [List.map_map]
  conv => rhs; rw [← List.map_id (List.range n)]
  apply List.map_congr_left
  intro i _
  simp only [Function.comp, id]
  omega
theorem permB_all' {xs : List Int} {n : Nat} : permB xs n = true ↔ (∀ x ∈ xs, inW n x = true) ∧ (xs.map Int.toNat).Nodup ∧ xs.length = n := by
  unfold permB perm1
  rw [List.take_length]
  simp only [Bool.and_eq_true, List.all_eq_true, decide_eq_true_eq, and_assoc]
theorem permB_sort (xs : List Int) (n : Nat) : permB xs n = decide (srtI xs = markL 0 n) := by
  have hp := srtI_perm xs
  by_cases h : srtI xs = markL 0 n
  · rw [decide_eq_true h, permB_all']
    rw [h] at hp
    refine ⟨fun x hx => ?_, ?_, ?_⟩
    · have hm := hp.mem_iff.2 hx
      unfold markL at hm
      obtain ⟨i, hi, rfl⟩ := List.mem_map.1 hm
      have := List.mem_range.1 hi
      unfold inW
      exact decide_eq_true (by omega)
    · rw [← (hp.map Int.toNat).nodup_iff, markL_nat]
      exact List.nodup_range
    · rw [← hp.length_eq, markL_len]
  · rw [decide_eq_false h]
    cases hb : permB xs n with
    | false => rfl
    | true =>
      refine absurd ?_ h
      obtain ⟨h1, h2, h3⟩ := permB_all'.1 hb
      have hl : (srtI xs).length = n := by rw [hp.length_eq, h3]
      have hn : (srtI xs).Nodup := hp.nodup_iff.2 (List.Pairwise.of_map _ (fun a b e e2 => e (by rw [e2])) h2)
      have hs : (srtI xs).Pairwise (· < ·) := ((srtI_le xs).and hn).imp fun {a b} h => by
        have h1 := h.1
        have h2 : a ≠ b := h.2
        omega
      have := strict_mark (srtI xs) 0 hs fun y hy => by
        obtain ⟨h4, h5, _⟩ := inW_yes (h1 y (hp.mem_iff.1 hy))
        omega
      rw [this, hl]
theorem permB_hits {xs : List Int} {n : Nat} (h : permB xs n = true) (i : Nat) (hi : i < n) : ∃ t, t < xs.length ∧ (xs.getD t 0).toNat = i := by
  have h1 := of_decide_eq_true ((permB_sort xs n).symm.trans h)
  have hm : (i : Int) ∈ xs := by
    rw [← (srtI_perm xs).mem_iff, h1]
    unfold markL
    exact List.mem_map.2 ⟨i, List.mem_range.2 hi, by omega⟩
  obtain ⟨t, ht, e⟩ := List.getElem_of_mem hm
  refine ⟨t, ht, ?_⟩
  simp [List.getD, ht, e]
theorem rnC_is (N : Nt) (P : List Int) : ∀ k, k ≤ N.c.length → rnC N P k = ((N.c.take k).map fun x => P.getD x.toNat 0) ++ N.c.drop k
  | 0, _ => by simp [rnC]
  | k + 1, hk => by
    have hl : ((N.c.take k).map fun x => P.getD x.toNat 0).length = k := by rw [List.length_map, List.length_take]; omega
    have hd : N.c.drop k = N.c.getD k 0 :: N.c.drop (k + 1) := by
      rw [List.drop_eq_getElem_cons (by omega)]
      simp [List.getD, show k < N.c.length by omega]
    rw [rnC_step, rnC_is N P k (by omega), List.set_append_right _ _ (by omega), hl, Nat.sub_self, hd, List.set_cons_zero, takeL_succ (d := 0) (by omega), List.map_append, List.append_assoc]
    rfl
theorem rnN_place {N : Nt} {P R : List Int} (hv : valN N = true) (hP : permB P N.w.length = true) (hR : permB R N.l.length = true) : plN P R N (roomN N.w.length N.l.length) = rnN N P R := by
  have hPl := (permB_all hP).2
  have hRl := (permB_all hR).2
  unfold plN rnN roomN
  have e1 : plS [] P N.w N.w.length (List.replicate N.w.length []) = rnW N P N.w.length := plS_all (by simp) fun i hi => by
    rw [List.length_replicate] at hi
    have := permB_hits hP i hi
    rwa [hPl] at this
  have e2 : plS Lk.nil R (N.l.map (mapL P)) N.l.length (List.replicate N.l.length Lk.nil) = rnL N P R N.l.length := by
    rw [plS_all (T' := N.l) (by simp) fun i hi => by
      rw [List.length_replicate] at hi
      have := permB_hits hR i hi
      rwa [hRl] at this]
    unfold plS rnL
    have hf : ∀ t, t < N.l.length → (N.l.map (mapL P)).getD t Lk.nil = mapK P (N.l.getD t Lk.nil) := fun t ht => by
      have hk := all_at (d := Lk.nil) (valN_fits hv) ht
      have h1 := fitsN_kind hk
      have h2 := (fitsN_yes hk).2.2.2
      have e : (N.l.map (mapL P)).getD t Lk.nil = mapL P (N.l.getD t Lk.nil) := by simp [List.getD, ht]
      rw [e]
      generalize N.l.getD t Lk.nil = l at *
      unfold mapL mapK
      by_cases h3 : l.k = 3 ∨ l.k = 4
      · rw [if_pos h3, if_pos h3]
      · rw [if_neg h3, if_neg h3]
        have h12 : l.k = 1 ∨ l.k = 2 := by omega
        unfold rightN at h2
        rw [if_pos h12, Bool.and_eq_true] at h2
        rw [of_decide_eq_true h2.1]
    have gen : ∀ (L : List Nat) (T : List Lk), (∀ t ∈ L, t < N.l.length) → L.foldl (fun acc t => acc.set (R.getD t 0).toNat ((N.l.map (mapL P)).getD t Lk.nil)) T = L.foldl (fun acc t => acc.set (R.getD t 0).toNat (mapK P (N.l.getD t Lk.nil))) T := by
      intro L
      induction L with
      | nil => intro T _; rfl
      | cons t L ih =>
        intro T h
        rw [List.foldl_cons, List.foldl_cons, hf t (h t (List.mem_cons_self ..))]
        exact ih _ fun s hs => h s (List.mem_cons_of_mem _ hs)
    exact gen _ _ fun t ht => List.mem_range.1 ht
  have e3 : ([] : List Int) ++ N.c.map (fun x => P.getD x.toNat 0) = rnC N P N.c.length := by
    rw [rnC_is N P _ (Nat.le_refl _), List.take_length, List.drop_length]
    simp
  rw [e1, e2, e3]
end
section
set_option linter.unusedSimpArgs false
set_option linter.unusedVariables false
open Go.ChangeAt Go.ChangeShapes Go.RowKit Go.WideShapes Go.Shelf Go.Lib Go.Sort

theorem sortI_any (g c lo : Nat) (xs : List Int) (w : World) (own : w.ownsRow lo 2 1 (.slice (some ⟨g, 0, none⟩) xs.length c) xs.length (xs.map (Value.int .i64))) (h0 : 0 < xs.length) (hn : xs.length ≤ 1048576) :
    Calls Tryd.prog 115 #[.slice (some ⟨g, 0, none⟩) xs.length c] w fun e w' => e = .returned (.tuple #[]) ∧ w'.ownsRow lo 2 1 (.slice (some ⟨g, 0, none⟩) xs.length c) xs.length ((srtI xs).map (Value.int .i64)) ∧ Below lo w w' := by
  have hg := own.lt g rfl
  have hH : Holds (Value.int .i64) w g 0 xs.toArray := fun j hj => by
    have hj' : j < xs.length := by simpa using hj
    have h1 := own.frozenAt j
    have h2 := own.cellAt j (by omega)
    rw [Nat.zero_add]
    refine ⟨?_, h1⟩
    rw [h2]
    simp [getElem!_pos, hj']
  have hC := AnyM.slices_Sort_int Tryd.sortI g 0 c xs w hH hg.2 (by omega)
  refine (show Calls Tryd.prog 115 _ _ _ from hC).mono ?_
  rintro e w' ⟨he, m, os, rfl⟩
  refine ⟨he, ?_⟩
  have hlen : (srtI xs).length = xs.length := (srtI_perm xs).length_eq
  have ho := ownsRow_putRow (q := m) (k := xs.length) (ys := srtI xs) own hlen (Nat.le_refl _)
  rw [List.take_of_length_le (by omega)] at ho
  have hgl : (putRow (Value.int .i64) (Sort.ahead w m) g 0 (srtI xs).toArray).heap.size = w.heap.size := by simp [putRow, mapBlock, Sort.ahead]
  have hkeep : ∀ k, k ≠ g → k < w.heap.size → (grow (putRow (Value.int .i64) (Sort.ahead w m) g 0 (srtI xs).toArray) os).heap[k]? = w.heap[k]? := by
    intro k hk hkl
    rw [heap_grow_old _ _ (by simp [putRow, mapBlock, Sort.ahead]; exact hkl)]
    have hk' : ¬ g = k := fun e => hk e.symm
    simp [putRow, mapBlock, Sort.ahead, Array.getElem?_modify, hk']
  refine ⟨?_, ⟨rfl, rfl, rfl, ?_, fun k hk => hkeep k (by omega) (by omega)⟩⟩
  · exact own_same ho fun k e => by
      obtain rfl : g = k := by simpa [Value.ownBlock] using e
      exact heap_grow_old _ _ (Nat.lt_of_lt_of_eq hg.2 hgl.symm)
  · show w.heap.size ≤ (grow _ os).heap.size
    rw [size_grow]
    simp [putRow, mapBlock, Sort.ahead]
theorem sortI_x (A : Option Addr) (c : Nat) (xs : List Int) (w w0 : World) (hb : Below w0.heap.size w0 w) (own : w.ownsRow w0.heap.size 2 1 (.slice A xs.length c) xs.length (xs.map (Value.int .i64))) (hn : xs.length ≤ 1048576) :
    Calls Tryd.prog 115 #[.slice A xs.length c] w fun e w' => e = .returned (.tuple #[]) ∧ w'.ownsRow w0.heap.size 2 1 (.slice A xs.length c) (srtI xs).length ((srtI xs).map (Value.int .i64)) ∧ Below w0.heap.size w0 w' := by
  have hlen : (srtI xs).length = xs.length := (srtI_perm xs).length_eq
  by_cases h0 : 0 < xs.length
  · obtain ⟨g, cap, hv, _, _⟩ := own.form h0
    obtain ⟨rfl, rfl⟩ : A = some ⟨g, 0, none⟩ ∧ c = cap := by injection hv with a b c'; exact ⟨a, c'⟩
    refine (sortI_any g c w0.heap.size xs w own h0 hn).mono ?_
    rintro e w' ⟨he, o, b⟩
    exact ⟨he, by rw [hlen]; exact o, hb.trans b⟩
  · have e0 : xs.length = 0 := by omega
    obtain rfl : xs = [] := List.eq_nil_of_length_eq_zero e0
    have hs : srtI [] = [] := List.eq_nil_of_length_eq_zero hlen
    refine (show Calls Tryd.prog 115 #[.slice A 0 c] w _ from AnyM.slices_Sort_int_none Tryd.sortI A c w).mono ?_
    rintro e w' ⟨he, rfl⟩
    exact ⟨he, by rw [hs]; exact own, hb⟩
set_option maxHeartbeats 2000000 in
theorem isPerm_any (A : Option Addr) (m c n : Nat) (xs : List Int) (w : World) (r : RdI w w.heap.size A m xs) (hm : m ≤ 1048576) (hn : n ≤ 1048576) :
    Calls Tryd.prog 72 #[.slice A m c, .int .i64 n] w fun e w' => e = .returned (.bool (permB xs n)) ∧ Below w.heap.size w w' := by
  have hl := r.len
  subst hl
  have HC := Lib.hid (clone_x A xs.length c xs w r hm)
  have hlen : (srtI xs).length = xs.length := (srtI_perm xs).length_eq
  have hbv : permB xs n = decide (srtI xs = markL 0 n) := permB_sort xs n
  rw [hbv]
  obtain ⟨bv, hb2⟩ : ∃ b, decide (srtI xs = markL 0 n) = b := ⟨_, rfl⟩
  rw [hb2]
  have HB2 := Lib.hid hb2
  clear hb2
  have HM : Hid (xs.length ≤ 1048576) := Lib.hid hm; have HN := Lib.hid hn; have HLN := Lib.hid hlen
  clear r hbv hm hn hlen
  go_enter Tryd.func72, Tryd.ntmps72
  go_wp2_with (fail)
  refine HC.out.mono ?_
  rintro e w1 ⟨A1, c1, rfl, o1, b1⟩
  have HS := Lib.hid (sortI_x A1 c1 xs w1 w b1 o1 HM.out)
  clear o1 b1
  go_wp2_with (fail)
  refine HS.out.mono ?_
  rintro e w2 ⟨rfl, o2, b2⟩
  have O2 := Lib.hid o2; have B2 := Lib.hid b2
  have HNF := Lib.hid (show Calls Tryd.prog 56 #[.int .i64 0, .int .i64 n] w2 (Gives w2 (markL 0 n)) from numbersFrom_any 0 n w2 (by omega) HN.out)
  clear o2 b2
  go_wp2_with (fail)
  refine HNF.out.mono ?_
  rintro e w3 ⟨A3, c3, rfl, o3, b3⟩
  have hrd : RdI w3 w3.heap.size A1 xs.length (srtI xs) := by
    have h2 : w2.ownsRow w.heap.size 2 1 (.slice A1 (srtI xs).length c1) (srtI xs).length ((srtI xs).map (Value.int .i64)) := by
      have := O2.out
      rwa [← HLN.out] at this
    have := ((RdI.of_own h2).below b3).more b3.size
    rwa [HLN.out] at this
  have heq := eqI_b A1 A3 xs.length (markL 0 n).length c1 c3 (srtI xs) (markL 0 n) w3 hrd (RdI.of_own o3) HM.out (by rw [markL_len]; exact HN.out)
  rw [HB2.out] at heq
  have HEQ := Lib.hid heq
  have B3 := Lib.hid (B2.out.trans (b3.mono B2.out.size))
  clear o3 b3 hrd heq
  go_wp2_with (fail)
  refine HEQ.out.mono ?_
  rintro e w4 ⟨rfl, b4⟩
  have B4 := Lib.hid (B3.out.trans (b4.mono B3.out.size))
  clear b4
  go_wp2
  go_ret
  exact ⟨rfl, B4.out⟩
end
end Go.Proofs.YtjfhbofgnagfaaaDoor
