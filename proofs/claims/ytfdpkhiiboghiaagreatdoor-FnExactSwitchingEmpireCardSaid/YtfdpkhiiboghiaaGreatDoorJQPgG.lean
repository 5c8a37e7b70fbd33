/- The program's ValidNet. The links of a kind, of the model. Sources and targets, and the program's LinksOfKind. Mathematics: for each wire the link that has it among others; each wire of a valid net stands once among the outputs and at most once among the inputs. -/
import Derived.Test.YtfdpkhiiboghiaaGreatDoorJQPgC
import Derived.Test.YtfdpkhiiboghiaaGreatDoorJPgD
import Derived.Test.YtfdpkhiiboghiaaGreatDoorJPgE
import Derived.Test.YtfdpkhiiboghiaaGreatDoorJPgF
import Derived.Test.YtfdpkhiiboghiaaGreatDoorJQNetZ
import Derived.Test.YtfdpkhiiboghiaaGreatDoorJQMath
namespace Go.Proofs.YtfdpkhiiboghiaaGreatDoor
set_option linter.unusedSimpArgs false
set_option linter.unusedVariables false
section
set_option linter.unusedSimpArgs false
set_option linter.unusedVariables false
open Go.ChangeAt Go.ChangeShapes Go.RowKit Go.WideShapes

theorem wAt_nat (ws : List (List Int)) (i : Nat) : wAt ws (i : Nat) = ws.getD i [] := by unfold wAt; rw [Int.toNat_natCast]
theorem linkFits_any (A L C : Option Addr) (cA m d k0 e0 : Nat) (ws : List (List Int)) (l : Lk) (w : World) (hn : ws.length ≤ 48) (r : RdQ w w.heap.size A ws.length ws) (hf : ws.all formN = true) (ht : Arit w) (hu : Dual w) :
    Calls Tryz.prog 155 #[.agg #[.slice A ws.length cA, .slice L m d, .slice C k0 e0], .agg #[.int .i64 l.k, .int .i64 l.a, .int .i64 l.b, .int .i64 l.c]] w fun e w' => e = .returned (.bool (fitsN ws l)) ∧ Below w.heap.size w w' := by
  obtain ⟨k, a, b, c⟩ := l
  dsimp only
  unfold fitsN
  dsimp only
  cases ha : inW ws.length a with
  | false => exact lf_na A L C cA m d k0 e0 ws w k a b c hn ha
  | true =>
  cases hb : inW ws.length b with
  | false => exact lf_nb A L C cA m d k0 e0 ws w k a b c hn ha hb
  | true =>
  cases hc : inW ws.length c with
  | false => exact lf_nc A L C cA m d k0 e0 ws w k a b c hn ha hb hc
  | true =>
  rw [Bool.true_and, Bool.true_and, Bool.true_and]
  obtain ⟨_, hia, ea⟩ := inW_yes ha
  obtain ⟨_, hib, eb⟩ := inW_yes hb
  obtain ⟨_, hic, ec⟩ := inW_yes hc
  generalize a.toNat = ia at *
  generalize b.toNat = ib at *
  generalize c.toNat = ic at *
  subst ea eb ec
  clear ha hb hc
  have va := formN_valid (all_at (d := []) hf hia)
  cases hcz : (((ic : Nat) : Int) == (lnk k ia ib ic).c) with
  | false =>
    have h34 : ¬ (k = 3 ∨ k = 4) := fun e => by
      unfold lnk at hcz
      dsimp only at hcz
      rw [if_pos e] at hcz
      simp at hcz
    have h0 : ¬ ((ic : Nat) : Int) = 0 := fun e => by
      unfold lnk at hcz
      dsimp only at hcz
      rw [if_neg h34, e] at hcz
      simp at hcz
    have e : rightN ws ⟨k, ia, ib, ic⟩ = false := by
      unfold rightN
      dsimp only
      by_cases h12 : k = 1 ∨ k = 2
      · rw [if_pos h12, decide_eq_false h0]; rfl
      · rw [if_neg h12, if_neg (fun e => h34 (.inl e)), if_neg (fun e => h34 (.inr e))]
    rw [e]
    exact lf_ne A L C cA m d k0 e0 ws w k _ ia ib ic hn hia hib hic r hf ht hu rfl hcz
  | true =>
    have e12 : k = 1 ∨ k = 2 → rightN ws ⟨k, ia, ib, ic⟩ = decide (ws.getD ib [] = dualL (ws.getD ia [])) := fun h12 => by
      have h34 : ¬ (k = 3 ∨ k = 4) := by omega
      have h0 : ((ic : Nat) : Int) = 0 := by
        unfold lnk at hcz
        dsimp only at hcz
        rw [if_neg h34] at hcz
        simpa using hcz
      unfold rightN
      dsimp only
      rw [if_pos h12, decide_eq_true h0, Bool.true_and, wAt_nat, wAt_nat, dualL_yes va]
    by_cases h1 : k = 1
    · rw [e12 (.inl h1)]
      exact lf_1 A L C cA m d k0 e0 ws w k _ ia ib ic hn hia hib hic r hf ht hu rfl hcz (by simpa using h1)
    by_cases h2 : k = 2
    · rw [e12 (.inr h2)]
      exact lf_2 A L C cA m d k0 e0 ws w k _ ia ib ic hn hia hib hic r hf ht hu rfl hcz (by simpa using h1) (by simpa using h2)
    by_cases h3 : k = 3
    · have e : rightN ws ⟨k, ia, ib, ic⟩ = decide (ws.getD ic [] = opK k :: (ws.getD ia [] ++ ws.getD ib [])) := by
        subst h3
        unfold rightN
        dsimp only
        rw [if_neg (by omega), if_pos rfl, wAt_nat, wAt_nat, wAt_nat]
        rfl
      rw [e]
      exact lf_3 A L C cA m d k0 e0 ws w k _ ia ib ic hn hia hib hic r hf ht hu rfl hcz (by simpa using h1) (by simpa using h2) (by simpa using h3)
    by_cases h4 : k = 4
    · have e : rightN ws ⟨k, ia, ib, ic⟩ = decide (ws.getD ic [] = opK k :: (ws.getD ia [] ++ ws.getD ib [])) := by
        subst h4
        unfold rightN
        dsimp only
        rw [if_neg (by omega), if_neg (by omega), if_pos rfl, wAt_nat, wAt_nat, wAt_nat]
        rfl
      rw [e]
      exact lf_4 A L C cA m d k0 e0 ws w k _ ia ib ic hn hia hib hic r hf ht hu rfl hcz (by simpa using h1) (by simpa using h2) (by simpa using h3) (by simpa using h4)
    have e : rightN ws ⟨k, ia, ib, ic⟩ = false := by
      unfold rightN
      dsimp only
      rw [if_neg (by omega), if_neg h3, if_neg h4]
    rw [e]
    exact lf_o A L C cA m d k0 e0 ws w k _ ia ib ic hn hia hib hic r hf ht hu rfl hcz (by simpa using h1) (by simpa using h2) (by simpa using h3) (by simpa using h4)
theorem valN_ends {N : Nt} (h1 : N.w.length ≤ 48 ∧ N.l.length ≤ 48) (h2 : N.w.all formN = true) (h3 : N.l.all (fitsN N.w) = true) (h4 : N.c.all (inW N.w.length) = true) : valN N = evenN N := by
  unfold valN; rw [decide_eq_true h1, h2, h3, h4]; rfl
set_option maxRecDepth 100000 in
set_option maxHeartbeats 4000000 in
theorem validNet_in (h : NH) (N : Nt) (w : World) (r : RdN w w.heap.size h N) (h1 : N.w.length ≤ 48) (h2 : N.l.length ≤ 48) (h3 : N.c.length ≤ 1048576) (ht : Arit w) (hu : Dual w) :
    Calls Tryz.prog 102 #[.agg #[.slice h.A N.w.length h.c, .slice h.L N.l.length h.d, .slice h.C N.c.length h.e]] w fun e w' => e = .returned (.bool (valN N)) ∧ Below w.heap.size w w' := by
  obtain ⟨A, cA, hs, L, dL, C, e0⟩ := h
  obtain ⟨ws, ls, cs⟩ := N
  dsimp only at *
  obtain ⟨w0, hw0⟩ : ∃ w0, w0 = w.alloc (.cells #[.slice A ws.length cA, .slice L ls.length dL, .slice C cs.length e0] 30) := ⟨_, rfl⟩
  obtain ⟨hb, hh, hsz⟩ := box3_any w (.slice A ws.length cA) (.slice L ls.length dL) (.slice C cs.length e0) 30
  rw [← hw0] at hb hh hsz
  have HK : Hid (∀ w', Below w0.heap.size w0 w' → w'.cell? ⟨w.heap.size, 0, none⟩ = some (.slice A ws.length cA) ∧ w'.cell? ⟨w.heap.size, 1, none⟩ = some (.slice L ls.length dL) ∧ w'.cell? ⟨w.heap.size, 2, none⟩ = some (.slice C cs.length e0)) := Lib.hid fun w' hw => three_cells ((hw.block _ (by omega)).trans hh)
  have HR := Lib.hid (fun (w' : World) (hw : Below w0.heap.size w0 w') => show RdN w' w'.heap.size ⟨A, cA, hs, L, dL, C, e0⟩ ⟨ws, ls, cs⟩ from (r.below (hb.trans (hw.mono hb.size))).more (Nat.le_trans hb.size hw.size))
  have HT := Lib.hid (fun (w' : World) (hw : Below w0.heap.size w0 w') => show Arit w' ∧ Dual w' from ⟨ht.below (hb.trans (hw.mono hb.size)) ht.lt, hu.below (hb.trans (hw.mono hb.size)) hu.lt⟩)
  have HB0 := Lib.hid hb
  obtain ⟨y0, y1, y2⟩ := three_cells hh
  have d1 : decide ((48 : Int) < (ws.length : Int)) = false := decide_eq_false (by omega)
  have d2 : decide ((48 : Int) < (ls.length : Int)) = false := decide_eq_false (by omega)
  clear hb hh hsz r ht hu
  go_enter Tryz.func102, Tryz.ntmps102
  go_wp2_with (fail)
  rw [← hw0]
  clear hw0
  go_loopw [22] (fun i wr => ∃ k : Nat, k ≤ ws.length ∧ i = .int .i64 k ∧ (ws.take k).all formN = true ∧ Below w0.heap.size w0 wr) (fun i _ => ws.length - (intOf i).toNat)
  case atStart => exact ⟨0, Nat.zero_le _, rfl, by simp, Below.refl _ _⟩
  case round =>
    obtain ⟨k, hk, rfl, hall, hB⟩ := hrel
    clear y0 y1 y2
    obtain ⟨y0, y1, y2⟩ := HK.out _ hB
    by_cases hlt : k < ws.length
    · obtain ⟨b, off, hA, hbb, hcells⟩ := (HR.out _ hB).1.2 (show 0 < ws.length by omega)
      dsimp only at hA
      subst hA
      obtain ⟨A', c', hcell, hcc, hrd⟩ := hcells k hlt
      have hF := isWireForm_any A' _ c' _ wr hrd (HT.out _ hB).1 hcc
      cases hv : formN (ws.getD k []) with
      | false =>
        have HE : Hid (false = valN ⟨ws, ls, cs⟩) := Lib.hid (valN_badw (N := ⟨ws, ls, cs⟩) hlt hv).symm
        rw [hv] at hF
        have HF := Lib.hid hF; have HB := Lib.hid hB
        clear hF hcells hrd hv hall hB hcc
        generalize (ws.getD k []).length = M at *
        go_wp2_with (fail)
        refine HF.out.mono ?_
        rintro e w1 ⟨rfl, rfl⟩
        have HB1 := Lib.hid (HB0.out.trans (HB.out.mono HB0.out.size))
        go_wp2
        go_ret
        exact ⟨ret_bool' HE.out, HB1.out⟩
      | true =>
        have HA := Lib.hid (all_step hlt hall hv)
        rw [hv] at hF
        have HF := Lib.hid hF; have HB := Lib.hid hB
        clear hF hcells hrd hv hall hB hcc
        generalize (ws.getD k []).length = M at *
        go_wp2_with (fail)
        refine HF.out.mono ?_
        rintro e w1 ⟨rfl, rfl⟩
        go_wp2
        go_roundw
        case rel => exact ⟨k + 1, by omega, by go_num, HA.out, HB.out⟩
        case measure => simp [intOf]; omega
    · have hkl : k = ws.length := by omega
      subst hkl
      rw [List.take_of_length_le (Nat.le_refl _)] at hall
      have HW := Lib.hid hall; have HB := Lib.hid hB
      clear hall hB
      go_wp2
      go_loopw [33] (fun i wx => ∃ k : Nat, k ≤ ls.length ∧ i = .int .i64 k ∧ (ls.take k).all (fitsN ws) = true ∧ Below w0.heap.size w0 wx) (fun i _ => ls.length - (intOf i).toNat)
      case atStart => exact ⟨0, Nat.zero_le _, rfl, by simp, HB.out⟩
      case round =>
        obtain ⟨k, hk, rfl, hall, hB⟩ := hrel
        clear y0 y1 y2 HB
        obtain ⟨y0, y1, y2⟩ := HK.out _ hB
        by_cases hlt : k < ls.length
        · obtain ⟨b, off, hA, hbb, hcells⟩ := (HR.out _ hB).2.1.at (show 0 < ls.length by omega)
          dsimp only at hA
          subst hA
          obtain ⟨x0, x1, x2, x3⟩ := hcells k hlt
          have hst := fun hb => all_step (d := Lk.nil) hlt hall hb
          have hbd := fun hb => valN_badl (N := ⟨ws, ls, cs⟩) hlt hb
          dsimp only at hbd
          obtain ⟨⟨lk, la, lb, lc⟩, hl⟩ : ∃ l, ls.getD k Lk.nil = l := ⟨_, rfl⟩
          rw [hl] at x0 x1 x2 x3 hst hbd
          dsimp only at x0 x1 x2 x3
          obtain ⟨bl, z0, z1, z2, z3, zs⟩ := lnk_any wr ⟨lk, la, lb, lc⟩ 103
          dsimp only at bl z0 z1 z2 z3
          have hB1 := hB.trans (bl.mono hB.size)
          have hcut : wr.heap.size = wr.heap.size := rfl
          obtain ⟨y0', y1', y2'⟩ := HK.out _ hB1
          have hLF := linkFits_any A (some ⟨b, off, none⟩) C cA ls.length dL cs.length e0 ws ⟨lk, la, lb, lc⟩ _ h1 (HR.out _ hB1).1 HW.out (HT.out _ hB1).1 (HT.out _ hB1).2
          dsimp only at hLF
          have HB1 := Lib.hid hB1
          clear hcells hall hB bl zs hl hB1 hcut
          cases hv : fitsN ws ⟨lk, la, lb, lc⟩ with
          | false =>
            have HE : Hid (false = valN ⟨ws, ls, cs⟩) := Lib.hid (hbd hv).symm
            rw [hv] at hLF
            have HLF := Lib.hid hLF
            clear hLF hst hbd hv
            go_wp2_with (fail)
            refine HLF.out.mono ?_
            rintro e w1 ⟨rfl, bel⟩
            have HBX := Lib.hid (HB0.out.trans ((HB1.out.trans (bel.mono HB1.out.size)).mono HB0.out.size))
            clear bel
            go_wp2
            go_ret
            exact ⟨ret_bool' HE.out, HBX.out⟩
          | true =>
            have HA := Lib.hid (hst hv)
            rw [hv] at hLF
            have HLF := Lib.hid hLF
            clear hLF hst hbd hv
            go_wp2_with (fail)
            refine HLF.out.mono ?_
            rintro e w1 ⟨rfl, bel⟩
            have HBX := Lib.hid (HB1.out.trans (bel.mono HB1.out.size))
            clear bel
            go_wp2
            go_roundw
            case rel => exact ⟨k + 1, by omega, by go_num, HA.out, HBX.out⟩
            case measure => simp [intOf]; omega
        · have hkl : k = ls.length := by omega
          subst hkl
          rw [List.take_of_length_le (Nat.le_refl _)] at hall
          have HL := Lib.hid hall; have HB := Lib.hid hB
          clear hall hB
          go_wp2
          go_loopw [45] (fun i wx => ∃ k : Nat, k ≤ cs.length ∧ i = .int .i64 k ∧ (cs.take k).all (inW ws.length) = true ∧ Below w0.heap.size w0 wx) (fun i _ => cs.length - (intOf i).toNat)
          case atStart => exact ⟨0, Nat.zero_le _, rfl, by simp, HB.out⟩
          case round =>
            obtain ⟨k, hk, rfl, hall, hB⟩ := hrel
            clear y0 y1 y2 HB
            obtain ⟨y0, y1, y2⟩ := HK.out _ hB
            by_cases hlt : k < cs.length
            · obtain ⟨b, off, hA, hbb, hcells⟩ := (HR.out _ hB).2.2.2 (show 0 < cs.length by omega)
              dsimp only at hA
              subst hA
              have hcell := hcells k hlt
              have hst := fun hb => all_step (d := 0) hlt hall hb
              have hbd := fun hb => valN_badc (N := ⟨ws, ls, cs⟩) hlt hb
              dsimp only at hbd
              obtain ⟨z, hz⟩ : ∃ z, cs.getD k 0 = z := ⟨_, rfl⟩
              rw [hz] at hcell hst hbd
              have hIW := isWire_any A L (some ⟨b, off, none⟩) ws.length cA ls.length dL cs.length e0 z wr (by unfold maxLen; omega)
              have HB := Lib.hid hB
              clear hcells hz hall hB
              cases hv : inW ws.length z with
              | false =>
                have HE : Hid (false = valN ⟨ws, ls, cs⟩) := Lib.hid (hbd hv).symm
                rw [hv] at hIW
                have HIW := Lib.hid hIW
                clear hIW hst hbd hv
                go_wp2_with (fail)
                refine HIW.out.mono ?_
                rintro e w1 ⟨rfl, bel⟩
                have HBX := Lib.hid (HB0.out.trans ((HB.out.trans (bel.mono HB.out.size)).mono HB0.out.size))
                clear bel
                go_wp2
                go_ret
                exact ⟨ret_bool' HE.out, HBX.out⟩
              | true =>
                have HA := Lib.hid (hst hv)
                rw [hv] at hIW
                have HIW := Lib.hid hIW
                clear hIW hst hbd hv
                go_wp2_with (fail)
                refine HIW.out.mono ?_
                rintro e w1 ⟨rfl, bel⟩
                have HBX := Lib.hid (HB.out.trans (bel.mono HB.out.size))
                clear bel
                go_wp2
                go_roundw
                case rel => exact ⟨k + 1, by omega, by go_num, HA.out, HBX.out⟩
                case measure => simp [intOf]; omega
            · have hkl : k = cs.length := by omega
              subst hkl
              rw [List.take_of_length_le (Nat.le_refl _)] at hall
              have HC := Lib.hid hall; have HB := Lib.hid hB
              have hVE : valN ⟨ws, ls, cs⟩ = evenN ⟨ws, ls, cs⟩ := valN_ends (N := ⟨ws, ls, cs⟩) ⟨h1, h2⟩ HW.out HL.out hall
              have hUF := usesFit_any ⟨A, cA, hs, L, dL, C, e0⟩ ⟨ws, ls, cs⟩ wr (HR.out _ hB) h1 h2 h3 (fun l hl => by
                have := fitsN_yes ((List.all_eq_true.1 HL.out) l hl)
                exact ⟨this.1, this.2.1, this.2.2.1⟩) hall
              rw [← hVE] at hUF
              dsimp only at hUF
              have HUF := Lib.hid hUF
              clear hall hB hVE hUF
              go_wp2_with (fail)
              refine HUF.out.mono ?_
              rintro e w1 ⟨rfl, bel⟩
              have HBX := Lib.hid (HB0.out.trans ((HB.out.trans (bel.mono HB.out.size)).mono HB0.out.size))
              clear bel
              go_wp2
              go_ret
              exact ⟨rfl, HBX.out⟩
theorem validNet_impl (h : NH) (N : Nt) (w : World) (r : RdN w w.heap.size h N) (sm : SmallN N) (ht : Arit w) (hu : Dual w) :
    Calls Tryz.prog 102 #[.agg #[.slice h.A N.w.length h.c, .slice h.L N.l.length h.d, .slice h.C N.c.length h.e]] w fun e w' => e = .returned (.bool (valN N)) ∧ Below w.heap.size w w' := by
  by_cases hg : N.w.length ≤ 48 ∧ N.l.length ≤ 48
  · exact validNet_in h N w r hg.1 hg.2 sm.c ht hu
  · rw [valN_great (by omega)]
    have s1 := sm.w; have s2 := sm.l; have s3 := sm.c
    obtain ⟨A, cA, hs, L, dL, C, e0⟩ := h
    obtain ⟨ws, ls, cs⟩ := N
    dsimp only at *
    obtain ⟨hb, hh, hsz⟩ := box3_any w (.slice A ws.length cA) (.slice L ls.length dL) (.slice C cs.length e0) 30
    obtain ⟨w0, hw0⟩ : ∃ w0, w0 = w.alloc (.cells #[.slice A ws.length cA, .slice L ls.length dL, .slice C cs.length e0] 30) := ⟨_, rfl⟩
    rw [← hw0] at hb hh hsz
    obtain ⟨y0, y1, y2⟩ := three_cells hh
    have HB0 := Lib.hid hb
    clear hb hh hsz r
    by_cases h1 : ws.length ≤ 48
    · have d1 : decide ((48 : Int) < (ws.length : Int)) = false := decide_eq_false (by omega)
      have d2 : decide ((48 : Int) < (ls.length : Int)) = true := decide_eq_true (by omega)
      clear hg h1
      go_enter Tryz.func102, Tryz.ntmps102
      go_wp2_with (fail)
      rw [← hw0]
      go_ret
      exact ⟨rfl, HB0.out⟩
    · have d1 : decide ((48 : Int) < (ws.length : Int)) = true := decide_eq_true (by omega)
      clear hg h1
      go_enter Tryz.func102, Tryz.ntmps102
      go_wp2_with (fail)
      rw [← hw0]
      go_ret
      exact ⟨rfl, HB0.out⟩
end
section
open Go.ChangeAt Go.ChangeShapes Go.RowKit Go.WideShapes

/-- The links of a kind among the first k. -/
def kinU (x : Int) (ls : List Lk) (k : Nat) : List Int := ((List.range k).filter fun i => (ls.getD i Lk.nil).k == x).map fun i : Nat => (i : Int)
theorem kinU_yes {x : Int} {ls : List Lk} {k : Nat} (h : (ls.getD k Lk.nil).k = x) : kinU x ls (k + 1) = kinU x ls k ++ [(k : Int)] := by
  unfold kinU; rw [List.range_succ, List.filter_append, List.map_append]
  simp only [List.filter_cons, List.filter_nil]
  rw [if_pos (by simpa using h)]; rfl
theorem kinU_no {x : Int} {ls : List Lk} {k : Nat} (h : ¬ (ls.getD k Lk.nil).k = x) : kinU x ls (k + 1) = kinU x ls k := by
  unfold kinU; rw [List.range_succ, List.filter_append, List.map_append]
  simp only [List.filter_cons, List.filter_nil]
  rw [if_neg (by simpa using h)]; simp
theorem kinU_len (x : Int) (ls : List Lk) (k : Nat) : (kinU x ls k).length ≤ k := by
  unfold kinU
  rw [List.length_map]
  exact Nat.le_trans (List.length_filter_le _ _) (by simp)
/-- LinksOfKind. -/
def kinN (N : Nt) (x : Int) : List Int := if valN N then kinU x N.l N.l.length else []
theorem gives_of {w w' : World} {v : Value} {n : Nat} {xs ys : List Int} {b : Nat} (h : w'.ownsRow b 2 1 v n (xs.map (Value.int .i64))) (hn : n = xs.length) (hx : xs = ys) (hb : w.heap.size ≤ b) (bel : Below w.heap.size w w') : Gives w ys (.returned v) w' := by
  subst hn; subst hx
  obtain ⟨A, c, rfl⟩ := own_shape h
  exact ⟨A, c, rfl, h.mono hb, bel⟩
end
section
set_option linter.unusedSimpArgs false
set_option linter.unusedVariables false
open Go.ChangeAt Go.ChangeShapes Go.RowKit Go.WideShapes

theorem srcB_is {l : Lk} {x : Int} (h : l.k = 1 ∨ l.k = 2 ∨ l.k = 3 ∨ l.k = 4) : srcB x l = decide (x ∈ outL l) := by
  obtain ⟨k, a, b, c⟩ := l
  dsimp only at h
  rw [Bool.eq_iff_iff, decide_eq_true_iff]
  rcases h with rfl | rfl | rfl | rfl <;> simp [srcB, outL] <;> omega
theorem tgtB_is (l : Lk) (x : Int) : tgtB x l = decide (x ∈ inL l) := by
  obtain ⟨k, a, b, c⟩ := l
  rw [Bool.eq_iff_iff, decide_eq_true_iff]
  by_cases h : k = 1
  · subst h
    simp [tgtB, inL]
  · simp [tgtB, inL, h]
    omega
theorem first_ext {p q : Lk → Bool} {ls : List Lk} (h : ∀ l ∈ ls, p l = q l) : firstN p ls = firstN q ls := by
  unfold firstN
  have : ls.findIdx? p = ls.findIdx? q := by
    induction ls with
    | nil => rfl
    | cons l t ih =>
      rw [List.findIdx?_cons, List.findIdx?_cons, h l (List.mem_cons_self ..), ih fun k hk => h k (List.mem_cons_of_mem _ hk)]
  rw [this]
theorem srcN_val {N : Nt} {x : Int} (hv : valN N = true) : srcN N x = firstN (srcB x) N.l := by
  unfold srcN
  rw [hv, Bool.true_and]
  cases hx : inW N.w.length x with
  | true => rfl
  | false =>
    symm
    refine firstN_none fun j hj => ?_
    have hk := all_at (d := Lk.nil) (valN_fits hv) hj
    obtain ⟨h1, h2, h3, _⟩ := fitsN_yes hk
    rw [srcB_is (fitsN_kind hk), decide_eq_false]
    intro hm
    have := (List.all_eq_true.1 (outL_in (Nat.le_refl _) h1 h2 h3)) x hm
    rw [hx] at this; cases this
set_option maxHeartbeats 4000000 in
theorem linksOfKind_impl (h : NH) (N : Nt) (x : Int) (w : World) (r : RdN w w.heap.size h N) (sm : SmallN N) (ht : Arit w) (hu : Dual w) :
    Calls Tryz.prog 151 #[.agg #[.slice h.A N.w.length h.c, .slice h.L N.l.length h.d, .slice h.C N.c.length h.e], .int .i64 x] w (Gives w (kinN N x)) := by
  obtain ⟨i0, hi0, hz0, hz1, hz2⟩ := info_parts info_i64
  have HI := Lib.hid hi0; have HZ0 := Lib.hid hz0; have HZ1 := Lib.hid hz1; have HZ2 := Lib.hid hz2
  have s1 := sm.w; have s2 := sm.l; have s3 := sm.c
  obtain ⟨w0, hw0⟩ : ∃ w0, w0 = w.alloc (.cells #[.slice h.A N.w.length h.c, .slice h.L N.l.length h.d, .slice h.C N.c.length h.e] 30) := ⟨_, rfl⟩
  obtain ⟨hb, hh, hsz⟩ := box3_any w (.slice h.A N.w.length h.c) (.slice h.L N.l.length h.d) (.slice h.C N.c.length h.e) 30
  rw [← hw0] at hb hh hsz
  have HK : Hid (∀ w', Below w0.heap.size w0 w' → w'.cell? ⟨w.heap.size, 0, none⟩ = some (.slice h.A N.w.length h.c) ∧ w'.cell? ⟨w.heap.size, 1, none⟩ = some (.slice h.L N.l.length h.d) ∧ w'.cell? ⟨w.heap.size, 2, none⟩ = some (.slice h.C N.c.length h.e)) := Lib.hid fun w' hw => three_cells ((hw.block _ (by omega)).trans hh)
  have HR := Lib.hid (fun (w' : World) (hw : Below w0.heap.size w0 w') => ((r.below (hb.trans (hw.mono hb.size))).more (Nat.le_trans hb.size hw.size)))
  have hV := validNet_impl h N w0 (HR.out _ (Below.refl _ _)) sm (ht.below hb ht.lt) (hu.below hb hu.lt)
  have HB0 := Lib.hid hb
  obtain ⟨y0, y1, y2⟩ := three_cells hh
  clear hb hh hsz r hi0 hz0 hz1 hz2 ht hu sm
  cases hv : valN N with
  | false =>
    rw [hv] at hV
    have HV := Lib.hid hV
    rw [show kinN N x = [] by unfold kinN; rw [hv]; rfl]
    clear hV hv
    go_enter Tryz.func151, Tryz.ntmps151
    go_wp2_with (fail)
    rw [← hw0]
    clear hw0
    refine HV.out.mono ?_
    rintro e w1 ⟨rfl, bel⟩
    have HG := Lib.hid (gives_nil (HB0.out.trans (bel.mono HB0.out.size)))
    clear bel y0 y1 y2
    go_wp2
    go_ret
    exact HG.out
  | true =>
    rw [hv] at hV
    have HV := Lib.hid hV
    rw [show kinN N x = kinU x N.l N.l.length by unfold kinN; rw [hv]; rfl]
    clear hV hv
    go_enter Tryz.func151, Tryz.ntmps151
    go_wp2_with (fail)
    rw [← hw0]
    clear hw0
    refine HV.out.mono ?_
    rintro e w1 ⟨rfl, bel⟩
    have HB1 := Lib.hid bel
    clear bel y0 y1 y2
    obtain ⟨y0, y1, y2⟩ := HK.out _ HB1.out
    go_wp2
    go_loopw [5, 14] (fun v i wx => ∃ k : Nat, k ≤ N.l.length ∧ i = .int .i64 k ∧ wx.ownsRow w0.heap.size 2 1 v (kinU x N.l k).length ((kinU x N.l k).map (Value.int .i64)) ∧ Below w0.heap.size w0 wx) (fun _ i _ => N.l.length - (intOf i).toNat)
    case atStart => exact ⟨0, Nat.zero_le _, rfl, World.ownsRow_nil _ _ _ _, HB1.out⟩
    case round =>
      obtain ⟨k, hk, rfl, hO, hB⟩ := hrel
      clear y0 y1 y2 HB1
      by_cases hlt : k < N.l.length
      · obtain ⟨b, off, hA, hbb, hcells⟩ := (HR.out _ hB).2.1.at (show 0 < N.l.length by omega)
        obtain ⟨x0, x1, x2, x3⟩ := hcells k hlt
        have hln := kinU_len x N.l k
        have hyes := fun e => kinU_yes (x := x) (ls := N.l) (k := k) e
        have hno := fun e => kinU_no (x := x) (ls := N.l) (k := k) e
        obtain ⟨⟨lk, la, lb, lc⟩, hl⟩ : ∃ l, N.l.getD k Lk.nil = l := ⟨_, rfl⟩
        rw [hl] at x0 x1 x2 x3 hyes hno
        dsimp only at x0 x1 x2 x3 hyes hno
        obtain ⟨bl, z0, z1, z2, z3, zs⟩ := lnk_any wr ⟨lk, la, lb, lc⟩ 103
        dsimp only at bl z0 z1 z2 z3
        obtain ⟨u1, hu1⟩ : ∃ u1, u1 = wr.alloc (.cells #[.int .i64 lk, .int .i64 la, .int .i64 lb, .int .i64 lc] 103) := ⟨_, rfl⟩
        have HU1 := Lib.hid hu1
        rw [← hu1] at bl
        have BL := Lib.hid (hB.trans (bl.mono hB.size))
        have HO1 := Lib.hid (own_below hO bl (Nat.le_refl _))
        have HA := Lib.hid hA
        clear hcells hB hO bl zs hl hu1
        obtain ⟨hAd, hcd, hhs, hL, hd, hC, he⟩ := h
        dsimp only at hA
        subst hA
        by_cases hkd : lk = x
        · have hd : (lk == x) = true := by simpa using hkd
          have HS := Lib.hid (hyes hkd)
          have HLN : Hid ((kinU x N.l (k + 1)).length = (kinU x N.l k).length + 1) := Lib.hid (by rw [HS.out]; simp)
          clear hkd hyes hno
          go_upto_region 8 with (fail)
          rw [← HU1.out]
          clear z0 z1 z2 z3 x0 x1 x2 x3 HU1
          have hsz1 := BL.out.size
          go_wp2_with (at_builtin; refine wpList_append_own _ rfl _ _ 24 rfl w0.heap.size 2 i0 (.int .i64 0) 1 8 Tryz.underlying24 HI.out HZ0.out HZ1.out HZ2.out rfl (by decide) _ _ _ rfl (HO1.out.alloc _) ⟨u1.heap.size, 0, none⟩ 1 1 [.int .i64 k] rfl rfl ?c1 ?c2 ?c3 ?c4 ?c5 ?_)
          (try (case c1 => exact cell_one_new _ _ _))
          case c2 => first | rfl | (intro u hu; simp at hu; subst hu; rfl)
          case c3 => unfold maxLen; omega
          case c4 => omega
          case c5 => first | omega | (simp; omega)
          intro v' w2 hown' hgrow _
          have hb2 := Lib.hid ((BL.out.alloc hsz1 (.cells #[.int .i64 k] 2)).grown hgrow (by simp; omega) (fun q hq => (HO1.out.lt q hq).1))
          have hown2 : w2.ownsRow w0.heap.size 2 1 v' (kinU x N.l (k + 1)).length ((kinU x N.l (k + 1)).map (Value.int .i64)) := by
            rw [HLN.out, HS.out, List.map_append]; exact hown'
          have hown1 := Lib.hid hown2
          clear hown' hgrow hown2 hsz1
          go_wp2
          go_roundw
          case rel => exact ⟨k + 1, by omega, by go_num, hown1.out, hb2.out⟩
          case measure => simp [intOf]; omega
        · have hd : (lk == x) = false := by simpa using hkd
          have HO2 := HO1.out
          rw [← hno hkd] at HO2
          have HO3 := Lib.hid HO2
          have BL2 := BL.out
          rw [HU1.out] at BL2 HO2
          have HO4 := Lib.hid HO2; have BL3 := Lib.hid BL2
          clear hkd hyes hno HO2 BL2
          go_wp2
          go_roundw
          case rel => exact ⟨k + 1, by omega, by go_num, HO4.out, BL3.out⟩
          case measure => simp [intOf]; omega
      · have hkl : k = N.l.length := by omega
        subst hkl
        have HG := Lib.hid (gives_own hO HB0.out.size (HB0.out.trans (hB.mono HB0.out.size)))
        clear hO hB
        go_wp2
        go_ret
        exact HG.out
end
section
open Go.ChangeAt Go.ChangeShapes Go.RowKit Go.WideShapes

theorem sum_ge_zero {f : Lk → Int} (h : ∀ l, 0 ≤ f l) : ∀ ls : List Lk, 0 ≤ (ls.map f).sum
  | [] => by simp
  | l :: ls => by have := sum_ge_zero h ls; have := h l; simp only [List.map_cons, List.sum_cons]; omega
theorem sum_ge_one {f : Lk → Int} (h : ∀ l, 0 ≤ f l) : ∀ (ls : List Lk) (i : Nat), i < ls.length → 0 ≤ (ls.map f).sum - f (ls.getD i Lk.nil)
  | [], i, hi => absurd hi (by simp)
  | l :: ls, 0, _ => by
    have h0 := sum_ge_zero h ls
    simp only [List.map_cons, List.sum_cons, List.getD_cons_zero]
    omega
  | l :: ls, i + 1, hi => by
    have := sum_ge_one h ls i (by simpa using hi)
    have h0 := h l
    simp only [List.map_cons, List.sum_cons, List.getD_cons_succ]
    omega
theorem sum_ge_two {f : Lk → Int} (h : ∀ l, 0 ≤ f l) : ∀ (ls : List Lk) (i j : Nat), i < j → j < ls.length → 0 ≤ (ls.map f).sum - f (ls.getD i Lk.nil) - f (ls.getD j Lk.nil)
  | [], i, j, _, hj => absurd hj (by simp)
  | l :: ls, i, 0, hij, _ => absurd hij (by omega)
  | l :: ls, 0, j + 1, _, hj => by
    have := sum_ge_one h ls j (by simpa using hj)
    simp only [List.map_cons, List.sum_cons, List.getD_cons_zero, List.getD_cons_succ]
    omega
  | l :: ls, i + 1, j + 1, hij, hj => by
    have := sum_ge_two h ls i j (by omega) (by simpa using hj)
    have h0 := h l
    simp only [List.map_cons, List.sum_cons, List.getD_cons_succ]
    omega
theorem conc_mem : ∀ {cs : List Int} {x : Int}, x ∈ cs → 1 ≤ concN cs x.toNat
  | [], x, h => absurd h (by simp)
  | c :: cs, x, h => by
    have h1 := one_le (c.toNat = x.toNat)
    have h2 := (concN_le cs x.toNat).1
    have e : concN (c :: cs) x.toNat = one (c.toNat = x.toNat) + concN cs x.toNat := by simp [concN]
    rw [e]
    rcases List.mem_cons.1 h with rfl | hm
    · have : one (x.toNat = x.toNat) = 1 := by unfold one; rw [if_pos rfl]
      omega
    · have := conc_mem hm; omega
/-- Each wire is at most once among p's wires of some link; all of them are wires. -/
structure OneP (p : Lk → List Int) (N : Nt) : Prop where
  ins : ∀ k, k < N.l.length → ∀ t, t < (p (N.l.getD k Lk.nil)).length → inW N.w.length ((p (N.l.getD k Lk.nil)).getD t 0) = true
  one : ∀ (x : Int) (i j : Nat), inW N.w.length x = true → i < N.l.length → j < N.l.length → x ∈ p (N.l.getD i Lk.nil) → x ∈ p (N.l.getD j Lk.nil) → i = j
theorem oneP_of {p : Lk → List Int} {N : Nt} (hi : ∀ k, k < N.l.length → (p (N.l.getD k Lk.nil)).all (inW N.w.length) = true) (hs : ∀ x, x < N.w.length → (N.l.map fun l => concN (p l) x).sum ≤ 1) : OneP p N where
  ins k hk t ht := (List.all_eq_true.1 (hi k hk)) _ (getL_mem ht)
  one x i j hx hi' hj hmi hmj := by
    obtain ⟨_, hlt, _⟩ := inW_yes hx
    have h1 := conc_mem hmi; have h2 := conc_mem hmj
    have h3 := hs _ hlt
    rcases Nat.lt_trichotomy i j with h | h | h
    · have := sum_ge_two (f := fun l => concN (p l) x.toNat) (fun l => (concN_le _ _).1) N.l i j h hj
      omega
    · exact h
    · have := sum_ge_two (f := fun l => concN (p l) x.toNat) (fun l => (concN_le _ _).1) N.l j i h hi'
      omega
theorem oneP_out {N : Nt} (hv : valN N = true) : OneP outL N :=
  oneP_of (fun k hk => by obtain ⟨h1, h2, h3, _⟩ := fitsN_yes (link_fits hv hk); exact outL_in (Nat.le_refl _) h1 h2 h3) fun x hx => by
    have h := (valN_at hv hx).1
    have e : (N.l.map fun l => concN (outL l) x).sum = madeN N.l x := by unfold madeN; congr 1; exact List.map_congr_left fun l _ => (mk1_is l x).symm
    rw [e]; omega
theorem oneP_in {N : Nt} (hv : valN N = true) : OneP inL N :=
  oneP_of (fun k hk => by obtain ⟨h1, h2, h3, _⟩ := fitsN_yes (link_fits hv hk); exact inL_in (Nat.le_refl _) h1 h2) fun x hx => by
    have h := (valN_at hv hx).2
    have h2 := (concN_le N.c x).1
    have e : (N.l.map fun l => concN (inL l) x).sum = usedN N.l x := by unfold usedN; congr 1; exact List.map_congr_left fun l _ => (us1_is l x).symm
    rw [e]; omega
/-- The link that has a wire among p's. -/
def lxN (p : Lk → List Int) (N : Nt) (x : Int) : Int := firstN (fun l => decide (x ∈ p l)) N.l
/-- The links of all wires. -/
def lxL (p : Lk → List Int) (N : Nt) : List Int := (List.range N.w.length).map fun x : Nat => lxN p N (x : Int)
theorem lxL_len (p : Lk → List Int) (N : Nt) : (lxL p N).length = N.w.length := by simp [lxL]
theorem lxL_at (p : Lk → List Int) (N : Nt) {x : Nat} (h : x < N.w.length) : (lxL p N).getD x 0 = lxN p N (x : Int) := by simp [lxL, List.getD, h]
/-- The links that k links, and m wires of the next one, have laid. -/
def LnQ (p : Lk → List Int) (N : Nt) (cur : List Int) (k m : Nat) : Prop :=
  cur.length = N.w.length ∧ (∀ x j : Nat, x < N.w.length → j < N.l.length → (j < k ∧ (x : Int) ∈ p (N.l.getD j Lk.nil) ∨ j = k ∧ ∃ t, t < m ∧ (p (N.l.getD k Lk.nil)).getD t 0 = (x : Int)) → cur.getD x 0 = (j : Int)) ∧
    (∀ x : Nat, x < N.w.length → (∀ j, j < k → ¬ (x : Int) ∈ p (N.l.getD j Lk.nil)) → (∀ t, t < m → ¬ (p (N.l.getD k Lk.nil)).getD t 0 = (x : Int)) → cur.getD x 0 = -1)
theorem LnQ.zero (p : Lk → List Int) (N : Nt) : LnQ p N (List.replicate N.w.length (-1)) 0 0 :=
  ⟨by simp, fun x j _ _ h => by rcases h with ⟨h, _⟩ | ⟨_, t, h, _⟩ <;> omega, fun x hx _ _ => by simp [List.getD, hx]⟩
theorem setI_at {cur : List Int} {i x : Nat} {v : Int} (h : i < cur.length) : (cur.set i v).getD x 0 = if x = i then v else cur.getD x 0 := by
  by_cases e : x = i
  · subst e; rw [if_pos rfl]; simp [List.getD, h]
  · rw [if_neg e]; simp only [List.getD]; rw [List.getElem?_set_ne (fun q => e q.symm)]
theorem LnQ.step {p : Lk → List Int} {N : Nt} (o : OneP p N) {cur : List Int} {k m : Nat} (h : LnQ p N cur k m) (hk : k < N.l.length) (hm : m < (p (N.l.getD k Lk.nil)).length) :
    LnQ p N (cur.set ((p (N.l.getD k Lk.nil)).getD m 0).toNat (k : Int)) k (m + 1) := by
  have hx := o.ins k hk m hm
  have hmem : (p (N.l.getD k Lk.nil)).getD m 0 ∈ p (N.l.getD k Lk.nil) := getL_mem hm
  obtain ⟨h1, h2, h3⟩ := h
  obtain ⟨_, hlt, ez⟩ := inW_yes hx
  refine ⟨by rw [List.length_set]; exact h1, fun x j hx' hj hc => ?_, fun x hx' hno hnt => ?_⟩
  · rw [setI_at (by omega)]
    by_cases e : x = ((p (N.l.getD k Lk.nil)).getD m 0).toNat
    · rw [if_pos e]
      have ex : (x : Int) = (p (N.l.getD k Lk.nil)).getD m 0 := by rw [e]; exact ez.symm
      rcases hc with ⟨hjk, hq⟩ | ⟨hjk, _⟩
      · rw [ex] at hq
        have := o.one _ j k hx hj hk hq hmem
        omega
      · rw [hjk]
    · rw [if_neg e]
      refine h2 x j hx' hj (hc.imp id fun ⟨hjk, t, ht, h5⟩ => ⟨hjk, t, ?_, h5⟩)
      by_cases e2 : t = m
      · subst e2; rw [h5] at e; exact absurd (by simp) e
      · omega
  · rw [setI_at (by omega)]
    by_cases e : x = ((p (N.l.getD k Lk.nil)).getD m 0).toNat
    · exact absurd (by rw [e]; exact ez) (hnt m (by omega))
    · rw [if_neg e]
      exact h3 x hx' hno fun t ht => hnt t (by omega)
theorem LnQ.next {p : Lk → List Int} {N : Nt} {cur : List Int} {k : Nat} (h : LnQ p N cur k (p (N.l.getD k Lk.nil)).length) : LnQ p N cur (k + 1) 0 := by
  have key : ∀ x : Int, x ∈ p (N.l.getD k Lk.nil) ↔ ∃ t, t < (p (N.l.getD k Lk.nil)).length ∧ (p (N.l.getD k Lk.nil)).getD t 0 = x := fun x => by
    constructor
    · intro hx
      obtain ⟨t, ht, e⟩ := List.getElem_of_mem hx
      exact ⟨t, ht, by rw [List.getD_eq_getElem?_getD, List.getElem?_eq_getElem ht, e]; rfl⟩
    · rintro ⟨t, ht, e⟩
      rw [← e]; exact getL_mem ht
  obtain ⟨h1, h2, h3⟩ := h
  refine ⟨h1, fun x j hx hj hc => h2 x j hx hj ?_, fun x hx hno _ => h3 x hx (fun j hj => hno j (by omega)) fun t ht e => hno k (by omega) ((key _).2 ⟨t, ht, e⟩)⟩
  rcases hc with ⟨hjk, hq⟩ | ⟨_, t, ht, _⟩
  · by_cases e : j = k
    · subst e; exact .inr ⟨rfl, (key _).1 hq⟩
    · exact .inl ⟨by omega, hq⟩
  · omega
theorem lxN_yes {p : Lk → List Int} {N : Nt} (o : OneP p N) {x j : Nat} (hx : x < N.w.length) (hj : j < N.l.length) (hm : (x : Int) ∈ p (N.l.getD j Lk.nil)) : lxN p N (x : Int) = (j : Int) := by
  have hin : inW N.w.length (x : Int) = true := decide_eq_true (by omega)
  exact firstN_at hj (fun i hi => decide_eq_false fun hq => by have := o.one _ i j hin (by omega) hj hq hm; omega) (decide_eq_true hm)
theorem lxN_cases (p : Lk → List Int) (N : Nt) (x : Int) : (∃ j, j < N.l.length ∧ x ∈ p (N.l.getD j Lk.nil) ∧ lxN p N x = (j : Int)) ∨ (∀ j, j < N.l.length → ¬ x ∈ p (N.l.getD j Lk.nil)) ∧ lxN p N x = -1 := by
  unfold lxN firstN
  cases hf : N.l.findIdx? (fun l => decide (x ∈ p l)) with
  | some k =>
    left
    obtain ⟨hk, hp, _⟩ := List.findIdx?_eq_some_iff_getElem.1 hf
    exact ⟨k, hk, by simpa [List.getD, hk] using hp, rfl⟩
  | none =>
    right
    refine ⟨fun j hj hm => ?_, rfl⟩
    have := List.findIdx?_eq_none_iff.1 hf _ (getL_mem (d := Lk.nil) hj)
    rw [decide_eq_true hm] at this; cases this
theorem LnQ.all {p : Lk → List Int} {N : Nt} {cur : List Int} (h : LnQ p N cur N.l.length 0) : cur = lxL p N := by
  obtain ⟨h1, h2, h3⟩ := h
  apply List.ext_getElem?
  intro x
  by_cases hx : x < N.w.length
  · have e : cur.getD x 0 = (lxL p N).getD x 0 := by
      rw [lxL_at p N hx]
      rcases lxN_cases p N (x : Int) with ⟨j, hj, hm, e⟩ | ⟨hno, e⟩
      · rw [e]; exact h2 x j hx hj (.inl ⟨hj, hm⟩)
      · rw [e]; exact h3 x hx (fun j hj => hno j hj) fun t ht => absurd ht (by omega)
    have hl : x < (lxL p N).length := by rw [lxL_len]; exact hx
    rw [← h1] at hx
    simp only [List.getD, List.getElem?_eq_getElem hx, List.getElem?_eq_getElem hl, Option.getD_some] at e
    rw [List.getElem?_eq_getElem hx, List.getElem?_eq_getElem hl, e]
  · rw [List.getElem?_eq_none (by omega), List.getElem?_eq_none (by rw [lxL_len]; omega)]
theorem srcN_lx {N : Nt} (hv : valN N = true) (x : Int) : srcN N x = lxN outL N x := by
  rw [srcN_val hv]
  exact first_ext fun l hl => srcB_is (fitsN_kind ((List.all_eq_true.1 (valN_fits hv)) l hl))
end
end Go.Proofs.YtfdpkhiiboghiaaGreatDoor
