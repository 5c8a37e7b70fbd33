/- The program's ValidNet. Sources, targets and kinds of links, of the model. -/
import Derived.Test.YtgpocnapkflihaaGreatDoorQNetE
import Derived.Test.YtgpocnapkflihaaGreatDoorPgD
import Derived.Test.YtgpocnapkflihaaGreatDoorPgE
import Derived.Test.YtgpocnapkflihaaGreatDoorPgF
import Derived.Test.YtgpocnapkflihaaGreatDoorNetY
namespace Go.Proofs.YtgpocnapkflihaaGreatDoor
set_option linter.unusedSimpArgs false
set_option linter.unusedVariables false
section
set_option linter.unusedSimpArgs false
set_option linter.unusedVariables false
open Go.ChangeAt Go.ChangeShapes Go.RowKit Go.WideShapes

theorem wAt_nat (ws : List (List Int)) (i : Nat) : wAt ws (i : Nat) = ws.getD i [] := by unfold wAt; rw [Int.toNat_natCast]
theorem linkFits_any (A L C : Option Addr) (cA m d k0 e0 : Nat) (ws : List (List Int)) (l : Lk) (w : World) (hn : ws.length ≤ 48) (r : RdQ w w.heap.size A ws.length ws) (hf : ws.all formN = true) (ht : Arit w) (hu : Dual w) :
    Calls Tryz.prog 98 #[.agg #[.slice A ws.length cA, .slice L m d, .slice C k0 e0], .agg #[.int .i64 l.k, .int .i64 l.a, .int .i64 l.b, .int .i64 l.c]] w fun e w' => e = .returned (.bool (fitsN ws l)) ∧ Below w.heap.size w w' := by
  obtain ⟨k, a, b, c⟩ := l
  dsimp only
  unfold fitsN
  dsimp only
  cases ha : inW ws.length a with
  | false => exact lf_na A L C cA m d k0 e0 ws w k a b c hn ha
  | true =>
  cases hb : inW ws.length b with
  | false => exact lf_nb A L C cA m d k0 e0 ws w k a b c hn ha hb
  | true =>
  cases hc : inW ws.length c with
  | false => exact lf_nc A L C cA m d k0 e0 ws w k a b c hn ha hb hc
  | true =>
  rw [Bool.true_and, Bool.true_and, Bool.true_and]
  obtain ⟨_, hia, ea⟩ := inW_yes ha
  obtain ⟨_, hib, eb⟩ := inW_yes hb
  obtain ⟨_, hic, ec⟩ := inW_yes hc
  generalize a.toNat = ia at *
  generalize b.toNat = ib at *
  generalize c.toNat = ic at *
  subst ea eb ec
  clear ha hb hc
  have va := formN_valid (all_at (d := []) hf hia)
  cases hcz : (((ic : Nat) : Int) == (lnk k ia ib ic).c) with
  | false =>
    have h34 : ¬ (k = 3 ∨ k = 4) := fun e => by
      unfold lnk at hcz
      dsimp only at hcz
      rw [if_pos e] at hcz
      simp at hcz
    have h0 : ¬ ((ic : Nat) : Int) = 0 := fun e => by
      unfold lnk at hcz
      dsimp only at hcz
      rw [if_neg h34, e] at hcz
      simp at hcz
    have e : rightN ws ⟨k, ia, ib, ic⟩ = false := by
      unfold rightN
      dsimp only
      by_cases h12 : k = 1 ∨ k = 2
      · rw [if_pos h12, decide_eq_false h0]; rfl
      · rw [if_neg h12, if_neg (fun e => h34 (.inl e)), if_neg (fun e => h34 (.inr e))]
    rw [e]
    exact lf_ne A L C cA m d k0 e0 ws w k _ ia ib ic hn hia hib hic r hf ht hu rfl hcz
  | true =>
    have e12 : k = 1 ∨ k = 2 → rightN ws ⟨k, ia, ib, ic⟩ = decide (ws.getD ib [] = dualL (ws.getD ia [])) := fun h12 => by
      have h34 : ¬ (k = 3 ∨ k = 4) := by omega
      have h0 : ((ic : Nat) : Int) = 0 := by
        unfold lnk at hcz
        dsimp only at hcz
        rw [if_neg h34] at hcz
        simpa using hcz
      unfold rightN
      dsimp only
      rw [if_pos h12, decide_eq_true h0, Bool.true_and, wAt_nat, wAt_nat, dualL_yes va]
    by_cases h1 : k = 1
    · rw [e12 (.inl h1)]
      exact lf_1 A L C cA m d k0 e0 ws w k _ ia ib ic hn hia hib hic r hf ht hu rfl hcz (by simpa using h1)
    by_cases h2 : k = 2
    · rw [e12 (.inr h2)]
      exact lf_2 A L C cA m d k0 e0 ws w k _ ia ib ic hn hia hib hic r hf ht hu rfl hcz (by simpa using h1) (by simpa using h2)
    by_cases h3 : k = 3
    · have e : rightN ws ⟨k, ia, ib, ic⟩ = decide (ws.getD ic [] = opK k :: (ws.getD ia [] ++ ws.getD ib [])) := by
        subst h3
        unfold rightN
        dsimp only
        rw [if_neg (by omega), if_pos rfl, wAt_nat, wAt_nat, wAt_nat]
        rfl
      rw [e]
      exact lf_3 A L C cA m d k0 e0 ws w k _ ia ib ic hn hia hib hic r hf ht hu rfl hcz (by simpa using h1) (by simpa using h2) (by simpa using h3)
    by_cases h4 : k = 4
    · have e : rightN ws ⟨k, ia, ib, ic⟩ = decide (ws.getD ic [] = opK k :: (ws.getD ia [] ++ ws.getD ib [])) := by
        subst h4
        unfold rightN
        dsimp only
        rw [if_neg (by omega), if_neg (by omega), if_pos rfl, wAt_nat, wAt_nat, wAt_nat]
        rfl
      rw [e]
      exact lf_4 A L C cA m d k0 e0 ws w k _ ia ib ic hn hia hib hic r hf ht hu rfl hcz (by simpa using h1) (by simpa using h2) (by simpa using h3) (by simpa using h4)
    have e : rightN ws ⟨k, ia, ib, ic⟩ = false := by
      unfold rightN
      dsimp only
      rw [if_neg (by omega), if_neg h3, if_neg h4]
    rw [e]
    exact lf_o A L C cA m d k0 e0 ws w k _ ia ib ic hn hia hib hic r hf ht hu rfl hcz (by simpa using h1) (by simpa using h2) (by simpa using h3) (by simpa using h4)
theorem valN_ends {N : Nt} (h1 : N.w.length ≤ 48 ∧ N.l.length ≤ 48) (h2 : N.w.all formN = true) (h3 : N.l.all (fitsN N.w) = true) (h4 : N.c.all (inW N.w.length) = true) : valN N = evenN N := by
  unfold valN; rw [decide_eq_true h1, h2, h3, h4]; rfl
set_option maxRecDepth 100000 in
set_option maxHeartbeats 4000000 in
theorem validNet_in (h : NH) (N : Nt) (w : World) (r : RdN w w.heap.size h N) (h1 : N.w.length ≤ 48) (h2 : N.l.length ≤ 48) (h3 : N.c.length ≤ 1048576) (ht : Arit w) (hu : Dual w) :
    Calls Tryz.prog 84 #[.agg #[.slice h.A N.w.length h.c, .slice h.L N.l.length h.d, .slice h.C N.c.length h.e]] w fun e w' => e = .returned (.bool (valN N)) ∧ Below w.heap.size w w' := by
  obtain ⟨A, cA, hs, L, dL, C, e0⟩ := h
  obtain ⟨ws, ls, cs⟩ := N
  dsimp only at *
  obtain ⟨w0, hw0⟩ : ∃ w0, w0 = w.alloc (.cells #[.slice A ws.length cA, .slice L ls.length dL, .slice C cs.length e0] 30) := ⟨_, rfl⟩
  obtain ⟨hb, hh, hsz⟩ := box3_any w (.slice A ws.length cA) (.slice L ls.length dL) (.slice C cs.length e0) 30
  rw [← hw0] at hb hh hsz
  have HK : Hid (∀ w', Below w0.heap.size w0 w' → w'.cell? ⟨w.heap.size, 0, none⟩ = some (.slice A ws.length cA) ∧ w'.cell? ⟨w.heap.size, 1, none⟩ = some (.slice L ls.length dL) ∧ w'.cell? ⟨w.heap.size, 2, none⟩ = some (.slice C cs.length e0)) := Lib.hid fun w' hw => three_cells ((hw.block _ (by omega)).trans hh)
  have HR := Lib.hid (fun (w' : World) (hw : Below w0.heap.size w0 w') => show RdN w' w'.heap.size ⟨A, cA, hs, L, dL, C, e0⟩ ⟨ws, ls, cs⟩ from (r.below (hb.trans (hw.mono hb.size))).more (Nat.le_trans hb.size hw.size))
  have HT := Lib.hid (fun (w' : World) (hw : Below w0.heap.size w0 w') => show Arit w' ∧ Dual w' from ⟨ht.below (hb.trans (hw.mono hb.size)) ht.lt, hu.below (hb.trans (hw.mono hb.size)) hu.lt⟩)
  have HB0 := Lib.hid hb
  obtain ⟨y0, y1, y2⟩ := three_cells hh
  have d1 : decide ((48 : Int) < (ws.length : Int)) = false := decide_eq_false (by omega)
  have d2 : decide ((48 : Int) < (ls.length : Int)) = false := decide_eq_false (by omega)
  clear hb hh hsz r ht hu
  go_enter Tryz.func84, Tryz.ntmps84
  go_wp2_with (fail)
  rw [← hw0]
  clear hw0
  go_loopw [22] (fun i wr => ∃ k : Nat, k ≤ ws.length ∧ i = .int .i64 k ∧ (ws.take k).all formN = true ∧ Below w0.heap.size w0 wr) (fun i _ => ws.length - (intOf i).toNat)
  case atStart => exact ⟨0, Nat.zero_le _, rfl, by simp, Below.refl _ _⟩
  case round =>
    obtain ⟨k, hk, rfl, hall, hB⟩ := hrel
    clear y0 y1 y2
    obtain ⟨y0, y1, y2⟩ := HK.out _ hB
    by_cases hlt : k < ws.length
    · obtain ⟨b, off, hA, hbb, hcells⟩ := (HR.out _ hB).1.2 (show 0 < ws.length by omega)
      dsimp only at hA
      subst hA
      obtain ⟨A', c', hcell, hcc, hrd⟩ := hcells k hlt
      have hF := isWireForm_any A' _ c' _ wr hrd (HT.out _ hB).1 hcc
      cases hv : formN (ws.getD k []) with
      | false =>
        have HE : Hid (false = valN ⟨ws, ls, cs⟩) := Lib.hid (valN_badw (N := ⟨ws, ls, cs⟩) hlt hv).symm
        rw [hv] at hF
        have HF := Lib.hid hF; have HB := Lib.hid hB
        clear hF hcells hrd hv hall hB hcc
        generalize (ws.getD k []).length = M at *
        go_wp2_with (fail)
        refine HF.out.mono ?_
        rintro e w1 ⟨rfl, rfl⟩
        have HB1 := Lib.hid (HB0.out.trans (HB.out.mono HB0.out.size))
        go_wp2
        go_ret
        exact ⟨ret_bool' HE.out, HB1.out⟩
      | true =>
        have HA := Lib.hid (all_step hlt hall hv)
        rw [hv] at hF
        have HF := Lib.hid hF; have HB := Lib.hid hB
        clear hF hcells hrd hv hall hB hcc
        generalize (ws.getD k []).length = M at *
        go_wp2_with (fail)
        refine HF.out.mono ?_
        rintro e w1 ⟨rfl, rfl⟩
        go_wp2
        go_roundw
        case rel => exact ⟨k + 1, by omega, by go_num, HA.out, HB.out⟩
        case measure => simp [intOf]; omega
    · have hkl : k = ws.length := by omega
      subst hkl
      rw [List.take_of_length_le (Nat.le_refl _)] at hall
      have HW := Lib.hid hall; have HB := Lib.hid hB
      clear hall hB
      go_wp2
      go_loopw [33] (fun i wx => ∃ k : Nat, k ≤ ls.length ∧ i = .int .i64 k ∧ (ls.take k).all (fitsN ws) = true ∧ Below w0.heap.size w0 wx) (fun i _ => ls.length - (intOf i).toNat)
      case atStart => exact ⟨0, Nat.zero_le _, rfl, by simp, HB.out⟩
      case round =>
        obtain ⟨k, hk, rfl, hall, hB⟩ := hrel
        clear y0 y1 y2 HB
        obtain ⟨y0, y1, y2⟩ := HK.out _ hB
        by_cases hlt : k < ls.length
        · obtain ⟨b, off, hA, hbb, hcells⟩ := (HR.out _ hB).2.1.at (show 0 < ls.length by omega)
          dsimp only at hA
          subst hA
          obtain ⟨x0, x1, x2, x3⟩ := hcells k hlt
          have hst := fun hb => all_step (d := Lk.nil) hlt hall hb
          have hbd := fun hb => valN_badl (N := ⟨ws, ls, cs⟩) hlt hb
          dsimp only at hbd
          obtain ⟨⟨lk, la, lb, lc⟩, hl⟩ : ∃ l, ls.getD k Lk.nil = l := ⟨_, rfl⟩
          rw [hl] at x0 x1 x2 x3 hst hbd
          dsimp only at x0 x1 x2 x3
          obtain ⟨bl, z0, z1, z2, z3, zs⟩ := lnk_any wr ⟨lk, la, lb, lc⟩ 54
          dsimp only at bl z0 z1 z2 z3
          have hB1 := hB.trans (bl.mono hB.size)
          have hcut : wr.heap.size = wr.heap.size := rfl
          obtain ⟨y0', y1', y2'⟩ := HK.out _ hB1
          have hLF := linkFits_any A (some ⟨b, off, none⟩) C cA ls.length dL cs.length e0 ws ⟨lk, la, lb, lc⟩ _ h1 (HR.out _ hB1).1 HW.out (HT.out _ hB1).1 (HT.out _ hB1).2
          dsimp only at hLF
          have HB1 := Lib.hid hB1
          clear hcells hall hB bl zs hl hB1 hcut
          cases hv : fitsN ws ⟨lk, la, lb, lc⟩ with
          | false =>
            have HE : Hid (false = valN ⟨ws, ls, cs⟩) := Lib.hid (hbd hv).symm
            rw [hv] at hLF
            have HLF := Lib.hid hLF
            clear hLF hst hbd hv
            go_wp2_with (fail)
            refine HLF.out.mono ?_
            rintro e w1 ⟨rfl, bel⟩
            have HBX := Lib.hid (HB0.out.trans ((HB1.out.trans (bel.mono HB1.out.size)).mono HB0.out.size))
            clear bel
            go_wp2
            go_ret
            exact ⟨ret_bool' HE.out, HBX.out⟩
          | true =>
            have HA := Lib.hid (hst hv)
            rw [hv] at hLF
            have HLF := Lib.hid hLF
            clear hLF hst hbd hv
            go_wp2_with (fail)
            refine HLF.out.mono ?_
            rintro e w1 ⟨rfl, bel⟩
            have HBX := Lib.hid (HB1.out.trans (bel.mono HB1.out.size))
            clear bel
            go_wp2
            go_roundw
            case rel => exact ⟨k + 1, by omega, by go_num, HA.out, HBX.out⟩
            case measure => simp [intOf]; omega
        · have hkl : k = ls.length := by omega
          subst hkl
          rw [List.take_of_length_le (Nat.le_refl _)] at hall
          have HL := Lib.hid hall; have HB := Lib.hid hB
          clear hall hB
          go_wp2
          go_loopw [45] (fun i wx => ∃ k : Nat, k ≤ cs.length ∧ i = .int .i64 k ∧ (cs.take k).all (inW ws.length) = true ∧ Below w0.heap.size w0 wx) (fun i _ => cs.length - (intOf i).toNat)
          case atStart => exact ⟨0, Nat.zero_le _, rfl, by simp, HB.out⟩
          case round =>
            obtain ⟨k, hk, rfl, hall, hB⟩ := hrel
            clear y0 y1 y2 HB
            obtain ⟨y0, y1, y2⟩ := HK.out _ hB
            by_cases hlt : k < cs.length
            · obtain ⟨b, off, hA, hbb, hcells⟩ := (HR.out _ hB).2.2.2 (show 0 < cs.length by omega)
              dsimp only at hA
              subst hA
              have hcell := hcells k hlt
              have hst := fun hb => all_step (d := 0) hlt hall hb
              have hbd := fun hb => valN_badc (N := ⟨ws, ls, cs⟩) hlt hb
              dsimp only at hbd
              obtain ⟨z, hz⟩ : ∃ z, cs.getD k 0 = z := ⟨_, rfl⟩
              rw [hz] at hcell hst hbd
              have hIW := isWire_any A L (some ⟨b, off, none⟩) ws.length cA ls.length dL cs.length e0 z wr (by unfold maxLen; omega)
              have HB := Lib.hid hB
              clear hcells hz hall hB
              cases hv : inW ws.length z with
              | false =>
                have HE : Hid (false = valN ⟨ws, ls, cs⟩) := Lib.hid (hbd hv).symm
                rw [hv] at hIW
                have HIW := Lib.hid hIW
                clear hIW hst hbd hv
                go_wp2_with (fail)
                refine HIW.out.mono ?_
                rintro e w1 ⟨rfl, bel⟩
                have HBX := Lib.hid (HB0.out.trans ((HB.out.trans (bel.mono HB.out.size)).mono HB0.out.size))
                clear bel
                go_wp2
                go_ret
                exact ⟨ret_bool' HE.out, HBX.out⟩
              | true =>
                have HA := Lib.hid (hst hv)
                rw [hv] at hIW
                have HIW := Lib.hid hIW
                clear hIW hst hbd hv
                go_wp2_with (fail)
                refine HIW.out.mono ?_
                rintro e w1 ⟨rfl, bel⟩
                have HBX := Lib.hid (HB.out.trans (bel.mono HB.out.size))
                clear bel
                go_wp2
                go_roundw
                case rel => exact ⟨k + 1, by omega, by go_num, HA.out, HBX.out⟩
                case measure => simp [intOf]; omega
            · have hkl : k = cs.length := by omega
              subst hkl
              rw [List.take_of_length_le (Nat.le_refl _)] at hall
              have HC := Lib.hid hall; have HB := Lib.hid hB
              have hVE : valN ⟨ws, ls, cs⟩ = evenN ⟨ws, ls, cs⟩ := valN_ends (N := ⟨ws, ls, cs⟩) ⟨h1, h2⟩ HW.out HL.out hall
              have hUF := usesFit_any ⟨A, cA, hs, L, dL, C, e0⟩ ⟨ws, ls, cs⟩ wr (HR.out _ hB) h1 h2 h3 (fun l hl => by
                have := fitsN_yes ((List.all_eq_true.1 HL.out) l hl)
                exact ⟨this.1, this.2.1, this.2.2.1⟩) hall
              rw [← hVE] at hUF
              dsimp only at hUF
              have HUF := Lib.hid hUF
              clear hall hB hVE hUF
              go_wp2_with (fail)
              refine HUF.out.mono ?_
              rintro e w1 ⟨rfl, bel⟩
              have HBX := Lib.hid (HB0.out.trans ((HB.out.trans (bel.mono HB.out.size)).mono HB0.out.size))
              clear bel
              go_wp2
              go_ret
              exact ⟨rfl, HBX.out⟩
theorem validNet_impl (h : NH) (N : Nt) (w : World) (r : RdN w w.heap.size h N) (sm : SmallN N) (ht : Arit w) (hu : Dual w) :
    Calls Tryz.prog 84 #[.agg #[.slice h.A N.w.length h.c, .slice h.L N.l.length h.d, .slice h.C N.c.length h.e]] w fun e w' => e = .returned (.bool (valN N)) ∧ Below w.heap.size w w' := by
  by_cases hg : N.w.length ≤ 48 ∧ N.l.length ≤ 48
  · exact validNet_in h N w r hg.1 hg.2 sm.c ht hu
  · rw [valN_great (by omega)]
    have s1 := sm.w; have s2 := sm.l; have s3 := sm.c
    obtain ⟨A, cA, hs, L, dL, C, e0⟩ := h
    obtain ⟨ws, ls, cs⟩ := N
    dsimp only at *
    obtain ⟨hb, hh, hsz⟩ := box3_any w (.slice A ws.length cA) (.slice L ls.length dL) (.slice C cs.length e0) 30
    obtain ⟨w0, hw0⟩ : ∃ w0, w0 = w.alloc (.cells #[.slice A ws.length cA, .slice L ls.length dL, .slice C cs.length e0] 30) := ⟨_, rfl⟩
    rw [← hw0] at hb hh hsz
    obtain ⟨y0, y1, y2⟩ := three_cells hh
    have HB0 := Lib.hid hb
    clear hb hh hsz r
    by_cases h1 : ws.length ≤ 48
    · have d1 : decide ((48 : Int) < (ws.length : Int)) = false := decide_eq_false (by omega)
      have d2 : decide ((48 : Int) < (ls.length : Int)) = true := decide_eq_true (by omega)
      clear hg h1
      go_enter Tryz.func84, Tryz.ntmps84
      go_wp2_with (fail)
      rw [← hw0]
      go_ret
      exact ⟨rfl, HB0.out⟩
    · have d1 : decide ((48 : Int) < (ws.length : Int)) = true := decide_eq_true (by omega)
      clear hg h1
      go_enter Tryz.func84, Tryz.ntmps84
      go_wp2_with (fail)
      rw [← hw0]
      go_ret
      exact ⟨rfl, HB0.out⟩
end
section
open Go.ChangeAt Go.ChangeShapes Go.RowKit Go.WideShapes

/-- The wire is an output, or an input, of the link. -/
def srcB (x : Int) (l : Lk) : Bool := (l.k == 1 && (l.a == x || l.b == x)) || ((l.k == 3 || l.k == 4) && l.c == x)
def tgtB (x : Int) (l : Lk) : Bool := l.k != 1 && (l.a == x || l.b == x)
/-- The first link for which p holds, or -1. -/
def firstN (p : Lk → Bool) (ls : List Lk) : Int := match ls.findIdx? p with | some i => i | none => -1
theorem firstN_at {p : Lk → Bool} {ls : List Lk} {k : Nat} (hk : k < ls.length) (h : ∀ j, j < k → p (ls.getD j Lk.nil) = false) (hp : p (ls.getD k Lk.nil) = true) : firstN p ls = k := by
  have e : ls.findIdx? p = some k := by
    rw [List.findIdx?_eq_some_iff_getElem]
    refine ⟨hk, by simpa [List.getD, hk] using hp, fun j hj => ?_⟩
    have := h j hj
    have hj2 : j < ls.length := by omega
    simpa [List.getD, hj2] using this
  unfold firstN; rw [e]
theorem firstN_none {p : Lk → Bool} {ls : List Lk} (h : ∀ j, j < ls.length → p (ls.getD j Lk.nil) = false) : firstN p ls = -1 := by
  have e : ls.findIdx? p = none := by
    rw [List.findIdx?_eq_none_iff]
    intro l hl
    obtain ⟨j, hj, rfl⟩ := List.getElem_of_mem hl
    have := h j hj
    simpa [List.getD, hj] using this
  unfold firstN; rw [e]
theorem below_step {p : Lk → Bool} {ls : List Lk} {k : Nat} (h : ∀ j, j < k → p (ls.getD j Lk.nil) = false) (hp : p (ls.getD k Lk.nil) = false) : ∀ j, j < k + 1 → p (ls.getD j Lk.nil) = false := fun j hj => by
  by_cases e : j < k
  · exact h j e
  · obtain rfl : j = k := by omega
    exact hp
/-- SourceOf. -/
def srcN (N : Nt) (x : Int) : Int := if valN N && inW N.w.length x then firstN (srcB x) N.l else -1
/-- TargetOf. -/
def tgtN (N : Nt) (x : Int) : Int := if valN N && inW N.w.length x then firstN (tgtB x) N.l else -1
end
end Go.Proofs.YtgpocnapkflihaaGreatDoor
