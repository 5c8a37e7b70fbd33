/- The program's AtomicNet. -/
import Derived.Test.YtfanapddopafiaaDoorAtM
import Derived.Test.YtfanapddopafiaaDoorQPgJ
namespace Go.Proofs.YtfanapddopafiaaDoor
set_option linter.unusedSimpArgs false
set_option linter.unusedVariables false
open Go.ChangeAt Go.ChangeShapes Go.RowKit Go.WideShapes

set_option maxHeartbeats 4000000 in
/-- The closure: an axiom at a compound formula. -/
theorem notAtom_any (g : Nat) (h : NH) (N : Nt) (l : Lk) (w : World) (r : RdN w w.heap.size h N) (hgs : g < w.heap.size) (hg : w.cell? ⟨g, 0, none⟩ = some (.slice h.A N.w.length h.c)) (hv : valN N = true) (hfit : fitsN N.w l = true) :
    Calls Tryd.prog 88 #[.agg #[.int .i64 l.k, .int .i64 l.a, .int .i64 l.b, .int .i64 l.c], .pointer (some ⟨g, 0, none⟩)] w fun e w' => e = .returned (.bool (!atomL N.w l)) ∧ Below w.heap.size w w' := by
  have HWO := Lib.hid (wAt_one hv hfit)
  have HOT := Lib.hid (fun hq => atomL_other (ws := N.w) (l := l) hq)
  obtain ⟨_, hix, ez⟩ := inW_yes (fitsN_yes hfit).1
  have hlen := (valid_len (formN_valid (wAt_valid (valN_forms hv) (fitsN_yes hfit).1))).1
  unfold wAt at hlen
  obtain ⟨bw, offw, hW, hbw, hcw⟩ := r.1.2 (by omega)
  obtain ⟨A', c', hcell, _, hrd⟩ := hcw _ hix
  obtain ⟨bq, offq, hA', hbq, hcq⟩ := hrd.2 (by omega)
  have hsym := hcq 0 (by omega)
  obtain ⟨lk, la, lb, lc⟩ := l
  obtain ⟨bl, z0, z1, z2, z3, zs⟩ := lnk_any w ⟨lk, la, lb, lc⟩ 71
  dsimp only at bl z0 z1 z2 z3 ez hix HWO HOT hlen hcell hsym
  obtain ⟨w1, hw1⟩ : ∃ w1, w1 = w.alloc (.cells #[.int .i64 lk, .int .i64 la, .int .i64 lb, .int .i64 lc] 71) := ⟨_, rfl⟩
  rw [← hw1] at bl z0 z1 z2 z3
  have hcell1 := (bl.cell (p := ⟨bw, offw + la.toNat, none⟩) hbw).trans hcell
  have hsym1 := (bl.cell (p := ⟨bq, offq + 0, none⟩) hbq).trans hsym
  have hg1 := (bl.cell (p := ⟨g, 0, none⟩) hgs).trans hg
  rw [hA'] at hcell1
  rw [Nat.add_zero] at hsym1
  rw [hW] at hg1
  unfold wAt at HWO
  have HB := Lib.hid bl
  generalize hz : (N.w.getD la.toNat []).getD 0 0 = z at HWO hsym1
  generalize hnl : (N.w.getD la.toNat []).length = nl at hcell1 hlen
  have hl1 : (0 : Int) < (nl : Int) := by omega
  generalize la.toNat = iz at *
  subst ez
  generalize atomL N.w ⟨lk, (iz : Int), lb, lc⟩ = AT at *
  clear hcell hsym hg bl zs hcw hcq hrd r hv hfit hz hnl
  by_cases hk : lk = 1
  · have HE := Lib.hid (HWO.out hk)
    subst hk
    go_enter Tryd.func88, Tryd.ntmps88
    go_upto_region 1 with (fail)
    rw [← hw1]
    clear hw1
    go_wp2_with (fail)
    refine (isLeaf_any z _).mono ?_
    rintro e w2 ⟨rfl, rfl⟩
    go_wp2
    go_ret
    exact ⟨ret_bool (congrArg Bool.not HE.out), HB.out⟩
  · have HE := Lib.hid (HOT.out hk)
    have hd : (lk == 1) = false := by simpa using hk
    clear hk
    go_enter Tryd.func88, Tryd.ntmps88
    go_upto_region 1 with (fail)
    rw [← hw1]
    clear hw1
    go_wp2
    go_ret
    exact ⟨ret_bool (congrArg Bool.not HE.out.symm), HB.out⟩
set_option maxHeartbeats 4000000 in
theorem indexAtom_any (g : Nat) (h : NH) (N : Nt) (w : World) (r : RdN w w.heap.size h N) (hgs : g < w.heap.size) (hg : w.cell? ⟨g, 0, none⟩ = some (.slice h.A N.w.length h.c)) (hv : valN N = true) :
    Calls Tryd.prog 120 #[.slice h.L N.l.length h.d, .func (.func 88) #[] #[.pointer (some ⟨g, 0, none⟩)]] w fun e w' => ∃ z : Int, e = .returned (.int .i64 z) ∧ (decide (0 ≤ z) = badL N) ∧ Below w.heap.size w w' := by
  have h48 := (valN_size hv).2
  have HR := Lib.hid (fun (wx : World) (hx : Below w.heap.size w wx) => show RdN wx wx.heap.size h N from (r.below hx).more hx.size)
  have HC := Lib.hid (fun (wx : World) (hx : Below w.heap.size w wx) (l : Lk) (hf : fitsN N.w l = true) => notAtom_any g h N l wx ((r.below hx).more hx.size) (Nat.lt_of_lt_of_le hgs hx.size) ((hx.cell (p := ⟨g, 0, none⟩) hgs).trans hg) hv hf)
  have HFT := Lib.hid (fun k (hk : k < N.l.length) => all_at (d := Lk.nil) (valN_fits hv) hk)
  clear r hg hgs hv
  go_enter Tryd.func120, Tryd.ntmps120
  go_wp2
  go_loopw [8] (fun i wr => ∃ k : Nat, k ≤ N.l.length ∧ i = .int .i64 k ∧ (∀ m, m < k → atomL N.w (N.l.getD m Lk.nil) = true) ∧ Below w.heap.size w wr) (fun i _ => N.l.length - (intOf i).toNat)
  case atStart => exact ⟨0, Nat.zero_le _, rfl, fun m hm => absurd hm (by omega), Below.refl _ _⟩
  case round =>
    obtain ⟨k, hk, rfl, hpl, hB⟩ := hrel
    have HB := Lib.hid hB
    by_cases hlt : k < N.l.length
    · obtain ⟨b, off, hA, hbb, hcells⟩ := (HR.out _ hB).2.1.at (show 0 < N.l.length by omega)
      obtain ⟨x0, x1, x2, x3⟩ := hcells k hlt
      have hc := HC.out _ hB _ (HFT.out k hlt)
      have HPL := Lib.hid hpl
      obtain ⟨p, hp⟩ : ∃ p, atomL N.w (N.l.getD k Lk.nil) = p := ⟨_, rfl⟩
      have HP := Lib.hid hp
      rw [hp] at hc
      have HBY := Lib.hid (fun e => badL_yes (N := N) hlt e)
      have HCC := Lib.hid hc
      clear hcells hB hpl hp hc
      obtain ⟨⟨lk, la, lb, lc⟩, hl⟩ : ∃ l, N.l.getD k Lk.nil = l := ⟨_, rfl⟩
      rw [hl] at x0 x1 x2 x3 HCC
      dsimp only at x0 x1 x2 x3 HCC
      clear hl
      rw [hA]
      clear hA
      cases p with
      | false =>
        have HE : Hid (decide (0 ≤ (k : Int)) = badL N) := Lib.hid (by rw [HBY.out HP.out, decide_eq_true (by omega)])
        go_wp2_with (fail)
        refine HCC.out.mono ?_
        rintro e w1 ⟨rfl, bel⟩
        have HB1 := Lib.hid (HB.out.trans (bel.mono HB.out.size))
        clear bel x0 x1 x2 x3
        go_wp2
        go_ret
        exact ⟨_, rfl, HE.out, HB1.out⟩
      | true =>
        go_wp2_with (fail)
        refine HCC.out.mono ?_
        rintro e w1 ⟨rfl, bel⟩
        have HB1 := Lib.hid (HB.out.trans (bel.mono HB.out.size))
        clear bel x0 x1 x2 x3
        go_wp2
        go_roundw
        case rel => exact ⟨k + 1, by omega, by go_num, fun m hm => by by_cases e : m = k; (subst e; exact HP.out); exact HPL.out m (by omega), HB1.out⟩
        case measure => simp [intOf]; omega
    · have hkl : k = N.l.length := by omega
      subst hkl
      have HE : Hid (decide (0 ≤ (-1 : Int)) = badL N) := Lib.hid (by rw [badL_no (fun m hm => hpl m (by omega))]; rfl)
      clear hB hpl
      go_wp2
      go_ret
      exact ⟨_, rfl, HE.out, HB.out⟩
theorem containsAtom_any (g : Nat) (h : NH) (N : Nt) (w : World) (r : RdN w w.heap.size h N) (hgs : g < w.heap.size) (hg : w.cell? ⟨g, 0, none⟩ = some (.slice h.A N.w.length h.c)) (hv : valN N = true) :
    Calls Tryd.prog 90 #[.slice h.L N.l.length h.d, .func (.func 88) #[] #[.pointer (some ⟨g, 0, none⟩)]] w fun e w' => e = .returned (.bool (badL N)) ∧ Below w.heap.size w w' := by
  have HI := Lib.hid (indexAtom_any g h N w r hgs hg hv)
  clear r hg hgs hv
  generalize badL N = B at *
  go_enter Tryd.func90, Tryd.ntmps90
  go_wp2_with (fail)
  refine HI.out.mono ?_
  rintro e w' ⟨z, rfl, hz, bel⟩
  have HZ := Lib.hid hz; have HB := Lib.hid bel
  clear hz bel
  go_wp2
  go_ret
  exact ⟨ret_bool HZ.out, HB.out⟩

set_option maxHeartbeats 4000000 in
theorem atomicNet_impl (h : NH) (N : Nt) (w : World) (r : RdN w w.heap.size h N) (sm : SmallN N) (ht : Arit w) (hu : Dual w) :
    Calls Tryd.prog 53 #[.agg #[.slice h.A N.w.length h.c, .slice h.L N.l.length h.d, .slice h.C N.c.length h.e]] w fun e w' => e = .returned (.bool (atN N)) ∧ Below w.heap.size w w' := by
  obtain ⟨w0, hw0⟩ : ∃ w0, w0 = w.alloc (.cells #[.slice h.A N.w.length h.c, .slice h.L N.l.length h.d, .slice h.C N.c.length h.e] 31) := ⟨_, rfl⟩
  obtain ⟨hb, hh, hsz⟩ := box3_any w (.slice h.A N.w.length h.c) (.slice h.L N.l.length h.d) (.slice h.C N.c.length h.e) 31
  rw [← hw0] at hb hh hsz
  have HK : Hid (∀ w', Below w0.heap.size w0 w' → w'.cell? ⟨w.heap.size, 0, none⟩ = some (.slice h.A N.w.length h.c) ∧ w'.cell? ⟨w.heap.size, 1, none⟩ = some (.slice h.L N.l.length h.d) ∧ w'.cell? ⟨w.heap.size, 2, none⟩ = some (.slice h.C N.c.length h.e)) := Lib.hid fun w' hw => three_cells ((hw.block _ (by omega)).trans hh)
  have HR := Lib.hid (fun (w' : World) (hw : Below w0.heap.size w0 w') => show RdN w' w'.heap.size h N from ((r.below (hb.trans (hw.mono hb.size))).more (Nat.le_trans hb.size hw.size)))
  have hV := validNet_impl h N w0 (HR.out _ (Below.refl _ _)) sm (ht.below hb ht.lt) (hu.below hb hu.lt)
  have HB0 := Lib.hid hb
  have HSZ := Lib.hid hsz
  obtain ⟨y0, y1, y2⟩ := three_cells hh
  have hmf : ∀ (fn : Fn) (first cap : Array Value) (w : World), (Instr.makeFunc fn first cap).run Tryd.prog w = .ok (.func fn first cap) w := fun _ _ _ _ => rfl
  clear hb hh hsz r ht hu sm
  cases hv : valN N with
  | false =>
    rw [hv] at hV
    have HE := Lib.hid (atN_no hv)
    have HV := Lib.hid hV
    clear hV hv
    go_enter Tryd.func53, Tryd.ntmps53
    go_wp2_with (fail)
    rw [← hw0]
    clear hw0
    go_wp2_with (fail)
    refine HV.out.mono ?_
    rintro e w1 ⟨rfl, bel⟩
    have HG := Lib.hid (HB0.out.trans (bel.mono HB0.out.size))
    clear bel y0 y1 y2
    go_wp2
    go_ret
    exact ⟨ret_bool HE.out.symm, HG.out⟩
  | true =>
    rw [hv] at hV
    have HE := Lib.hid (atN_badL hv)
    have HV := Lib.hid hV
    have HVT := Lib.hid hv
    clear hV hv
    go_enter Tryd.func53, Tryd.ntmps53
    go_wp2_with (fail)
    rw [← hw0]
    clear hw0
    go_wp2_with (fail)
    refine HV.out.mono ?_
    rintro e w1 ⟨rfl, bel⟩
    have HB1 := Lib.hid bel
    have hs1 := bel.size
    clear bel y0 y1 y2
    obtain ⟨y0, y1, y2⟩ := HK.out _ HB1.out
    have HC := Lib.hid (containsAtom_any w.heap.size h N w1 (HR.out _ HB1.out) (by have := HSZ.out; omega) y0 HVT.out)
    go_wp2_with (fail)
    refine HC.out.mono ?_
    rintro e w2 ⟨rfl, bel2⟩
    have HG := Lib.hid (HB0.out.trans ((HB1.out.trans (bel2.mono HB1.out.size)).mono HB0.out.size))
    clear bel2 y0 y1 y2
    go_wp2
    go_ret
    exact ⟨ret_bool HE.out.symm, HG.out⟩
end Go.Proofs.YtfanapddopafiaaDoor
