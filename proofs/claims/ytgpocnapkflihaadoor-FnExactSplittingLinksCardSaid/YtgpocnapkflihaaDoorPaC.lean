/- The parsing of a net: isOpen, partOfWire, isReady, readyLinks. -/
import Derived.Test.YtgpocnapkflihaaDoorPaB
import Derived.Deep.RegionHeldLaw
import Derived.Deep.DeepCutAuto
import Derived.BigQuiet
namespace Go.Proofs.YtgpocnapkflihaaDoor
set_option linter.unusedSimpArgs false
set_option linter.unusedVariables false
open Go.ChangeAt Go.ChangeShapes Go.RowKit Go.WideShapes

theorem PzS.drew {w : World} {g : Nat} {h : NH} {N : Nt} {fs : List Int} {r : PzH} (s : PzS w g h N fs r) (n : Nat) : PzS (w.drewN n) g h N fs r := s.below (below_drewN (Below.refl _ _) n)
/-- isFired, in a parsing. -/
theorem fired_any {w : World} {g : Nat} {h : NH} {N : Nt} {fs : List Int} {r : PzH} (s : PzS w g h N fs r) {k : Nat} (hk : k < 48) :
    Calls Tryd.prog 100 #[.pointer (some ⟨g, 3, none⟩), .int .i64 k] w fun e w' => e = .returned (.bool (decide (qN N fs k ≠ -1))) ∧ w = w' := by
  have := isFired_any g 3 _ k w (s.box.tab s.uf.len hk) hk
  rwa [s.uf.fired hk] at this
set_option maxRecDepth 100000 in
set_option maxHeartbeats 1000000 in
theorem isOpen_any (h : NH) (N : Nt) (g : Nat) (fs : List Int) (r : PzH) (x : Int) (w : World) (hv : valN N = true) (s : PzS w g h N fs r) (hx : inW N.w.length x = true) :
    Calls Tryd.prog 109 #[.pointer (some ⟨g, 0, none⟩), .int .i64 x] w fun e w' => e = .returned (.bool (opnQ N (qN N fs) x)) ∧ ∃ m, w' = w.drewN m := by
  have h48l := (valN_size hv).2
  have hxl := (inW_yes hx).2.1
  have ex := (inW_yes hx).2.2
  obtain ⟨hfr, hfl⟩ := fr_lt hv hx
  obtain ⟨bp, op, hPe, hpc⟩ := s.proAt (Below.refl g w) hxl
  obtain ⟨bc, oc, hCe, hcc⟩ := s.conAt (Below.refl g w) hxl
  rw [← ex, hfr] at hpc
  rw [← ex] at hcc
  have HF1 := Lib.hid (fun n => quiet_sm (fired_any (s.drew n) (k := frN N x) (by omega)))
  obtain ⟨m0, m1, m2⟩ := s.box.three
  rw [hPe] at m1
  rw [hCe] at m2
  have hO : opnQ N (qN N fs) x = (decide (qN N fs (frN N x) ≠ -1) && !(decide (lxN inL N x ≠ -1) && decide (qN N fs (lxN inL N x).toNat ≠ -1))) := rfl
  rw [hO]
  have hxi : x < (N.w.length : Int) := by omega
  have hx0 : 0 ≤ x := by omega
  rcases lxN_cases inL N x with ⟨j, hj, _, ej⟩ | ⟨_, ej⟩
  · have HF2 := Lib.hid (fired_any s (k := j) (by omega))
    rw [ej, Int.toNat_natCast]
    rw [ej] at hcc
    have d1 : ((j : Int) != -1) = true := by simp
    have d2 : decide ((j : Int) ≠ -1) = true := by simp
    rw [d2, Bool.true_and]
    clear hfr hO hPe hCe s hx hv ej m0 d2 h48l
    generalize frN N x = a at *
    generalize decide (qN N fs a ≠ -1) = b1 at *
    generalize decide (qN N fs j ≠ -1) = b2 at *
    generalize x.toNat = ix at *
    subst ex
    cases b1 <;> cases b2
    all_goals
      go_enter Tryd.func109, Tryd.ntmps109
      go_wp2_with (fail)
      refine HF2.out.mono ?_
      rintro e w1 ⟨rfl, rfl⟩
      go_upto_region 3 with (fail)
      go_quiet (first | (go_at_call 100; exact HF1.out _))
      go_wp2
      go_ret
      exact ⟨rfl, _, rfl⟩
  · rw [ej]
    rw [ej] at hcc
    have d1 : ((-1 : Int) != -1) = false := rfl
    have d2 : decide ((-1 : Int) ≠ -1) = false := rfl
    rw [d2, Bool.false_and]
    clear hfr hO hPe hCe s hx hv ej m0 d2 h48l
    generalize frN N x = a at *
    generalize decide (qN N fs a ≠ -1) = b1 at *
    generalize x.toNat = ix at *
    subst ex
    cases b1
    all_goals
      go_enter Tryd.func109, Tryd.ntmps109
      go_upto_region 3 with (fail)
      go_quiet (first | (go_at_call 100; exact HF1.out _))
      go_wp2
      go_ret
      exact ⟨rfl, _, rfl⟩
set_option maxRecDepth 100000 in
set_option maxHeartbeats 1000000 in
theorem partOfWire_any (h : NH) (N : Nt) (g : Nat) (fs : List Int) (r : PzH) (x : Int) (w : World) (hv : valN N = true) (s : PzS w g h N fs r) (hx : inW N.w.length x = true) :
    Calls Tryd.prog 110 #[.pointer (some ⟨g, 0, none⟩), .int .i64 x] w fun e w' => e = .returned (.int .i64 (qN N fs (frN N x))) ∧ ∃ m, w' = w.drewN m := by
  have h48l := (valN_size hv).2
  have hxl := (inW_yes hx).2.1
  have ex := (inW_yes hx).2.2
  obtain ⟨hfr, hfl⟩ := fr_lt hv hx
  obtain ⟨bp, op, hPe, hpc⟩ := s.proAt (Below.refl g w) hxl
  rw [← ex, hfr] at hpc
  have HF1 := Lib.hid (fun n => quiet_sm (partOf_any g _ _ _ _ _ _ _ (frN N x) (w.drewN n) (s.box.drew n) s.uf (by omega)))
  obtain ⟨m0, m1, m2⟩ := s.box.three
  rw [hPe] at m1
  have hxi : x < (N.w.length : Int) := by omega
  have hx0 : 0 ≤ x := by omega
  clear hfr hPe s hx hv m0 h48l
  generalize frN N x = a at *
  generalize qN N fs a = v at *
  generalize x.toNat = ix at *
  subst ex
  go_enter Tryd.func110, Tryd.ntmps110
  go_upto_region 1 with (fail)
  go_quiet (first | (go_at_call 73; exact HF1.out _))
  go_wp2
  go_ret
  exact ⟨rfl, _, rfl⟩
theorem okF_is {N : Nt} {fs : List Int} {k : Nat} (hk : k < N.l.length) : okF N fs (k : Int) = (!fs.contains (k : Int) && rdyQ N (qN N fs) (N.l.getD k Lk.nil)) := by
  have : inW N.l.length (k : Int) = true := decide_eq_true (by omega)
  unfold okF
  rw [this, Bool.true_and, Int.toNat_natCast]
set_option maxRecDepth 100000 in
set_option maxHeartbeats 1000000 in
theorem isReady_any (h : NH) (N : Nt) (g : Nat) (fs : List Int) (r : PzH) (k : Nat) (w : World) (hv : valN N = true) (s : PzS w g h N fs r) (hk : k < N.l.length) :
    Calls Tryd.prog 93 #[.pointer (some ⟨g, 0, none⟩), .int .i64 k] w fun e w' => e = .returned (.bool (okF N fs (k : Int))) ∧ Below w.heap.size w w' := by
  have h48l := (valN_size hv).2
  rw [okF_is hk]
  have hok := s.ok
  have hfit := fitsN_yes (link_fits hv hk)
  obtain ⟨b, off, hLe, l0, l1, l2, l3⟩ := s.link (Below.refl g w) hk
  obtain ⟨m0, m1, m2⟩ := s.box.three
  have hki : (k : Int) < (N.l.length : Int) := by omega
  have HRI := Lib.hid (fun h1 => ready_is hv hok hk h1)
  have hc : (!fs.contains (k : Int)) = !decide (qN N fs k ≠ -1) := by
    congr 1
    rw [Bool.eq_iff_iff, List.contains_iff_mem, decide_eq_true_eq]; exact (hok.mem k).symm
  have HC := Lib.hid hc
  obtain ⟨⟨lk, la, lb, lc⟩, hl⟩ : ∃ l, N.l.getD k Lk.nil = l := ⟨_, rfl⟩
  rw [hl] at l0 l1 l2 l3 hfit HRI ⊢
  dsimp only at l0 l1 l2 l3 hfit HRI
  obtain ⟨ha, hb, _, _⟩ := hfit
  obtain ⟨bl, z0, z1, z2, z3, zs⟩ := lnk_any w ⟨lk, la, lb, lc⟩ 54
  dsimp only at bl z0 z1 z2 z3
  obtain ⟨u1, hu1⟩ : ∃ u1, u1 = w.alloc (.cells #[.int .i64 lk, .int .i64 la, .int .i64 lb, .int .i64 lc] 54) := ⟨_, rfl⟩
  have HU1 := Lib.hid hu1
  rw [← hu1] at bl zs z0 z1 z2 z3
  have hs1 := s.below bl
  have HFK := Lib.hid (fired_any hs1 (k := k) (by omega))
  have HOA := Lib.hid (isOpen_any h N g fs r la u1 hv hs1 ha)
  have HOB := Lib.hid (fun n => isOpen_any h N g fs r lb (u1.drewN n) hv (hs1.drew n) hb)
  have HPA := Lib.hid (fun n => partOfWire_any h N g fs r la (u1.drewN n) hv (hs1.drew n) ha)
  have HPB := Lib.hid (fun n => partOfWire_any h N g fs r lb (u1.drewN n) hv (hs1.drew n) hb)
  have HZ := Lib.hid (fun n => And.intro (drewN_cell (wr := u1.drewN n) ⟨n, rfl⟩ z0) (And.intro (drewN_cell (wr := u1.drewN n) ⟨n, rfl⟩ z1) (drewN_cell (wr := u1.drewN n) ⟨n, rfl⟩ z2)))
  have HDN := Lib.hid (fun n => (bl.trans (below_drewN (Below.refl u1.heap.size u1) n |>.mono bl.size)))
  have HBL := Lib.hid bl
  rw [hLe] at m0
  clear hLe s hs1 hok hv hc h48l hl ha hb m1 m2 bl zs hu1
  by_cases h1 : lk = 1
  · subst h1
    have HE : Hid ((!decide (qN N fs k ≠ -1)) = (!fs.contains (k : Int) && rdyQ N (qN N fs) ⟨1, la, lb, lc⟩)) := Lib.hid (by rw [HC.out]; simp [rdyQ])
    clear HRI HC
    generalize decide (qN N fs k ≠ -1) = b1 at *
    go_enter Tryd.func93, Tryd.ntmps93
    go_wp2_with (fail)
    rw [← HU1.out]
    go_wp2_with (fail)
    refine HFK.out.mono ?_
    rintro e w1 ⟨rfl, rfl⟩
    go_wp2
    go_ret
    exact ⟨ret_bool HE.out, HBL.out⟩
  · have HE := Lib.hid (HRI.out h1)
    have d1 : (lk == 1) = false := by simpa using h1
    have hdec : (decide (qN N fs (frN N la) = qN N fs (frN N lb)) == decide (lk = 4)) = ((qN N fs (frN N la) == qN N fs (frN N lb)) == (lk == 4)) := rfl
    rw [hdec] at HE
    clear HRI HC h1 hdec
    generalize qN N fs (frN N la) = pa at *
    generalize qN N fs (frN N lb) = pb at *
    generalize (!fs.contains (k : Int) && rdyQ N (qN N fs) ⟨lk, la, lb, lc⟩) = res at *
    generalize opnQ N (qN N fs) la = oa at *
    generalize opnQ N (qN N fs) lb = ob at *
    go_enter Tryd.func93, Tryd.ntmps93
    go_wp2_with (fail)
    rw [← HU1.out]
    go_wp2_with (fail)
    refine HOA.out.mono ?_
    rintro e w2 ⟨rfl, n2, rfl⟩
    clear l0 l1 l2 l3 m0 z0 z1 z2 z3
    obtain ⟨z0, z1, z2⟩ := HZ.out n2
    cases oa with
    | false =>
      have HEE : Hid (false = res) := Lib.hid (by rw [← HE.out]; rfl)
      have HD2 := Lib.hid (HDN.out n2)
      go_wp2
      go_ret
      exact ⟨ret_bool HEE.out, HD2.out⟩
    | true =>
      go_wp2_with (fail)
      refine (HOB.out n2).mono ?_
      rintro e w3 ⟨rfl, n3, rfl⟩
      obtain ⟨n4, hn4⟩ : ∃ n4, (u1.drewN n2).drewN n3 = u1.drewN n4 := drewN_more ⟨n2, rfl⟩ n3
      rw [hn4]
      clear z0 z1 z2 hn4
      obtain ⟨z0, z1, z2⟩ := HZ.out n4
      cases ob with
      | false =>
        have HEE : Hid (false = res) := Lib.hid (by rw [← HE.out]; rfl)
        have HD2 := Lib.hid (HDN.out n4)
        go_wp2
        go_ret
        exact ⟨ret_bool HEE.out, HD2.out⟩
      | true =>
        have HEE : Hid (((pa == pb) == (lk == 4)) = res) := Lib.hid (by rw [← HE.out]; simp)
        have HPA2 := Lib.hid (fun n => show Calls Tryd.prog 110 #[.pointer (some ⟨g, 0, none⟩), .int .i64 la] ((u1.drewN n4).drewN n) fun e w' => e = .returned (.int .i64 pa) ∧ ∃ m, w' = (u1.drewN n4).drewN m from by
          obtain ⟨n5, hn5⟩ : ∃ n5, (u1.drewN n4).drewN n = u1.drewN n5 := drewN_more ⟨n4, rfl⟩ n
          have := HPA.out n5
          rw [← hn5] at this
          exact this.mono fun e w' ⟨he, m, hm⟩ => ⟨he, drewN_more ⟨n, rfl⟩ m |>.imp fun m2 hm2 => hm.trans hm2⟩)
        have HPB2 := Lib.hid (fun n => show Calls Tryd.prog 110 #[.pointer (some ⟨g, 0, none⟩), .int .i64 lb] ((u1.drewN n4).drewN n) fun e w' => e = .returned (.int .i64 pb) ∧ ∃ m, w' = (u1.drewN n4).drewN m from by
          obtain ⟨n5, hn5⟩ : ∃ n5, (u1.drewN n4).drewN n = u1.drewN n5 := drewN_more ⟨n4, rfl⟩ n
          have := HPB.out n5
          rw [← hn5] at this
          exact this.mono fun e w' ⟨he, m, hm⟩ => ⟨he, drewN_more ⟨n, rfl⟩ m |>.imp fun m2 hm2 => hm.trans hm2⟩)
        have HZ2 := Lib.hid (fun n => And.intro (drewN_cell (wr := (u1.drewN n4).drewN n) ⟨n, rfl⟩ z0) (And.intro (drewN_cell (wr := (u1.drewN n4).drewN n) ⟨n, rfl⟩ z1) (drewN_cell (wr := (u1.drewN n4).drewN n) ⟨n, rfl⟩ z2)))
        have HD4 := Lib.hid (fun n => (HDN.out n4).trans (below_drewN (Below.refl (u1.drewN n4).heap.size (u1.drewN n4)) n |>.mono (HDN.out n4).size))
        generalize u1.drewN n4 = u4 at *
        go_upto_region 6 with (fail)
        go_quiet (first | (go_at_call 110; first | with_reducible exact HPA2.out _ | with_reducible exact HPB2.out _))
        clear z0 z1 z2
        obtain ⟨z0, z1, z2⟩ := HZ2.out nq
        have HD5 := Lib.hid (HD4.out nq)
        go_wp2
        go_ret
        exact ⟨ret_bool HEE.out, HD5.out⟩
end Go.Proofs.YtgpocnapkflihaaDoor
