/- The parsing of a net: isOpen, partOfWire, isReady, readyLinks. The parsing of a net before any link has been fired. The parsing of a net: readyLinks, parsedBy, IsFiringSequence, ReadyLinks, PartsAfter. -/
import Derived.Test.YtfdpkhiiboghiaaGreatDoorJQEmA
import Derived.Deep.RegionHeldLaw
import Derived.Deep.DeepCutAuto
import Derived.BigQuiet
namespace Go.Proofs.YtfdpkhiiboghiaaGreatDoor
set_option linter.unusedSimpArgs false
set_option linter.unusedVariables false
section
set_option linter.unusedSimpArgs false
set_option linter.unusedVariables false
open Go.ChangeAt Go.ChangeShapes Go.RowKit Go.WideShapes

theorem PzS.drew {w : World} {g : Nat} {h : NH} {N : Nt} {fs : List Int} {r : PzH} (s : PzS w g h N fs r) (n : Nat) : PzS (w.drewN n) g h N fs r := s.below (below_drewN (Below.refl _ _) n)
/-- isFired, in a parsing. -/
theorem fired_any {w : World} {g : Nat} {h : NH} {N : Nt} {fs : List Int} {r : PzH} (s : PzS w g h N fs r) {k : Nat} (hk : k < 48) :
    Calls Tryz.prog 176 #[.pointer (some ⟨g, 3, none⟩), .int .i64 k] w fun e w' => e = .returned (.bool (decide (qN N fs k ≠ -1))) ∧ w = w' := by
  have := isFired_any g 3 _ k w (s.box.tab s.uf.len hk) hk
  rwa [s.uf.fired hk] at this
set_option maxRecDepth 100000 in
set_option maxHeartbeats 1000000 in
theorem isOpen_any (h : NH) (N : Nt) (g : Nat) (fs : List Int) (r : PzH) (x : Int) (w : World) (hv : valN N = true) (s : PzS w g h N fs r) (hx : inW N.w.length x = true) :
    Calls Tryz.prog 207 #[.pointer (some ⟨g, 0, none⟩), .int .i64 x] w fun e w' => e = .returned (.bool (opnQ N (qN N fs) x)) ∧ ∃ m, w' = w.drewN m := by
  have h48l := (valN_size hv).2
  have hxl := (inW_yes hx).2.1
  have ex := (inW_yes hx).2.2
  obtain ⟨hfr, hfl⟩ := fr_lt hv hx
  obtain ⟨bp, op, hPe, hpc⟩ := s.proAt (Below.refl g w) hxl
  obtain ⟨bc, oc, hCe, hcc⟩ := s.conAt (Below.refl g w) hxl
  rw [← ex, hfr] at hpc
  rw [← ex] at hcc
  have HF1 := Lib.hid (fun n => quiet_sm (fired_any (s.drew n) (k := frN N x) (by omega)))
  obtain ⟨m0, m1, m2⟩ := s.box.three
  rw [hPe] at m1
  rw [hCe] at m2
  have hO : opnQ N (qN N fs) x = (decide (qN N fs (frN N x) ≠ -1) && !(decide (lxN inL N x ≠ -1) && decide (qN N fs (lxN inL N x).toNat ≠ -1))) := rfl
  rw [hO]
  have hxi : x < (N.w.length : Int) := by omega
  have hx0 : 0 ≤ x := by omega
  rcases lxN_cases inL N x with ⟨j, hj, _, ej⟩ | ⟨_, ej⟩
  · have HF2 := Lib.hid (fired_any s (k := j) (by omega))
    rw [ej, Int.toNat_natCast]
    rw [ej] at hcc
    have d1 : ((j : Int) != -1) = true := by simp
    have d2 : decide ((j : Int) ≠ -1) = true := by simp
    rw [d2, Bool.true_and]
    clear hfr hO hPe hCe s hx hv ej m0 d2 h48l
    generalize frN N x = a at *
    generalize decide (qN N fs a ≠ -1) = b1 at *
    generalize decide (qN N fs j ≠ -1) = b2 at *
    generalize x.toNat = ix at *
    subst ex
    cases b1 <;> cases b2
    all_goals
      go_enter Tryz.func207, Tryz.ntmps207
      go_wp2_with (fail)
      refine HF2.out.mono ?_
      rintro e w1 ⟨rfl, rfl⟩
      go_upto_region 3 with (fail)
      go_quiet (first | (go_at_call 176; exact HF1.out _))
      go_wp2
      go_ret
      exact ⟨rfl, _, rfl⟩
  · rw [ej]
    rw [ej] at hcc
    have d1 : ((-1 : Int) != -1) = false := rfl
    have d2 : decide ((-1 : Int) ≠ -1) = false := rfl
    rw [d2, Bool.false_and]
    clear hfr hO hPe hCe s hx hv ej m0 d2 h48l
    generalize frN N x = a at *
    generalize decide (qN N fs a ≠ -1) = b1 at *
    generalize x.toNat = ix at *
    subst ex
    cases b1
    all_goals
      go_enter Tryz.func207, Tryz.ntmps207
      go_upto_region 3 with (fail)
      go_quiet (first | (go_at_call 176; exact HF1.out _))
      go_wp2
      go_ret
      exact ⟨rfl, _, rfl⟩
set_option maxRecDepth 100000 in
set_option maxHeartbeats 1000000 in
theorem partOfWire_any (h : NH) (N : Nt) (g : Nat) (fs : List Int) (r : PzH) (x : Int) (w : World) (hv : valN N = true) (s : PzS w g h N fs r) (hx : inW N.w.length x = true) :
    Calls Tryz.prog 208 #[.pointer (some ⟨g, 0, none⟩), .int .i64 x] w fun e w' => e = .returned (.int .i64 (qN N fs (frN N x))) ∧ ∃ m, w' = w.drewN m := by
  have h48l := (valN_size hv).2
  have hxl := (inW_yes hx).2.1
  have ex := (inW_yes hx).2.2
  obtain ⟨hfr, hfl⟩ := fr_lt hv hx
  obtain ⟨bp, op, hPe, hpc⟩ := s.proAt (Below.refl g w) hxl
  rw [← ex, hfr] at hpc
  have HF1 := Lib.hid (fun n => quiet_sm (partOf_any g _ _ _ _ _ _ _ (frN N x) (w.drewN n) (s.box.drew n) s.uf (by omega)))
  obtain ⟨m0, m1, m2⟩ := s.box.three
  rw [hPe] at m1
  have hxi : x < (N.w.length : Int) := by omega
  have hx0 : 0 ≤ x := by omega
  clear hfr hPe s hx hv m0 h48l
  generalize frN N x = a at *
  generalize qN N fs a = v at *
  generalize x.toNat = ix at *
  subst ex
  go_enter Tryz.func208, Tryz.ntmps208
  go_upto_region 1 with (fail)
  go_quiet (first | (go_at_call 145; exact HF1.out _))
  go_wp2
  go_ret
  exact ⟨rfl, _, rfl⟩
theorem okF_is {N : Nt} {fs : List Int} {k : Nat} (hk : k < N.l.length) : okF N fs (k : Int) = (!fs.contains (k : Int) && rdyQ N (qN N fs) (N.l.getD k Lk.nil)) := by
  have : inW N.l.length (k : Int) = true := decide_eq_true (by omega)
  unfold okF
  rw [this, Bool.true_and, Int.toNat_natCast]
set_option maxRecDepth 100000 in
set_option maxHeartbeats 1000000 in
theorem isReady_any (h : NH) (N : Nt) (g : Nat) (fs : List Int) (r : PzH) (k : Nat) (w : World) (hv : valN N = true) (s : PzS w g h N fs r) (hk : k < N.l.length) :
    Calls Tryz.prog 187 #[.pointer (some ⟨g, 0, none⟩), .int .i64 k] w fun e w' => e = .returned (.bool (okF N fs (k : Int))) ∧ Below w.heap.size w w' := by
  have h48l := (valN_size hv).2
  rw [okF_is hk]
  have hok := s.ok
  have hfit := fitsN_yes (link_fits hv hk)
  obtain ⟨b, off, hLe, l0, l1, l2, l3⟩ := s.link (Below.refl g w) hk
  obtain ⟨m0, m1, m2⟩ := s.box.three
  have hki : (k : Int) < (N.l.length : Int) := by omega
  have HRI := Lib.hid (fun h1 => ready_is hv hok hk h1)
  have hc : (!fs.contains (k : Int)) = !decide (qN N fs k ≠ -1) := by
    congr 1
    rw [Bool.eq_iff_iff, List.contains_iff_mem, decide_eq_true_eq]; exact (hok.mem k).symm
  have HC := Lib.hid hc
  obtain ⟨⟨lk, la, lb, lc⟩, hl⟩ : ∃ l, N.l.getD k Lk.nil = l := ⟨_, rfl⟩
  rw [hl] at l0 l1 l2 l3 hfit HRI ⊢
  dsimp only at l0 l1 l2 l3 hfit HRI
  obtain ⟨ha, hb, _, _⟩ := hfit
  obtain ⟨bl, z0, z1, z2, z3, zs⟩ := lnk_any w ⟨lk, la, lb, lc⟩ 103
  dsimp only at bl z0 z1 z2 z3
  obtain ⟨u1, hu1⟩ : ∃ u1, u1 = w.alloc (.cells #[.int .i64 lk, .int .i64 la, .int .i64 lb, .int .i64 lc] 103) := ⟨_, rfl⟩
  have HU1 := Lib.hid hu1
  rw [← hu1] at bl zs z0 z1 z2 z3
  have hs1 := s.below bl
  have HFK := Lib.hid (fired_any hs1 (k := k) (by omega))
  have HOA := Lib.hid (isOpen_any h N g fs r la u1 hv hs1 ha)
  have HOB := Lib.hid (fun n => isOpen_any h N g fs r lb (u1.drewN n) hv (hs1.drew n) hb)
  have HPA := Lib.hid (fun n => partOfWire_any h N g fs r la (u1.drewN n) hv (hs1.drew n) ha)
  have HPB := Lib.hid (fun n => partOfWire_any h N g fs r lb (u1.drewN n) hv (hs1.drew n) hb)
  have HZ := Lib.hid (fun n => And.intro (drewN_cell (wr := u1.drewN n) ⟨n, rfl⟩ z0) (And.intro (drewN_cell (wr := u1.drewN n) ⟨n, rfl⟩ z1) (drewN_cell (wr := u1.drewN n) ⟨n, rfl⟩ z2)))
  have HDN := Lib.hid (fun n => (bl.trans (below_drewN (Below.refl u1.heap.size u1) n |>.mono bl.size)))
  have HBL := Lib.hid bl
  rw [hLe] at m0
  clear hLe s hs1 hok hv hc h48l hl ha hb m1 m2 bl zs hu1
  by_cases h1 : lk = 1
  · subst h1
    have HE : Hid ((!decide (qN N fs k ≠ -1)) = (!fs.contains (k : Int) && rdyQ N (qN N fs) ⟨1, la, lb, lc⟩)) := Lib.hid (by rw [HC.out]; simp [rdyQ])
    clear HRI HC
    generalize decide (qN N fs k ≠ -1) = b1 at *
    go_enter Tryz.func187, Tryz.ntmps187
    go_wp2_with (fail)
    rw [← HU1.out]
    go_wp2_with (fail)
    refine HFK.out.mono ?_
    rintro e w1 ⟨rfl, rfl⟩
    go_wp2
    go_ret
    exact ⟨ret_bool HE.out, HBL.out⟩
  · have HE := Lib.hid (HRI.out h1)
    have d1 : (lk == 1) = false := by simpa using h1
    have hdec : (decide (qN N fs (frN N la) = qN N fs (frN N lb)) == decide (lk = 4)) = ((qN N fs (frN N la) == qN N fs (frN N lb)) == (lk == 4)) := rfl
    rw [hdec] at HE
    clear HRI HC h1 hdec
    generalize qN N fs (frN N la) = pa at *
    generalize qN N fs (frN N lb) = pb at *
    generalize (!fs.contains (k : Int) && rdyQ N (qN N fs) ⟨lk, la, lb, lc⟩) = res at *
    generalize opnQ N (qN N fs) la = oa at *
    generalize opnQ N (qN N fs) lb = ob at *
    go_enter Tryz.func187, Tryz.ntmps187
    go_wp2_with (fail)
    rw [← HU1.out]
    go_wp2_with (fail)
    refine HOA.out.mono ?_
    rintro e w2 ⟨rfl, n2, rfl⟩
    clear l0 l1 l2 l3 m0 z0 z1 z2 z3
    obtain ⟨z0, z1, z2⟩ := HZ.out n2
    cases oa with
    | false =>
      have HEE : Hid (false = res) := Lib.hid (by rw [← HE.out]; rfl)
      have HD2 := Lib.hid (HDN.out n2)
      go_wp2
      go_ret
      exact ⟨ret_bool HEE.out, HD2.out⟩
    | true =>
      go_wp2_with (fail)
      refine (HOB.out n2).mono ?_
      rintro e w3 ⟨rfl, n3, rfl⟩
      obtain ⟨n4, hn4⟩ : ∃ n4, (u1.drewN n2).drewN n3 = u1.drewN n4 := drewN_more ⟨n2, rfl⟩ n3
      rw [hn4]
      clear z0 z1 z2 hn4
      obtain ⟨z0, z1, z2⟩ := HZ.out n4
      cases ob with
      | false =>
        have HEE : Hid (false = res) := Lib.hid (by rw [← HE.out]; rfl)
        have HD2 := Lib.hid (HDN.out n4)
        go_wp2
        go_ret
        exact ⟨ret_bool HEE.out, HD2.out⟩
      | true =>
        have HEE : Hid (((pa == pb) == (lk == 4)) = res) := Lib.hid (by rw [← HE.out]; simp)
        have HPA2 := Lib.hid (fun n => show Calls Tryz.prog 208 #[.pointer (some ⟨g, 0, none⟩), .int .i64 la] ((u1.drewN n4).drewN n) fun e w' => e = .returned (.int .i64 pa) ∧ ∃ m, w' = (u1.drewN n4).drewN m from by
          obtain ⟨n5, hn5⟩ : ∃ n5, (u1.drewN n4).drewN n = u1.drewN n5 := drewN_more ⟨n4, rfl⟩ n
          have := HPA.out n5
          rw [← hn5] at this
          exact this.mono fun e w' ⟨he, m, hm⟩ => ⟨he, drewN_more ⟨n, rfl⟩ m |>.imp fun m2 hm2 => hm.trans hm2⟩)
        have HPB2 := Lib.hid (fun n => show Calls Tryz.prog 208 #[.pointer (some ⟨g, 0, none⟩), .int .i64 lb] ((u1.drewN n4).drewN n) fun e w' => e = .returned (.int .i64 pb) ∧ ∃ m, w' = (u1.drewN n4).drewN m from by
          obtain ⟨n5, hn5⟩ : ∃ n5, (u1.drewN n4).drewN n = u1.drewN n5 := drewN_more ⟨n4, rfl⟩ n
          have := HPB.out n5
          rw [← hn5] at this
          exact this.mono fun e w' ⟨he, m, hm⟩ => ⟨he, drewN_more ⟨n, rfl⟩ m |>.imp fun m2 hm2 => hm.trans hm2⟩)
        have HZ2 := Lib.hid (fun n => And.intro (drewN_cell (wr := (u1.drewN n4).drewN n) ⟨n, rfl⟩ z0) (And.intro (drewN_cell (wr := (u1.drewN n4).drewN n) ⟨n, rfl⟩ z1) (drewN_cell (wr := (u1.drewN n4).drewN n) ⟨n, rfl⟩ z2)))
        have HD4 := Lib.hid (fun n => (HDN.out n4).trans (below_drewN (Below.refl (u1.drewN n4).heap.size (u1.drewN n4)) n |>.mono (HDN.out n4).size))
        generalize u1.drewN n4 = u4 at *
        go_upto_region 6 with (fail)
        go_quiet (first | (go_at_call 208; first | with_reducible exact HPA2.out _ | with_reducible exact HPB2.out _))
        clear z0 z1 z2
        obtain ⟨z0, z1, z2⟩ := HZ2.out nq
        have HD5 := Lib.hid (HD4.out nq)
        go_wp2
        go_ret
        exact ⟨ret_bool HEE.out, HD5.out⟩
end
section
set_option linter.unusedSimpArgs false
set_option linter.unusedVariables false
open Go.ChangeAt Go.ChangeShapes Go.RowKit Go.WideShapes

/-- The cells of the parts: the table and the count. -/
def npA (T : List Int) (c : Int) : Array Value := (T.map (Value.int .i64) ++ [Value.int .i64 c]).toArray
/-- The table while it is being filled. -/
def npT (k : Nat) : List Int := (List.range 48).map fun i => if i < k then (-1 : Int) else 0
theorem npT_len (k : Nat) : (npT k).length = 48 := by simp [npT]
theorem npT_zero : npA (npT 0) 0 = #[Value.int .i64 0, Value.int .i64 0, Value.int .i64 0, Value.int .i64 0, Value.int .i64 0, Value.int .i64 0, Value.int .i64 0, Value.int .i64 0, Value.int .i64 0, Value.int .i64 0, Value.int .i64 0, Value.int .i64 0, Value.int .i64 0, Value.int .i64 0, Value.int .i64 0, Value.int .i64 0, Value.int .i64 0, Value.int .i64 0, Value.int .i64 0, Value.int .i64 0, Value.int .i64 0, Value.int .i64 0, Value.int .i64 0, Value.int .i64 0, Value.int .i64 0, Value.int .i64 0, Value.int .i64 0, Value.int .i64 0, Value.int .i64 0, Value.int .i64 0, Value.int .i64 0, Value.int .i64 0, Value.int .i64 0, Value.int .i64 0, Value.int .i64 0, Value.int .i64 0, Value.int .i64 0, Value.int .i64 0, Value.int .i64 0, Value.int .i64 0, Value.int .i64 0, Value.int .i64 0, Value.int .i64 0, Value.int .i64 0, Value.int .i64 0, Value.int .i64 0, Value.int .i64 0, Value.int .i64 0, Value.int .i64 0] := by kernel_rfl
/-- The table before any link has been fired. -/
def npL : List Int := List.replicate 48 (-1)
theorem npL_len : npL.length = 48 := by unfold npL; rw [List.length_replicate]
theorem npL_lit : npA npL 0 = #[Value.int .i64 (-1), Value.int .i64 (-1), Value.int .i64 (-1), Value.int .i64 (-1), Value.int .i64 (-1), Value.int .i64 (-1), Value.int .i64 (-1), Value.int .i64 (-1), Value.int .i64 (-1), Value.int .i64 (-1), Value.int .i64 (-1), Value.int .i64 (-1), Value.int .i64 (-1), Value.int .i64 (-1), Value.int .i64 (-1), Value.int .i64 (-1), Value.int .i64 (-1), Value.int .i64 (-1), Value.int .i64 (-1), Value.int .i64 (-1), Value.int .i64 (-1), Value.int .i64 (-1), Value.int .i64 (-1), Value.int .i64 (-1), Value.int .i64 (-1), Value.int .i64 (-1), Value.int .i64 (-1), Value.int .i64 (-1), Value.int .i64 (-1), Value.int .i64 (-1), Value.int .i64 (-1), Value.int .i64 (-1), Value.int .i64 (-1), Value.int .i64 (-1), Value.int .i64 (-1), Value.int .i64 (-1), Value.int .i64 (-1), Value.int .i64 (-1), Value.int .i64 (-1), Value.int .i64 (-1), Value.int .i64 (-1), Value.int .i64 (-1), Value.int .i64 (-1), Value.int .i64 (-1), Value.int .i64 (-1), Value.int .i64 (-1), Value.int .i64 (-1), Value.int .i64 (-1), Value.int .i64 0] := by kernel_rfl
theorem npT_all : npT 48 = npL := by kernel_rfl
theorem npT_set {k : Nat} (hk : k < 48) : (npA (npT k) 0).setIfInBounds k (.int .i64 (-1)) = npA (npT (k + 1)) 0 := by
  unfold npA
  rw [List.setIfInBounds_toArray, List.set_append_left _ _ (by rw [List.length_map, npT_len]; omega), ← List.map_set]
  congr 3
  apply List.ext_getElem?
  intro j
  rw [List.getElem?_set, npT_len]
  by_cases e : k = j
  · subst e
    rw [if_pos rfl, if_pos hk]
    simp [npT, hk]
  · rw [if_neg e]
    by_cases hj : j < 48
    · simp only [npT, List.getElem?_map, List.getElem?_range hj, Option.map_some]
      have : j < k ↔ j < k + 1 := by omega
      simp only [this]
    · rw [List.getElem?_eq_none (by rw [npT_len]; omega), List.getElem?_eq_none (by rw [npT_len]; omega)]
theorem npA_at {T : List Int} {c : Int} {k : Nat} (hT : T.length = 48) (hk : k < 48) : (npA T c)[k]? = some (.int .i64 (T.getD k 0)) := by
  have hk2 : k < T.length := by omega
  simp [npA, List.getElem?_append, hT, hk, hk2, List.getD]
theorem npA_size {T : List Int} {c : Int} (hT : T.length = 48) : (npA T c).size = 49 := by simp [npA, hT]
theorem size_np : (Tryz.prog.info? 141).map (·.size) = some 49 := by kernel_rfl
theorem one_np (T : List Int) (c : Int) : (npA T c).all (·.oneCell') = true := by
  unfold npA
  simp [Value.oneCell']
set_option maxRecDepth 100000 in
set_option maxHeartbeats 2000000 in
theorem noParts_V (w : World) : Calls Tryz.prog 173 #[] w fun e w' => e = .returned (.agg (npA npL 0)) ∧ Below w.heap.size w w' := by
  obtain ⟨w1, hw1⟩ : ∃ w1, w1 = w.alloc (.cells #[Value.int .i64 0, Value.int .i64 0, Value.int .i64 0, Value.int .i64 0, Value.int .i64 0, Value.int .i64 0, Value.int .i64 0, Value.int .i64 0, Value.int .i64 0, Value.int .i64 0, Value.int .i64 0, Value.int .i64 0, Value.int .i64 0, Value.int .i64 0, Value.int .i64 0, Value.int .i64 0, Value.int .i64 0, Value.int .i64 0, Value.int .i64 0, Value.int .i64 0, Value.int .i64 0, Value.int .i64 0, Value.int .i64 0, Value.int .i64 0, Value.int .i64 0, Value.int .i64 0, Value.int .i64 0, Value.int .i64 0, Value.int .i64 0, Value.int .i64 0, Value.int .i64 0, Value.int .i64 0, Value.int .i64 0, Value.int .i64 0, Value.int .i64 0, Value.int .i64 0, Value.int .i64 0, Value.int .i64 0, Value.int .i64 0, Value.int .i64 0, Value.int .i64 0, Value.int .i64 0, Value.int .i64 0, Value.int .i64 0, Value.int .i64 0, Value.int .i64 0, Value.int .i64 0, Value.int .i64 0, Value.int .i64 0] 141) := ⟨_, rfl⟩
  obtain ⟨w2, hw2⟩ : ∃ w2, w2 = w1.alloc (.cells #[Value.int .i64 0, Value.int .i64 0, Value.int .i64 0, Value.int .i64 0, Value.int .i64 0, Value.int .i64 0, Value.int .i64 0, Value.int .i64 0, Value.int .i64 0, Value.int .i64 0, Value.int .i64 0, Value.int .i64 0, Value.int .i64 0, Value.int .i64 0, Value.int .i64 0, Value.int .i64 0, Value.int .i64 0, Value.int .i64 0, Value.int .i64 0, Value.int .i64 0, Value.int .i64 0, Value.int .i64 0, Value.int .i64 0, Value.int .i64 0, Value.int .i64 0, Value.int .i64 0, Value.int .i64 0, Value.int .i64 0, Value.int .i64 0, Value.int .i64 0, Value.int .i64 0, Value.int .i64 0, Value.int .i64 0, Value.int .i64 0, Value.int .i64 0, Value.int .i64 0, Value.int .i64 0, Value.int .i64 0, Value.int .i64 0, Value.int .i64 0, Value.int .i64 0, Value.int .i64 0, Value.int .i64 0, Value.int .i64 0, Value.int .i64 0, Value.int .i64 0, Value.int .i64 0, Value.int .i64 0, Value.int .i64 0] 141) := ⟨_, rfl⟩
  have hs1 : w1.heap.size = w.heap.size + 1 := by rw [hw1]; simp
  have g1 : w1.heap[w.heap.size]? = some (.cells #[Value.int .i64 0, Value.int .i64 0, Value.int .i64 0, Value.int .i64 0, Value.int .i64 0, Value.int .i64 0, Value.int .i64 0, Value.int .i64 0, Value.int .i64 0, Value.int .i64 0, Value.int .i64 0, Value.int .i64 0, Value.int .i64 0, Value.int .i64 0, Value.int .i64 0, Value.int .i64 0, Value.int .i64 0, Value.int .i64 0, Value.int .i64 0, Value.int .i64 0, Value.int .i64 0, Value.int .i64 0, Value.int .i64 0, Value.int .i64 0, Value.int .i64 0, Value.int .i64 0, Value.int .i64 0, Value.int .i64 0, Value.int .i64 0, Value.int .i64 0, Value.int .i64 0, Value.int .i64 0, Value.int .i64 0, Value.int .i64 0, Value.int .i64 0, Value.int .i64 0, Value.int .i64 0, Value.int .i64 0, Value.int .i64 0, Value.int .i64 0, Value.int .i64 0, Value.int .i64 0, Value.int .i64 0, Value.int .i64 0, Value.int .i64 0, Value.int .i64 0, Value.int .i64 0, Value.int .i64 0, Value.int .i64 0] 141 (0, 0)) := by rw [hw1]; exact heap_alloc_new _ _
  have b2 : Below w1.heap.size w1 w2 := by rw [hw2]; exact (Below.refl _ _).alloc (Nat.le_refl _) _
  have b1 : Below w.heap.size w w1 := by rw [hw1]; exact (Below.refl _ _).alloc (Nat.le_refl _) _
  have G2 : Hid (w2.heap[w.heap.size + 1]? = some (.cells (npA (npT 0) 0) 141 (0, 0))) := Lib.hid (by rw [npT_zero, hw2, ← hs1]; exact heap_alloc_new _ _)
  have G1 : Hid (w2.heap[w.heap.size]? = some (.cells #[Value.int .i64 0, Value.int .i64 0, Value.int .i64 0, Value.int .i64 0, Value.int .i64 0, Value.int .i64 0, Value.int .i64 0, Value.int .i64 0, Value.int .i64 0, Value.int .i64 0, Value.int .i64 0, Value.int .i64 0, Value.int .i64 0, Value.int .i64 0, Value.int .i64 0, Value.int .i64 0, Value.int .i64 0, Value.int .i64 0, Value.int .i64 0, Value.int .i64 0, Value.int .i64 0, Value.int .i64 0, Value.int .i64 0, Value.int .i64 0, Value.int .i64 0, Value.int .i64 0, Value.int .i64 0, Value.int .i64 0, Value.int .i64 0, Value.int .i64 0, Value.int .i64 0, Value.int .i64 0, Value.int .i64 0, Value.int .i64 0, Value.int .i64 0, Value.int .i64 0, Value.int .i64 0, Value.int .i64 0, Value.int .i64 0, Value.int .i64 0, Value.int .i64 0, Value.int .i64 0, Value.int .i64 0, Value.int .i64 0, Value.int .i64 0, Value.int .i64 0, Value.int .i64 0, Value.int .i64 0, Value.int .i64 0] 141 (0, 0))) := Lib.hid ((b2.block _ (by omega)).trans g1)
  have B2 : Hid (Below w.heap.size w w2) := Lib.hid (b1.trans (b2.mono (by omega)))
  have HW1 := Lib.hid hw1; have HW2 := Lib.hid hw2; have HS1 := Lib.hid hs1
  clear hs1 g1 b1 b2
  go_enter Tryz.func173, Tryz.ntmps173
  go_wp2
  rw [← hw1, ← hw2]
  clear hw1 hw2
  go_loopw [3] (fun i wr => ∃ k : Nat, k ≤ 48 ∧ i = .int .i64 k ∧ wr.heap[w.heap.size]? = some (.cells #[Value.int .i64 0, Value.int .i64 0, Value.int .i64 0, Value.int .i64 0, Value.int .i64 0, Value.int .i64 0, Value.int .i64 0, Value.int .i64 0, Value.int .i64 0, Value.int .i64 0, Value.int .i64 0, Value.int .i64 0, Value.int .i64 0, Value.int .i64 0, Value.int .i64 0, Value.int .i64 0, Value.int .i64 0, Value.int .i64 0, Value.int .i64 0, Value.int .i64 0, Value.int .i64 0, Value.int .i64 0, Value.int .i64 0, Value.int .i64 0, Value.int .i64 0, Value.int .i64 0, Value.int .i64 0, Value.int .i64 0, Value.int .i64 0, Value.int .i64 0, Value.int .i64 0, Value.int .i64 0, Value.int .i64 0, Value.int .i64 0, Value.int .i64 0, Value.int .i64 0, Value.int .i64 0, Value.int .i64 0, Value.int .i64 0, Value.int .i64 0, Value.int .i64 0, Value.int .i64 0, Value.int .i64 0, Value.int .i64 0, Value.int .i64 0, Value.int .i64 0, Value.int .i64 0, Value.int .i64 0, Value.int .i64 0] 141 (0, 0)) ∧ wr.heap[w.heap.size + 1]? = some (.cells (npA (npT k) 0) 141 (0, 0)) ∧ Below w.heap.size w wr) (fun i _ => 48 - (intOf i).toNat)
  case atStart => exact ⟨0, Nat.zero_le _, rfl, G1.out, G2.out, B2.out⟩
  case round =>
    obtain ⟨k, hk, rfl, h1, h2, hB⟩ := hrel
    clear G1 G2 B2
    by_cases hlt : k < 48
    · have x0 := (cell_of_row _ _ k _ _ (0, 0) h2).trans (npA_at (npT_len k) hlt)
      have f0 := frozen_of_row _ _ k _ _ h2
      have hs := heap_setCell_same wr (w.heap.size + 1) k _ _ (.int .i64 (-1)) h2
      rw [npT_set hlt] at hs
      have ho : (wr.setCell ⟨w.heap.size + 1, k, none⟩ (.int .i64 (-1))).heap[w.heap.size]? = some (.cells #[Value.int .i64 0, Value.int .i64 0, Value.int .i64 0, Value.int .i64 0, Value.int .i64 0, Value.int .i64 0, Value.int .i64 0, Value.int .i64 0, Value.int .i64 0, Value.int .i64 0, Value.int .i64 0, Value.int .i64 0, Value.int .i64 0, Value.int .i64 0, Value.int .i64 0, Value.int .i64 0, Value.int .i64 0, Value.int .i64 0, Value.int .i64 0, Value.int .i64 0, Value.int .i64 0, Value.int .i64 0, Value.int .i64 0, Value.int .i64 0, Value.int .i64 0, Value.int .i64 0, Value.int .i64 0, Value.int .i64 0, Value.int .i64 0, Value.int .i64 0, Value.int .i64 0, Value.int .i64 0, Value.int .i64 0, Value.int .i64 0, Value.int .i64 0, Value.int .i64 0, Value.int .i64 0, Value.int .i64 0, Value.int .i64 0, Value.int .i64 0, Value.int .i64 0, Value.int .i64 0, Value.int .i64 0, Value.int .i64 0, Value.int .i64 0, Value.int .i64 0, Value.int .i64 0, Value.int .i64 0, Value.int .i64 0] 141 (0, 0)) := (heap_setCell_other _ _ _ _ (by show w.heap.size ≠ w.heap.size + 1; omega)).trans h1
      have HS := Lib.hid hs; have HO := Lib.hid ho
      have HB := Lib.hid (hB.setCell (p := ⟨w.heap.size + 1, k, none⟩) (by show w.heap.size ≤ w.heap.size + 1; omega) (.int .i64 (-1)))
      have hi : (k : Int) < 48 := by omega
      clear h1 h2 hB hs ho
      generalize (npT k).getD k 0 = v at x0
      go_wp2
      go_roundw
      case rel => exact ⟨k + 1, by omega, by go_num, HO.out, HS.out, HB.out⟩
      case measure => simp [intOf]; omega
    · obtain rfl : k = 48 := by omega
      rw [npT_all] at h2
      have H1 := Lib.hid h1; have H2 := Lib.hid h2; have HB := Lib.hid hB
      clear h1 h2 hB
      have hl48 := npL_len
      have HSZ := Lib.hid (npA_size (c := 0) hl48)
      have HON := Lib.hid (one_np npL 0)
      clear hl48
      obtain ⟨V, hV⟩ : ∃ V, npA npL 0 = V := ⟨_, rfl⟩
      have HV := Lib.hid hV
      rw [hV] at H2 HSZ HON
      clear hV
      go_wp2_with (first
        | (refine wpList_load_row rfl _ _ rfl (w.heap.size + 1) rfl _ _ _ _ H2.out Tryz.underlying141 rfl (by rw [HSZ.out]; exact size_np) ?_)
        | (refine wpList_store_row rfl _ _ _ rfl w.heap.size _ rfl rfl _ _ H1.out (by rw [HSZ.out]; exact size_np) (by rw [HSZ.out]; rfl) HON.out ?_))
      have hg3 := setRow_heap wr w.heap.size _ V _ _ H1.out
      have hb3 : Below w.heap.size w (wr.setRow w.heap.size V) := below_setRow HB.out (Nat.le_refl _) _
      have HG3 := Lib.hid hg3; have HB3 := Lib.hid hb3
      clear hg3 hb3
      generalize wr.setRow w.heap.size V = w3 at *
      go_wp2
      (try simp only [Exit.inBlock, Exit.then])
      refine bodyPost_ret (results_cell_row rfl _ _ w.heap.size _ _ (0, 0) _ rfl HG3.out Tryz.underlying141 rfl (by rw [HSZ.out]; exact size_np)) rfl ?_
      exact ⟨by rw [HV.out], HB3.out⟩
theorem noParts_any (w : World) : Calls Tryz.prog 173 #[] w fun e w' => e = .returned (.agg #[Value.int .i64 (-1), Value.int .i64 (-1), Value.int .i64 (-1), Value.int .i64 (-1), Value.int .i64 (-1), Value.int .i64 (-1), Value.int .i64 (-1), Value.int .i64 (-1), Value.int .i64 (-1), Value.int .i64 (-1), Value.int .i64 (-1), Value.int .i64 (-1), Value.int .i64 (-1), Value.int .i64 (-1), Value.int .i64 (-1), Value.int .i64 (-1), Value.int .i64 (-1), Value.int .i64 (-1), Value.int .i64 (-1), Value.int .i64 (-1), Value.int .i64 (-1), Value.int .i64 (-1), Value.int .i64 (-1), Value.int .i64 (-1), Value.int .i64 (-1), Value.int .i64 (-1), Value.int .i64 (-1), Value.int .i64 (-1), Value.int .i64 (-1), Value.int .i64 (-1), Value.int .i64 (-1), Value.int .i64 (-1), Value.int .i64 (-1), Value.int .i64 (-1), Value.int .i64 (-1), Value.int .i64 (-1), Value.int .i64 (-1), Value.int .i64 (-1), Value.int .i64 (-1), Value.int .i64 (-1), Value.int .i64 (-1), Value.int .i64 (-1), Value.int .i64 (-1), Value.int .i64 (-1), Value.int .i64 (-1), Value.int .i64 (-1), Value.int .i64 (-1), Value.int .i64 (-1), Value.int .i64 0]) ∧ Below w.heap.size w w' := by
  have := noParts_V w
  rwa [npL_lit] at this
/-- What a function leaves that hands back a parsing. -/
def GivesPz (w : World) (h : NH) (N : Nt) (fs : List Int) (e : Ending) (w' : World) : Prop := ∃ g r', e = .returned (.pointer (some ⟨g, 0, none⟩)) ∧ w.heap.size ≤ g ∧ PzS w' g h N fs r' ∧ Below w.heap.size w w'
theorem pz_lit (X Y Z F : Value) : pzA X Y Z npL 0 F = #[X, Y, Z, Value.int .i64 (-1), Value.int .i64 (-1), Value.int .i64 (-1), Value.int .i64 (-1), Value.int .i64 (-1), Value.int .i64 (-1), Value.int .i64 (-1), Value.int .i64 (-1), Value.int .i64 (-1), Value.int .i64 (-1), Value.int .i64 (-1), Value.int .i64 (-1), Value.int .i64 (-1), Value.int .i64 (-1), Value.int .i64 (-1), Value.int .i64 (-1), Value.int .i64 (-1), Value.int .i64 (-1), Value.int .i64 (-1), Value.int .i64 (-1), Value.int .i64 (-1), Value.int .i64 (-1), Value.int .i64 (-1), Value.int .i64 (-1), Value.int .i64 (-1), Value.int .i64 (-1), Value.int .i64 (-1), Value.int .i64 (-1), Value.int .i64 (-1), Value.int .i64 (-1), Value.int .i64 (-1), Value.int .i64 (-1), Value.int .i64 (-1), Value.int .i64 (-1), Value.int .i64 (-1), Value.int .i64 (-1), Value.int .i64 (-1), Value.int .i64 (-1), Value.int .i64 (-1), Value.int .i64 (-1), Value.int .i64 (-1), Value.int .i64 (-1), Value.int .i64 (-1), Value.int .i64 (-1), Value.int .i64 (-1), Value.int .i64 (-1), Value.int .i64 (-1), Value.int .i64 (-1), Value.int .i64 0, F] := by kernel_rfl
set_option maxRecDepth 100000 in
set_option maxHeartbeats 2000000 in
theorem parsingOf_any (h : NH) (N : Nt) (w : World) (hv : valN N = true) (r : RdN w w.heap.size h N) :
    Calls Tryz.prog 163 #[.agg #[.slice h.A N.w.length h.c, .slice h.L N.l.length h.d, .slice h.C N.c.length h.e]] w (GivesPz w h N []) := by
  obtain ⟨w0, hw0⟩ : ∃ w0, w0 = w.alloc (.cells #[.slice h.A N.w.length h.c, .slice h.L N.l.length h.d, .slice h.C N.c.length h.e] 30) := ⟨_, rfl⟩
  obtain ⟨hb, hh, hsz⟩ := box3_any w (.slice h.A N.w.length h.c) (.slice h.L N.l.length h.d) (.slice h.C N.c.length h.e) 30
  rw [← hw0] at hb hh hsz
  have hs0 : w.heap.size + 1 ≤ w0.heap.size := by omega
  have HKF : Hid (∀ w', Below w0.heap.size w0 w' → w'.cell? ⟨w.heap.size, 0, none⟩ = some (.slice h.A N.w.length h.c) ∧ w'.cell? ⟨w.heap.size, 1, none⟩ = some (.slice h.L N.l.length h.d) ∧ w'.cell? ⟨w.heap.size, 2, none⟩ = some (.slice h.C N.c.length h.e)) := Lib.hid fun w' hw => three_cells ((hw.block _ (by omega)).trans hh)
  have HO := Lib.hid (fun (wx : World) (hx : Below w0.heap.size w0 wx) => linksOut_any h N wx hv ((r.below (hb.trans (hx.mono hb.size))).more (Nat.le_trans hb.size hx.size)))
  have HIN := Lib.hid (fun (wx : World) (hx : Below w0.heap.size w0 wx) => linksIn_any h N wx hv ((r.below (hb.trans (hx.mono hb.size))).more (Nat.le_trans hb.size hx.size)))
  have HNP := Lib.hid (fun (wx : World) => noParts_any wx)
  have BD : Hid (Below w0.heap.size w0 w0.drew) := Lib.hid ((Below.refl w0.heap.size w0).drew)
  have K0 := Lib.hid (HKF.out _ (Below.refl _ w0))
  have HB0 := Lib.hid hb
  have HRL := Lib.hid r.2.1
  have HWO := Lib.hid (lxL_len outL N); have HWI := Lib.hid (lxL_len inL N)
  obtain ⟨y0, y1, y2⟩ := three_cells hh
  have tok1 : True := trivial
  clear hb hh hsz r hv
  go_enter Tryz.func163, Tryz.ntmps163
  go_upto_region 1 with (fail)
  rw [← hw0]
  clear hw0
  go_region_held3 (fun wx => wx.cell? ⟨w.heap.size, 0, none⟩ = some (.slice h.A N.w.length h.c) ∧ wx.cell? ⟨w.heap.size, 1, none⟩ = some (.slice h.L N.l.length h.d) ∧ wx.cell? ⟨w.heap.size, 2, none⟩ = some (.slice h.C N.c.length h.e))
    (first | exact K0.out | exact HKF.out _ BD.out | exact HKF.out _ B1.out | exact HKF.out _ B2.out | exact HKF.out _ B3.out | exact HKF.out _ (B3.out.alloc B3.out.size _))
    (first
      | (have _t := tok1; go_at_call 120; refine (HO.out w0.drew BD.out).mono ?_; rintro e u1 ⟨AF, cF, rfl, ownF, belF⟩; have B1 := Lib.hid (BD.out.trans (belF.mono BD.out.size)); have O1 := Lib.hid (RdI.of_own ownF); have tok2 : True := trivial; rw [HWO.out]; clear ownF belF tok1)
      | (have _t := tok2; go_at_call 120; refine (HIN.out u1 B1.out).mono ?_; rintro e u2 ⟨AG, cG, rfl, ownG, belG⟩; have B2 := Lib.hid (B1.out.trans (belG.mono B1.out.size)); have O2 := Lib.hid (RdI.of_own ownG); have O1b := Lib.hid ((O1.out.below belG).more belG.size); have tok3 : True := trivial; rw [HWI.out]; clear ownG belG tok2)
      | (have _t := tok3; go_at_call 173; refine (HNP.out u2).mono ?_; rintro e u3 ⟨rfl, belN⟩; have B3 := Lib.hid (B2.out.trans (belN.mono B2.out.size)); have O2b := Lib.hid ((O2.out.below belN).more belN.size); have O1c := Lib.hid ((O1b.out.below belN).more belN.size); clear belN tok3))
  all_goals
    have HG : Hid (PzS (u3.alloc (.cells #[.slice h.L N.l.length h.d, .slice AF N.w.length cF, .slice AG N.w.length cG, Value.int .i64 (-1), Value.int .i64 (-1), Value.int .i64 (-1), Value.int .i64 (-1), Value.int .i64 (-1), Value.int .i64 (-1), Value.int .i64 (-1), Value.int .i64 (-1), Value.int .i64 (-1), Value.int .i64 (-1), Value.int .i64 (-1), Value.int .i64 (-1), Value.int .i64 (-1), Value.int .i64 (-1), Value.int .i64 (-1), Value.int .i64 (-1), Value.int .i64 (-1), Value.int .i64 (-1), Value.int .i64 (-1), Value.int .i64 (-1), Value.int .i64 (-1), Value.int .i64 (-1), Value.int .i64 (-1), Value.int .i64 (-1), Value.int .i64 (-1), Value.int .i64 (-1), Value.int .i64 (-1), Value.int .i64 (-1), Value.int .i64 (-1), Value.int .i64 (-1), Value.int .i64 (-1), Value.int .i64 (-1), Value.int .i64 (-1), Value.int .i64 (-1), Value.int .i64 (-1), Value.int .i64 (-1), Value.int .i64 (-1), Value.int .i64 (-1), Value.int .i64 (-1), Value.int .i64 (-1), Value.int .i64 (-1), Value.int .i64 (-1), Value.int .i64 (-1), Value.int .i64 (-1), Value.int .i64 (-1), Value.int .i64 (-1), Value.int .i64 (-1), Value.int .i64 (-1), .int .i64 0, .slice none 0 0] 153)) u3.heap.size h N [] ⟨npL, AF, cF, AG, cG, none, 0⟩) := Lib.hid (by
      have hba : Below u3.heap.size u3 (u3.alloc (.cells #[.slice h.L N.l.length h.d, .slice AF N.w.length cF, .slice AG N.w.length cG, Value.int .i64 (-1), Value.int .i64 (-1), Value.int .i64 (-1), Value.int .i64 (-1), Value.int .i64 (-1), Value.int .i64 (-1), Value.int .i64 (-1), Value.int .i64 (-1), Value.int .i64 (-1), Value.int .i64 (-1), Value.int .i64 (-1), Value.int .i64 (-1), Value.int .i64 (-1), Value.int .i64 (-1), Value.int .i64 (-1), Value.int .i64 (-1), Value.int .i64 (-1), Value.int .i64 (-1), Value.int .i64 (-1), Value.int .i64 (-1), Value.int .i64 (-1), Value.int .i64 (-1), Value.int .i64 (-1), Value.int .i64 (-1), Value.int .i64 (-1), Value.int .i64 (-1), Value.int .i64 (-1), Value.int .i64 (-1), Value.int .i64 (-1), Value.int .i64 (-1), Value.int .i64 (-1), Value.int .i64 (-1), Value.int .i64 (-1), Value.int .i64 (-1), Value.int .i64 (-1), Value.int .i64 (-1), Value.int .i64 (-1), Value.int .i64 (-1), Value.int .i64 (-1), Value.int .i64 (-1), Value.int .i64 (-1), Value.int .i64 (-1), Value.int .i64 (-1), Value.int .i64 (-1), Value.int .i64 (-1), Value.int .i64 (-1), Value.int .i64 (-1), Value.int .i64 (-1), .int .i64 0, .slice none 0 0] 153)) := (Below.refl _ _).alloc (Nat.le_refl _) _
      have o1 := O1c.out; have o2 := O2b.out
      rw [HWO.out] at o1
      rw [HWI.out] at o2
      refine ⟨?_, Uf.start, rfl, o1.below hba, o2.below hba, ?_, World.ownsRow_nil _ _ _ _⟩
      · unfold PzB
        rw [show cntQ (qN N []) = 0 from cntQ_start, pz_lit]
        exact heap_alloc_new _ _
      · exact ((HRL.out.below (HB0.out.trans (B3.out.mono HB0.out.size))).more (Nat.le_trans HB0.out.size B3.out.size)).below hba)
    have HGB : Hid (Below w.heap.size w (u3.alloc (.cells #[.slice h.L N.l.length h.d, .slice AF N.w.length cF, .slice AG N.w.length cG, Value.int .i64 (-1), Value.int .i64 (-1), Value.int .i64 (-1), Value.int .i64 (-1), Value.int .i64 (-1), Value.int .i64 (-1), Value.int .i64 (-1), Value.int .i64 (-1), Value.int .i64 (-1), Value.int .i64 (-1), Value.int .i64 (-1), Value.int .i64 (-1), Value.int .i64 (-1), Value.int .i64 (-1), Value.int .i64 (-1), Value.int .i64 (-1), Value.int .i64 (-1), Value.int .i64 (-1), Value.int .i64 (-1), Value.int .i64 (-1), Value.int .i64 (-1), Value.int .i64 (-1), Value.int .i64 (-1), Value.int .i64 (-1), Value.int .i64 (-1), Value.int .i64 (-1), Value.int .i64 (-1), Value.int .i64 (-1), Value.int .i64 (-1), Value.int .i64 (-1), Value.int .i64 (-1), Value.int .i64 (-1), Value.int .i64 (-1), Value.int .i64 (-1), Value.int .i64 (-1), Value.int .i64 (-1), Value.int .i64 (-1), Value.int .i64 (-1), Value.int .i64 (-1), Value.int .i64 (-1), Value.int .i64 (-1), Value.int .i64 (-1), Value.int .i64 (-1), Value.int .i64 (-1), Value.int .i64 (-1), Value.int .i64 (-1), Value.int .i64 (-1), Value.int .i64 (-1), .int .i64 0, .slice none 0 0] 153))) := Lib.hid ((HB0.out.trans (B3.out.mono HB0.out.size)).alloc (Nat.le_trans HB0.out.size B3.out.size) _)
    have hge : w.heap.size ≤ u3.heap.size := Nat.le_trans HB0.out.size B3.out.size
    have HGE := Lib.hid hge
    clear y0 y1 y2 hge
    go_wp2
    go_ret
    exact ⟨_, _, rfl, HGE.out, HG.out, HGB.out⟩
end
section
set_option linter.unusedSimpArgs false
set_option linter.unusedVariables false
open Go.ChangeAt Go.ChangeShapes Go.RowKit Go.WideShapes

/-- The ready links among the first k. -/
def alU (N : Nt) (fs : List Int) (k : Nat) : List Int := ((List.range k).map fun k : Nat => (k : Int)).filter fun k => okF N fs k
theorem alU_all (N : Nt) (fs : List Int) : alU N fs N.l.length = allQ N fs := rfl
theorem alU_len (N : Nt) (fs : List Int) (k : Nat) : (alU N fs k).length ≤ k := by
  unfold alU
  exact Nat.le_trans (List.length_filter_le _ _) (by simp)
theorem alU_yes {N : Nt} {fs : List Int} {k : Nat} (h : okF N fs (k : Int) = true) : alU N fs (k + 1) = alU N fs k ++ [(k : Int)] := by
  unfold alU
  rw [List.range_succ, List.map_append, List.filter_append]
  simp [h]
theorem alU_no {N : Nt} {fs : List Int} {k : Nat} (h : okF N fs (k : Int) = false) : alU N fs (k + 1) = alU N fs k := by
  unfold alU
  rw [List.range_succ, List.map_append, List.filter_append]
  simp [h]
set_option maxRecDepth 100000 in
set_option maxHeartbeats 1000000 in
theorem readyLinks_any (h : NH) (N : Nt) (g : Nat) (fs : List Int) (r : PzH) (w : World) (hv : valN N = true) (s : PzS w g h N fs r) :
    Calls Tryz.prog 164 #[.pointer (some ⟨g, 0, none⟩)] w (Gives w (allQ N fs)) := by
  have h48l := (valN_size hv).2
  obtain ⟨i0, hi0, hz0, hz1, hz2⟩ := info_parts info_i64
  have HI := Lib.hid hi0; have HZ0 := Lib.hid hz0; have HZ1 := Lib.hid hz1; have HZ2 := Lib.hid hz2
  have HR := Lib.hid (fun (k : Nat) (hk : k < N.l.length) (wx : World) (hx : Below w.heap.size w wx) => isReady_any h N g fs r k wx hv (s.below hx) hk)
  have m0 := s.box.three.1
  clear hi0 hz0 hz1 hz2 s hv
  go_enter Tryz.func164, Tryz.ntmps164
  go_wp2
  clear m0
  go_loopw [3, 11] (fun v i wr => ∃ k : Nat, k ≤ N.l.length ∧ i = .int .i64 k ∧ wr.ownsRow w.heap.size 2 1 v (alU N fs k).length ((alU N fs k).map (Value.int .i64)) ∧ Below w.heap.size w wr) (fun _ i _ => N.l.length - (intOf i).toNat)
  case atStart => exact ⟨0, Nat.zero_le _, rfl, World.ownsRow_nil _ _ _ _, Below.refl _ _⟩
  case round =>
    obtain ⟨k, hk, rfl, hO, hB⟩ := hrel
    by_cases hlt : k < N.l.length
    · have HRK := Lib.hid (HR.out k hlt _ hB)
      have hln := alU_len N fs k
      have HYE := Lib.hid (fun e => alU_yes (N := N) (fs := fs) (k := k) e)
      have HNO := Lib.hid (fun e => alU_no (N := N) (fs := fs) (k := k) e)
      have HO := Lib.hid hO; have HB := Lib.hid hB
      clear hO hB
      generalize okF N fs (k : Int) = b at *
      cases b with
      | false =>
        have HS := Lib.hid (HNO.out rfl)
        go_wp2_with (fail)
        refine HRK.out.mono ?_
        rintro e w1 ⟨rfl, bel1⟩
        have HB1 := Lib.hid (HB.out.trans (bel1.mono HB.out.size))
        have ho1 := own_below HO.out bel1 (Nat.le_refl _)
        rw [← HS.out] at ho1
        have HO1 := Lib.hid ho1
        clear ho1
        clear bel1 HO HB HYE HNO HRK
        go_wp2
        go_roundw
        case rel => exact ⟨k + 1, by omega, by go_num, HO1.out, HB1.out⟩
        case measure => simp [intOf]; omega
      | true =>
        have HS := Lib.hid (HYE.out rfl)
        have HLN : Hid ((alU N fs (k + 1)).length = (alU N fs k).length + 1) := Lib.hid (by rw [HS.out]; simp)
        go_wp2_with (fail)
        refine HRK.out.mono ?_
        rintro e w1 ⟨rfl, bel1⟩
        have HB1 := Lib.hid (HB.out.trans (bel1.mono HB.out.size))
        have HO1 := Lib.hid (own_below HO.out bel1 (Nat.le_refl _))
        have hsz1 := HB1.out.size
        clear bel1 HO HB HYE HNO HRK
        go_wp2_with (at_builtin; refine wpList_append_own _ rfl _ _ 24 rfl w.heap.size 2 i0 (.int .i64 0) 1 8 Tryz.underlying24 HI.out HZ0.out HZ1.out HZ2.out rfl (by decide) _ _ _ rfl (HO1.out.alloc _) ⟨w1.heap.size, 0, none⟩ 1 1 [.int .i64 k] rfl rfl ?c1 ?c2 ?c3 ?c4 ?c5 ?_)
        case c1 => exact cell_one_new _ _ _
        case c2 => intro u hu; simp at hu; subst hu; rfl
        case c3 => unfold maxLen; omega
        case c4 => omega
        case c5 => simp; omega
        intro v' w2 hown' hgrow _
        have hb2 := Lib.hid ((HB1.out.alloc hsz1 (.cells #[.int .i64 k] 2)).grown hgrow (by simp; omega) (fun q hq => (HO1.out.lt q hq).1))
        have hown2 : w2.ownsRow w.heap.size 2 1 v' (alU N fs (k + 1)).length ((alU N fs (k + 1)).map (Value.int .i64)) := by
          rw [HLN.out, HS.out, List.map_append]; exact hown'
        have hown1 := Lib.hid hown2
        clear hown' hgrow hown2 hsz1
        go_wp2
        go_roundw
        case rel => exact ⟨k + 1, by omega, by go_num, hown1.out, hb2.out⟩
        case measure => simp [intOf]; omega
    · have hkn : k = N.l.length := by omega
      subst hkn
      rw [alU_all] at hO
      obtain ⟨A5, c5, rfl⟩ := own_shapeP hO
      have HG : Hid (Gives w (allQ N fs) (.returned (.slice A5 (allQ N fs).length c5)) wr) := Lib.hid ⟨A5, c5, rfl, hO, hB⟩
      clear hO hB HI HZ0 HZ1 HZ2
      generalize (allQ N fs).length = q at *
      go_wp2
      go_ret
      exact HG.out
end
end Go.Proofs.YtfdpkhiiboghiaaGreatDoor
