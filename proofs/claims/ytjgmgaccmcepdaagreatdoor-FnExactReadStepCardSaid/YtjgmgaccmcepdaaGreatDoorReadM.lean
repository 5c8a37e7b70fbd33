/- ReadStep of the model. -/
import Derived.Test.YtjgmgaccmcepdaaGreatDoorReadJ
import Derived.Test.YtjgmgaccmcepdaaGreatDoorStepS
namespace Go.Proofs.YtjgmgaccmcepdaaGreatDoor
open Go.ChangeAt Go.ChangeShapes Go.RowKit Go.WideShapes

theorem splG_ne (s : ByteArray) : ∀ d fr, splG s d fr ≠ []
  | 0, fr => by simp [splG]
  | d + 1, fr => by
    unfold splG
    split
    · simp
    · exact splG_ne s d fr
theorem splG_size (s : ByteArray) : ∀ d fr, ∀ x ∈ splG s d fr, x.size ≤ s.size
  | 0, fr => fun x hx => by
    rw [List.mem_singleton.1 hx, ByteArray.size_extract]; omega
  | d + 1, fr => fun x hx => by
    unfold splG at hx
    split at hx
    · rcases List.mem_cons.1 hx with rfl | hx
      · rw [ByteArray.size_extract]; omega
      · exact splG_size s d _ x hx
    · exact splG_size s d _ x hx
theorem wd_size (t : ByteArray) (m : Nat) : (wd (spl t) m).size ≤ t.size := by
  unfold wd
  by_cases h : m < (spl t).length
  · exact splG_size t _ _ _ (by simp [List.getD, h]; exact List.getElem_mem h)
  · rw [List.getD, List.getElem?_eq_none (by omega)]; exact Nat.zero_le _
theorem rnm_is {x : ByteArray} (h : rnm x ≠ 0) : ((nmB (rnm x)).toList == x.toList) = true := by
  unfold rnm at h ⊢
  cases e : (List.range 15).find? fun k => (nmB k).toList == x.toList with
  | none => rw [e] at h; exact absurd rfl h
  | some k =>
    show ((nmB k).toList == x.toList) = true
    exact List.find?_some (p := fun k => (nmB k).toList == x.toList) e
theorem list_same {a b : ByteArray} (h : (a.toList == b.toList) = true) : a = b := by
  have := eq_of_beq h
  apply ba_ext
  rwa [ByteArray.toList_eq, ByteArray.toList_eq] at this
theorem rnm_size {x : ByteArray} (h : rnm x ≠ 0) : x.size ≠ 0 := by
  have e := list_same (rnm_is h)
  have h2 := nm_size (k := rnm x) (by omega) (rnm_lt x)
  rw [e] at h2
  exact h2
theorem far_cellR {w : World} {a p : Addr} {u : Value} (h : p.block ≠ a.block) : (w.setCell a u).cell? p = w.cell? p := World.cell?_of_block (Below.heap_setCell _ _ _ _ h)
def rr (x : ByteArray) (m : Nat) : Int := if rnm x ≤ m then (rnm x : Int) else 0
theorem rr_zero (x : ByteArray) : rr x 0 = 0 := by unfold rr; split <;> omega
theorem rr_yes {x : ByteArray} {m : Nat} (hm : m < 14) (h : ((nmB (m + 1)).toList == x.toList) = true) : rr x (m + 1) = (m : Int) + 1 := by
  have e := list_same h
  have : rnm x = m + 1 := by rw [← e, rnm_nm (by omega)]
  unfold rr
  rw [this, if_pos (Nat.le_refl _)]
  omega
theorem rr_no {x : ByteArray} {m : Nat} (h : ((nmB (m + 1)).toList == x.toList) = false) : rr x (m + 1) = rr x m := by
  have : rnm x ≠ m + 1 := fun e => by
    have := rnm_is (x := x) (by omega)
    rw [e, h] at this
    exact absurd this (by decide)
  unfold rr
  by_cases hx : rnm x ≤ m
  · rw [if_pos (by omega), if_pos hx]
  · rw [if_neg (by omega), if_neg hx]
theorem rr_all (x : ByteArray) : rr x 14 = (rnm x : Int) := by unfold rr; rw [if_pos (by have := rnm_lt x; omega)]
theorem pk_cases : ∀ r : Int, 1 ≤ r → r ≤ 14 → (ruP r = 0 ∧ ruK r = 0) ∨ (ruP r = 1 ∧ ruK r = 0) ∨ (ruP r = 1 ∧ ruK r = 1) ∨ (ruP r = 1 ∧ ruK r = 2) ∨ (ruP r = 2 ∧ ruK r = 2) :=
  ru_cases (by decide) (by decide) (by decide) (by decide) (by decide) (by decide) (by decide) (by decide) (by decide) (by decide) (by decide) (by decide) (by decide) (by decide)
theorem gives_cast {w w' : World} {s s' : Stp} {b b' : Bool} {e : Ending} (h : GivesStep w s b e w') (h1 : s = s') (h2 : b = b') : GivesStep w s' b' e w' := by subst h1; subst h2; exact h
theorem zero_of {t : ByteArray} (h : ¬ rsB t = true) : Stp.nil = rsS t ∧ false = rsB t := by
  have h' : rsB t = false := by simpa using h
  exact ⟨(rsS_no h').symm, h'.symm⟩
theorem step_of {t : ByteArray} {s : Stp} (h : ((stT s.r s.a s.b s.i s.j s.f).toList == t.toList) = true) (hr : 1 ≤ s.r) (ht : t.size ≠ 0) : s = rsS t ∧ true = rsB t := by
  obtain ⟨h1, h2⟩ := rsB_of (list_same h) hr ht
  exact ⟨by rw [rsS_yes h1, h2], h1.symm⟩
/-- The first m numbers, as cells. -/
def wdV (T : List ByteArray) (m : Nat) : List Value := (List.range m).map fun j => Value.int .i64 (wdN T (j + 1))
theorem ints_made (w : World) : (w.alloc (.cells #[] 2)).ownsRow w.heap.size 2 1 (.slice (some ⟨w.heap.size, 0, none⟩) 0 0) 0 [] :=
  ⟨by simp, .inr ⟨w.heap.size, 0, #[], rfl, Nat.le_refl _, heap_alloc_new w _, Nat.le_refl _, by simp [maxLen], rfl, by simp⟩⟩
theorem wdV_step (T : List ByteArray) (m : Nat) : wdV T m ++ [.int .i64 (wdN T (m + 1))] = wdV T (m + 1) := by simp [wdV, List.range_succ]
theorem wdV_at {T : List ByteArray} {m i : Nat} (h : i < m) : (wdV T m)[i]? = some (.int .i64 (wdN T (i + 1))) := by simp [wdV, h]

set_option maxRecDepth 100000 in
set_option maxHeartbeats 16000000 in
theorem sReadStep_any (t : ByteArray) (w : World) (hs : t.size ≤ 1048576) :
    Calls Tryz.prog 37 #[.string t] w (GivesStep w (rsS t) (rsB t)) := by
  obtain ⟨i0, hi0, hz0, hz1, hz2⟩ := info_parts info_i64
  obtain ⟨w1, hw1⟩ : ∃ w1, w1 = w.alloc (.cells #[Value.int .i64 0, Value.int .i64 0, Value.int .i64 0, Value.int .i64 0, Value.int .i64 0, Value.slice none 0 0] 30) := ⟨_, rfl⟩
  have hb1 := box_any w (.cells #[Value.int .i64 0, Value.int .i64 0, Value.int .i64 0, Value.int .i64 0, Value.int .i64 0, Value.slice none 0 0] 30)
  have p1 : (w.alloc (.cells #[Value.int .i64 0, Value.int .i64 0, Value.int .i64 0, Value.int .i64 0, Value.int .i64 0, Value.slice none 0 0] 30)).heap[w.heap.size]? = some (.cells #[Value.int .i64 0, Value.int .i64 0, Value.int .i64 0, Value.int .i64 0, Value.int .i64 0, Value.slice none 0 0] 30 (0, 0)) := heap_alloc_new _ _
  have hs1 : (w.alloc (.cells #[Value.int .i64 0, Value.int .i64 0, Value.int .i64 0, Value.int .i64 0, Value.int .i64 0, Value.slice none 0 0] 30)).heap.size = w.heap.size + 1 := by simp
  rw [← hw1] at hb1 p1 hs1
  have HB1 := Lib.hid hb1; have P1 := Lib.hid p1
  have HS := Lib.hid (splitAt_any t w1 hs)
  have HWS : Hid (∀ m, (wd (spl t) m).size ≤ 1048576) := Lib.hid fun m => Nat.le_trans (wd_size t m) hs
  have HT0 : Hid (rnm (wd (spl t) 0) ≠ 0 → t.size ≠ 0) := Lib.hid fun h => by have := rnm_size h; have := wd_size t 0; omega
  have HM := Lib.hid (@rsB_model t)
  have HEQ : Hid (rsB t = true → ((stT (lkS t).r (lkS t).a (lkS t).b (lkS t).i (lkS t).j (lkS t).f).toList == t.toList) = true) := Lib.hid fun h => by rw [← (rsB_parts h).2]; simp
  have hT0 : 0 < (spl t).length := List.length_pos_iff.2 (splG_ne t _ _)
  obtain ⟨x, hx⟩ : ∃ x, x = wd (spl t) 0 := ⟨_, rfl⟩
  have HX := Lib.hid hx
  have HI := Lib.hid hi0; have HZ0 := Lib.hid hz0; have HZ1 := Lib.hid hz1; have HZ2 := Lib.hid hz2
  clear hb1 p1 hx hi0 hz0 hz1 hz2
  go_enter Tryz.func37, Tryz.ntmps37
  go_wp2_with (fail)
  rw [← hw1]
  clear hw1
  refine HS.out.mono ?_
  rintro e w2 ⟨A, c, rfl, own2, bel2⟩
  obtain ⟨gT, capT, hgT, hloT, hltT⟩ := own2.form hT0
  have hA : A = some ⟨gT, 0, none⟩ ∧ c = capT := by injection hgT with x y z; exact ⟨x, z⟩
  obtain ⟨rfl, rfl⟩ := hA
  have hs2 := bel2.size
  have HTC : Hid (∀ m, m < (spl t).length → w2.cell? ⟨gT, m, none⟩ = some (.string (wd (spl t) m))) := Lib.hid fun m hm => by
    rw [own2.cellAt m (by omega), List.getElem?_map]
    simp [wd, List.getD, hm]
  have hlen := own_cap1 own2
  have P2 := Lib.hid ((bel2.block w.heap.size (by omega)).trans P1.out)
  have HB2 := Lib.hid (HB1.out.trans (bel2.mono HB1.out.size))
  clear own2 bel2 hgT HS
  generalize spl t = T at *
  obtain ⟨w3, hw3⟩ : ∃ w3, w3 = w2.alloc (.cells #[Value.int .i64 0, Value.int .i64 (-1), Value.int .i64 (-1), Value.int .i64 0, Value.int .i64 0, Value.slice none 0 0] 30) := ⟨_, rfl⟩
  have hb3 := box_any w2 (.cells #[Value.int .i64 0, Value.int .i64 (-1), Value.int .i64 (-1), Value.int .i64 0, Value.int .i64 0, Value.slice none 0 0] 30)
  have p3 : (w2.alloc (.cells #[Value.int .i64 0, Value.int .i64 (-1), Value.int .i64 (-1), Value.int .i64 0, Value.int .i64 0, Value.slice none 0 0] 30)).heap[w2.heap.size]? = some (.cells #[Value.int .i64 0, Value.int .i64 (-1), Value.int .i64 (-1), Value.int .i64 0, Value.int .i64 0, Value.slice none 0 0] 30 (0, 0)) := heap_alloc_new _ _
  have hs3 : (w2.alloc (.cells #[Value.int .i64 0, Value.int .i64 (-1), Value.int .i64 (-1), Value.int .i64 0, Value.int .i64 0, Value.slice none 0 0] 30)).heap.size = w2.heap.size + 1 := by simp
  rw [← hw3] at hb3 p3 hs3
  have HB3 := Lib.hid (HB2.out.trans (hb3.mono HB2.out.size))
  have P3 := Lib.hid ((hb3.block w.heap.size (by omega)).trans P2.out)
  have HTC3 : Hid (∀ m, m < T.length → w3.cell? ⟨gT, m, none⟩ = some (.string (wd T m))) := Lib.hid fun m hm => (hb3.cell (p := ⟨gT, m, none⟩) hltT).trans (HTC.out m hm)
  have S3 := Lib.hid p3
  have hl2 : w.heap.size < w2.heap.size := by omega
  have hl3 : w2.heap.size < w3.heap.size := by omega
  clear hb3 p3 HTC P2 HB2 P1 HB1 hs1 hs3
  go_wp2_with (fail)
  rw [← hw3]
  clear hw3
  generalize w2.heap.size = b5 at *
  go_loopw [6] (fun s wr => ∃ m : Nat, m ≤ 14 ∧ s = .int .i64 m ∧ wr.heap[b5]? = some (.cells #[Value.int .i64 (rr x m), Value.int .i64 (-1), Value.int .i64 (-1), Value.int .i64 0, Value.int .i64 0, Value.slice none 0 0] 30 (0, 0)) ∧ Below b5 w3 wr) (fun s _ => 14 - (intOf s).toNat)
  case atStart => exact ⟨0, by omega, rfl, by rw [rr_zero]; exact S3.out, Below.refl _ _⟩
  case round =>
    obtain ⟨m, hm, rfl, hk5, hb⟩ := hrel
    have HB := Lib.hid hb
    have hsr := hb.size
    have t0 := (hb.cell (p := ⟨gT, 0, none⟩) hltT).trans (HTC3.out 0 hT0)
    rw [← HX.out] at t0
    clear hb
    rcases Nat.lt_or_ge m 14 with hlt | hge
    · have hlt' : decide ((m : Int) < 14) = true := decide_eq_true (by omega)
      have hi1 : (m : Int) < 14 := by omega
      have hwr : IntKind.i64.wrap ((m : Int) + 1) = (m : Int) + 1 := IntWalk.i64_in _ (by omega)
      have hTl : (0 : Int) < (T.length : Int) := by omega
      have z0 := cell_of_row _ _ 0 _ _ (0, 0) hk5
      have z1 := frozen_of_row _ _ 0 _ _ hk5
      have K5 := Lib.hid hk5
      clear hk5
      cases heq : ((nmB (m + 1)).toList == x.toList) with
      | true =>
        have HR := Lib.hid (rr_yes hlt heq)
        go_wp2_with (fail)
        go_region_with (go_at_call 120; go_loud (refine (ruleNames_any wr.drew).mono ?_; rintro e w4 ⟨rfl, hw4⟩; have u0 : w4.cell? ⟨gT, 0, none⟩ = some (.string x) := (by subst hw4; exact ((box_any wr.drew _).cell (p := ⟨gT, 0, none⟩) (by show gT < wr.heap.size; omega)).trans t0); have u1 : w4.cell? ⟨wr.heap.size, m, none⟩ = some (.string (nmB (m + 1))) := (by subst hw4; exact names_cell wr.drew m hlt); have HB4 := Lib.hid (undrew (w := wr) (w' := w4) (by subst hw4; exact box_any wr.drew _)); clear hw4))
        all_goals
          have k4 := (HB4.out.block b5 (by omega)).trans K5.out
          have z0' := cell_of_row _ _ 0 _ _ (0, 0) k4
          have z1' := frozen_of_row _ _ 0 _ _ k4
          have K6 := Lib.hid (heap_setCell_same w4 b5 0 _ _ (.int .i64 ((m : Int) + 1)) k4)
          have HB6 := Lib.hid ((HB.out.trans (HB4.out.mono (by omega))).setCell (p := ⟨b5, 0, none⟩) (Nat.le_refl _) (.int .i64 ((m : Int) + 1)))
          clear k4 u0 u1 HB4 z0 z1
          go_wp2
          go_roundw
          case rel => exact ⟨m + 1, by omega, by go_num, by rw [HR.out]; simpa using K6.out, HB6.out⟩
          case measure => simp [intOf]; omega
      | false =>
        have HR := Lib.hid (rr_no heq)
        go_wp2_with (fail)
        go_region_with (go_at_call 120; go_loud (refine (ruleNames_any wr.drew).mono ?_; rintro e w4 ⟨rfl, hw4⟩; have u0 : w4.cell? ⟨gT, 0, none⟩ = some (.string x) := (by subst hw4; exact ((box_any wr.drew _).cell (p := ⟨gT, 0, none⟩) (by show gT < wr.heap.size; omega)).trans t0); have u1 : w4.cell? ⟨wr.heap.size, m, none⟩ = some (.string (nmB (m + 1))) := (by subst hw4; exact names_cell wr.drew m hlt); have HB4 := Lib.hid (undrew (w := wr) (w' := w4) (by subst hw4; exact box_any wr.drew _)); clear hw4))
        all_goals
          have k4 := Lib.hid ((HB4.out.block b5 (by omega)).trans K5.out)
          have HB6 := Lib.hid (HB.out.trans (HB4.out.mono (by omega)))
          clear u0 u1 HB4 z0 z1
          go_wp2
          go_roundw
          case rel => exact ⟨m + 1, by omega, by go_num, by rw [HR.out]; exact k4.out, HB6.out⟩
          case measure => simp [intOf]; omega
    · have hm14 : m = 14 := by omega
      subst hm14
      obtain ⟨wl, rfl⟩ : ∃ wl, wl = wr := ⟨_, rfl⟩
      rw [rr_all] at hk5
      have hlt' : decide (((14 : Nat) : Int) < 14) = false := decide_eq_false (by omega)
      have hkl := rnm_lt x
      have HT1 : Hid (rnm x ≠ 0 → t.size ≠ 0) := Lib.hid (by rw [HX.out]; exact HT0.out)
      have HM1 : Hid (rsB t = true → 1 ≤ rnm x ∧ (T.length : Int) = wdW (ruP (rnm x)) (ruK (rnm x)) (ruF (rnm x)) ∧ (∀ m : Nat, 1 ≤ m → (m : Int) ≤ ruP (rnm x) + ruK (rnm x) → wdB T m = true) ∧ (ruF (rnm x) = true → rdB (wd T ((ruP (rnm x)).toNat + (ruK (rnm x)).toNat + 1)) = true) ∧ mdS T (ruP (rnm x)) (ruK (rnm x)) (ruF (rnm x)) (rnm x) = lkS t) := Lib.hid fun h => by
        obtain ⟨k, h1, _, h3, h4, h5, h6, h7⟩ := HM.out h
        rw [← HX.out] at h3
        rw [h3]
        exact ⟨h1, h4, h5, h6, h7⟩
      have PR := Lib.hid ((HB.out.block w.heap.size (by omega)).trans P3.out)
      have HBR := Lib.hid (HB3.out.trans (HB.out.mono (by omega)))
      have HTR : Hid (∀ m, m < T.length → wl.cell? ⟨gT, m, none⟩ = some (.string (wd T m))) := Lib.hid fun m hm => (HB.out.cell (p := ⟨gT, m, none⟩) hltT).trans (HTC3.out m hm)
      clear HM HX HT0 HB3 HTC3 P3 S3 HB t0
      generalize rnm x = k at *
      have y0 := cell_of_row _ _ 0 _ _ (0, 0) hk5
      have S5 := Lib.hid hk5
      clear hk5
      by_cases h0 : k = 0
      · subst h0
        have hd : (((0 : Nat) : Int) == 0) = true := rfl
        have NO := Lib.hid (zero_of (fun h => by have := (HM1.out h).1; omega))
        have qz := PR.out
        have e0 := cell_of_row _ _ 0 _ _ (0, 0) qz; have e1 := cell_of_row _ _ 1 _ _ (0, 0) qz; have e2 := cell_of_row _ _ 2 _ _ (0, 0) qz; have e3 := cell_of_row _ _ 3 _ _ (0, 0) qz; have e4 := cell_of_row _ _ 4 _ _ (0, 0) qz; have e5 := cell_of_row _ _ 5 _ _ (0, 0) qz
        have g0 := frozen_of_row _ _ 0 _ _ qz; have g1 := frozen_of_row _ _ 1 _ _ qz; have g2 := frozen_of_row _ _ 2 _ _ qz; have g3 := frozen_of_row _ _ 3 _ _ qz; have g4 := frozen_of_row _ _ 4 _ _ qz; have g5 := frozen_of_row _ _ 5 _ _ qz
        have H6 := Lib.hid (set6_at qz (.int .i64 0) (.int .i64 0) (.int .i64 0) (.int .i64 0) (.int .i64 0) (.slice none 0 0))
        have HB6 := Lib.hid (set6_below HBR.out (Nat.le_refl _) (.int .i64 0) (.int .i64 0) (.int .i64 0) (.int .i64 0) (.int .i64 0) (.slice none 0 0))
        clear qz
        go_wp2
        (try simp only [Exit.inBlock, Exit.then])
        refine bodyPost_ret (results_cell_tmpR rfl _ _ w.heap.size _ _ (0, 0) _ rfl H6.out Tryz.underlying30 rfl (by kernel_rfl)) rfl ?_
        exact gives_cast (s := Stp.nil) (b := false) ⟨none, 0, rfl, World.ownsRow_nil _ _ _ _, HB6.out⟩ NO.out.1 NO.out.2
      · have hd : ((k : Int) == 0) = false := by simp; omega
        have hr1 : 1 ≤ (k : Int) := by omega
        have hr2 : (k : Int) ≤ 14 := by omega
        have HP := Lib.hid (fun w => premises_any w k hr1 hr2)
        have HK := Lib.hid (fun w => positions_any w k hr1 hr2)
        have HU := Lib.hid (fun w => usesForm_any w k hr1 hr2)
        have hpk := pk_cases k hr1 hr2
        have htn := HT1.out h0
        clear HT1
        generalize ruP (k : Int) = p at *; generalize ruK (k : Int) = kk at *
        have hp0 : 0 ≤ p := by omega
        have hp2 : p ≤ 2 := by omega
        have hk0 : 0 ≤ kk := by omega
        have hk2 : kk ≤ 2 := by omega
        obtain ⟨Y1, hY1⟩ : ∃ Y, Y = 1 + p := ⟨_, rfl⟩
        obtain ⟨Y2, hY2⟩ : ∃ Y, Y = Y1 + kk := ⟨_, rfl⟩
        obtain ⟨Y3, hY3⟩ : ∃ Y, Y = Y2 + 1 := ⟨_, rfl⟩
        obtain ⟨Y4, hY4⟩ : ∃ Y, Y = p + kk := ⟨_, rfl⟩
        have a1 : IntKind.i64.wrap (1 + p) = Y1 := by rw [hY1]; exact IntWalk.i64_in _ (by omega)
        have a2 : IntKind.i64.wrap (Y1 + kk) = Y2 := by rw [hY2]; exact IntWalk.i64_in _ (by omega)
        have a3 : IntKind.i64.wrap (Y2 + 1) = Y3 := by rw [hY3]; exact IntWalk.i64_in _ (by omega)
        have a4 : IntKind.i64.wrap (p + kk) = Y4 := by rw [hY4]; exact IntWalk.i64_in _ (by omega)
        have B1 := Lib.hid hY1; have B2 := Lib.hid hY2; have B3 := Lib.hid hY3; have B4 := Lib.hid hY4
        have HPK := Lib.hid hpk
        clear hY1 hY2 hY3 hY4 hpk hlt' hkl
        go_wp2_with (fail)
        refine (HP.out wl).mono ?_
        rintro e w' ⟨rfl, rfl⟩
        go_wp2_with (fail)
        refine (HK.out wl).mono ?_
        rintro e w' ⟨rfl, rfl⟩
        go_wp2_with (fail)
        refine (HU.out wl).mono ?_
        rintro e w' ⟨rfl, rfl⟩
        cases hz : ruF (k : Int) with
        | true =>
          rw [hz] at HU HM1
          by_cases hlw : (T.length : Int) = Y3
          · have hne : ((T.length : Int) != Y3) = false := by simp [hlw]
            have hM0 : ((Y4.toNat : Nat) : Int) = Y4 := by have := B4.out; omega
            have HLW := Lib.hid hlw
            have own9 := ints_made wl
            have bel9 := (Below.refl wl.heap.size wl).alloc (Nat.le_refl _) (.cells #[] 2)
            have HO9 := Lib.hid own9; have HB9 := Lib.hid bel9
            have HLT : Hid (∀ m : Nat, (m : Int) ≤ Y4 → m < T.length) := Lib.hid fun m hm => by have := B4.out; have := B3.out; have := B2.out; have := B1.out; omega
            clear own9 bel9 hlw
            go_wp2_with (fail)
            go_loopw [10, 11] (fun o i wr => ∃ (m j : Nat) (Ar : Option Addr) (cr : Nat), j = m + 1 ∧ (m : Int) ≤ Y4 ∧ i = .int .i64 (j : Int) ∧ o = .slice Ar m cr ∧ wr.ownsRow wl.heap.size 2 1 (.slice Ar m cr) m (wdV T m) ∧ Below wl.heap.size wl wr) (fun _ i _ => Y4.toNat + 1 - (intOf i).toNat)
            case atStart => exact ⟨0, 1, _, _, rfl, by have := B4.out; omega, rfl, rfl, HO9.out, HB9.out⟩
            case round =>
              obtain ⟨m, j, Ar, cr, hj, hmY, rfl, rfl, ho, hb⟩ := hrel
              have HO := Lib.hid ho; have HB := Lib.hid hb
              have hsq := hb.size
              have HJ := Lib.hid hj
              clear ho hb hj
              by_cases hlt : (j : Int) ≤ Y4
              · have hd2 : decide ((j : Int) ≤ Y4) = true := decide_eq_true hlt
                have hjl := HLT.out j hlt
                have hjl' : (j : Int) < (T.length : Int) := by omega
                have tj := (HB.out.cell (p := ⟨gT, j, none⟩) (by show gT < wl.heap.size; omega)).trans (HTR.out j hjl)
                have HN := Lib.hid (readNumber_any (wd T j) wr (by have := HWS.out j; unfold maxLen; omega))
                cases hok : (rdN (wd T j)).2 with
                | false =>
                  rw [hok] at HN
                  go_wp2_with (fail)
                  refine HN.out.mono ?_
                  rintro e w' ⟨rfl, rfl⟩
                  have NO := Lib.hid (zero_of (fun h => by have h1 := (HM1.out h).2.2.1 j (by have := HJ.out; omega) (by have := B4.out; omega); unfold wdB at h1; rw [hok] at h1; exact absurd h1 (by decide)))
                  have qz := (HB.out.block w.heap.size (by omega)).trans PR.out
                  have e0 := cell_of_row _ _ 0 _ _ (0, 0) qz; have e1 := cell_of_row _ _ 1 _ _ (0, 0) qz; have e2 := cell_of_row _ _ 2 _ _ (0, 0) qz; have e3 := cell_of_row _ _ 3 _ _ (0, 0) qz; have e4 := cell_of_row _ _ 4 _ _ (0, 0) qz; have e5 := cell_of_row _ _ 5 _ _ (0, 0) qz
                  have g0 := frozen_of_row _ _ 0 _ _ qz; have g1 := frozen_of_row _ _ 1 _ _ qz; have g2 := frozen_of_row _ _ 2 _ _ qz; have g3 := frozen_of_row _ _ 3 _ _ qz; have g4 := frozen_of_row _ _ 4 _ _ qz; have g5 := frozen_of_row _ _ 5 _ _ qz
                  have H6 := Lib.hid (set6_at qz (.int .i64 0) (.int .i64 0) (.int .i64 0) (.int .i64 0) (.int .i64 0) (.slice none 0 0))
                  have HB6 := Lib.hid (set6_below (HBR.out.trans (HB.out.mono (by omega))) (Nat.le_refl _) (.int .i64 0) (.int .i64 0) (.int .i64 0) (.int .i64 0) (.int .i64 0) (.slice none 0 0))
                  clear qz
                  go_wp2
                  (try simp only [Exit.inBlock, Exit.then])
                  refine bodyPost_ret (results_cell_tmpR rfl _ _ w.heap.size _ _ (0, 0) _ rfl H6.out Tryz.underlying30 rfl (by kernel_rfl)) rfl ?_
                  exact gives_cast (s := Stp.nil) (b := false) ⟨none, 0, rfl, World.ownsRow_nil _ _ _ _, HB6.out⟩ NO.out.1 NO.out.2
                | true =>
                  rw [hok] at HN
                  have EV : Hid (((rdN (wd T j)).1 : Int) = wdN T (m + 1)) := Lib.hid (by rw [HJ.out]; rfl)
                  rw [EV.out] at HN
                  generalize hv : wdN T (m + 1) = v at *
                  have HV := Lib.hid hv
                  clear EV hok hv
                  have hY2 : Y4 ≤ 4 := by have := B4.out; omega
                  have hj1 : IntKind.i64.wrap ((j : Int) + 1) = (j : Int) + 1 := IntWalk.i64_in _ (by omega)
                  go_wp2_with (fail)
                  refine HN.out.mono ?_
                  rintro e w' ⟨rfl, rfl⟩
                  clear HN tj
                  have hm4 : m ≤ 3 := by have := HJ.out; omega
                  go_wp2_with (at_builtin; refine wpList_append_lies _ rfl _ _ _ rfl wl.heap.size 2 i0 (.int .i64 0) 1 8 Tryz.underlying28 HI.out HZ0.out HZ1.out HZ2.out rfl (by decide) _ _ _ rfl (HO.out.alloc _) ⟨wr.heap.size, 0, none⟩ 1 1 [.int .i64 v] rfl rfl (cell_one_new _ _ _) (by simp [Value.oneCell']) (by decide) (by simp only [maxLen]; omega) (by omega) (by simp; omega) _ rfl ?_; intro g7 cap7 w7 hown7 hgrow7 hat7 hlt7)
                  have HB7 := Lib.hid ((HB.out.alloc hsq (.cells #[.int .i64 v] 2)).grown hgrow7 (by simp; omega) (fun q hq => (HO.out.lt q hq).1))
                  have HO7 := Lib.hid hown7
                  clear hgrow7 hown7 hat7
                  go_wp2
                  go_roundw
                  case rel => exact ⟨m + 1, j + 1, _, _, by have := HJ.out; omega, by have := HJ.out; omega, by go_num, rfl, by rw [← wdV_step, HV.out]; exact HO7.out, HB7.out⟩
                  case measure => simp [intOf]; omega
              · have hd2 : decide ((j : Int) ≤ Y4) = false := decide_eq_false hlt
                have hmm : (m : Int) = Y4 := by have := HJ.out; omega
                have hk5 := (HB.out.block b5 (by omega)).trans S5.out
                have PQ := Lib.hid ((HB.out.block w.heap.size (by omega)).trans PR.out)
                have HBQ := Lib.hid (HBR.out.trans (HB.out.mono (by omega)))
                have HTQ : Hid (∀ m, m < T.length → wr.cell? ⟨gT, m, none⟩ = some (.string (wd T m))) := Lib.hid fun m hm => (HB.out.cell (p := ⟨gT, m, none⟩) (by show gT < wl.heap.size; omega)).trans (HTR.out m hm)
                have hb5q : b5 < wr.heap.size := by omega
                clear HB9 HO9 PR HBR HTR y0 S5 hlt
                rcases HPK.out with ⟨rfl, rfl⟩ | ⟨rfl, rfl⟩ | ⟨rfl, rfl⟩ | ⟨rfl, rfl⟩ | ⟨rfl, rfl⟩
                · obtain rfl : m = 0 := by have := B4.out; omega
                  obtain rfl : j = 1 := by have := HJ.out; omega
                  obtain rfl : Y4 = 0 := by have := B4.out; omega
                  obtain rfl : Y2 = 1 := by have := B1.out; have := B2.out; omega
                  obtain rfl : Y3 = 2 := by have := B3.out; omega
                  have HMD : Hid (rsB t = true → (⟨k, (-1), (-1), 0, 0, (rdL (wd T 1))⟩ : Stp) = lkS t) := Lib.hid fun h => by rw [← (HM1.out h).2.2.2.2]; rfl
                  have HRB : Hid (rsB t = true → rdB (wd T 1) = true) := Lib.hid fun h => by have h1 := (HM1.out h).2.2.2.1; first | exact h1 trivial | exact h1 rfl
                  have d0 := cell_of_row _ _ 0 _ _ (0, 0) hk5; have d1 := cell_of_row _ _ 1 _ _ (0, 0) hk5; have d2 := cell_of_row _ _ 2 _ _ (0, 0) hk5; have d3 := cell_of_row _ _ 3 _ _ (0, 0) hk5; have d4 := cell_of_row _ _ 4 _ _ (0, 0) hk5
                  have f1 := frozen_of_row _ _ 1 _ _ hk5; have f2 := frozen_of_row _ _ 2 _ _ hk5; have f3 := frozen_of_row _ _ 3 _ _ hk5; have f4 := frozen_of_row _ _ 4 _ _ hk5
                  obtain ⟨wf, hwf⟩ : ∃ wf, wf = wr := ⟨_, rfl⟩
                  have hSf := hk5
                  have hBf : Below b5 wr wr := Below.refl _ _
                  rw [← hwf] at hSf
                  have hBf : Below b5 wr wf := by rw [hwf]; exact Below.refl _ _
                  have SF := Lib.hid hSf
                  have PF := Lib.hid ((hBf.block w.heap.size hl2).trans PQ.out)
                  have HBF := Lib.hid (HBQ.out.trans (hBf.mono (by omega)))
                  have HTF : Hid (∀ m, m < T.length → wf.cell? ⟨gT, m, none⟩ = some (.string (wd T m))) := Lib.hid fun m hm => (hBf.cell (p := ⟨gT, m, none⟩) hltT).trans (HTQ.out m hm)
                  have hsf := hBf.size
                  have j0 : wf.cell? ⟨b5, 0, none⟩ = some (.int .i64 (k : Int)) := cell_of_row _ _ 0 _ _ (0, 0) hSf
                  clear hBf hSf hk5 PQ HBQ HTQ HM1 
                  go_wp2_with (fail)
                  rw [← hwf]
                  clear hwf d0 d1 d2 d3 d4 f1 f2 f3 f4  
                  refine (HU.out wf).mono ?_
                  rintro e w' ⟨rfl, rfl⟩
                  have tw := HTF.out 1 (by have := HLW.out; omega)
                  have hlwt : (1 : Int) < (T.length : Int) := by have := HLW.out; omega
                  have HR := Lib.hid (sReadForm_any (wd T 1) wf (HWS.out 1))
                  cases hrb : rdB (wd T 1) with
                  | false =>
                    rw [hrb] at HR
                    go_wp2_with (fail)
                    refine HR.out.mono ?_
                    rintro e w9 ⟨A9, c9, rfl, _, bel9⟩
                    have NO := Lib.hid (zero_of (fun h => by have := HRB.out h; rw [hrb] at this; exact absurd this (by decide)))
                    have qz := (bel9.block w.heap.size (by omega)).trans PF.out
                    have e0 := cell_of_row _ _ 0 _ _ (0, 0) qz; have e1 := cell_of_row _ _ 1 _ _ (0, 0) qz; have e2 := cell_of_row _ _ 2 _ _ (0, 0) qz; have e3 := cell_of_row _ _ 3 _ _ (0, 0) qz; have e4 := cell_of_row _ _ 4 _ _ (0, 0) qz; have e5 := cell_of_row _ _ 5 _ _ (0, 0) qz
                    have g0 := frozen_of_row _ _ 0 _ _ qz; have g1 := frozen_of_row _ _ 1 _ _ qz; have g2 := frozen_of_row _ _ 2 _ _ qz; have g3 := frozen_of_row _ _ 3 _ _ qz; have g4 := frozen_of_row _ _ 4 _ _ qz; have g5 := frozen_of_row _ _ 5 _ _ qz
                    have H6 := Lib.hid (set6_at qz (.int .i64 0) (.int .i64 0) (.int .i64 0) (.int .i64 0) (.int .i64 0) (.slice none 0 0))
                    have HB6 := Lib.hid (set6_below (HBF.out.trans (bel9.mono (by omega))) (Nat.le_refl _) (.int .i64 0) (.int .i64 0) (.int .i64 0) (.int .i64 0) (.int .i64 0) (.slice none 0 0))
                    clear qz
                    go_wp2
                    (try simp only [Exit.inBlock, Exit.then])
                    refine bodyPost_ret (results_cell_tmpR rfl _ _ w.heap.size _ _ (0, 0) _ rfl H6.out Tryz.underlying30 rfl (by kernel_rfl)) rfl ?_
                    exact gives_cast (s := Stp.nil) (b := false) ⟨none, 0, rfl, World.ownsRow_nil _ _ _ _, HB6.out⟩ NO.out.1 NO.out.2
                  | true =>
                    rw [hrb] at HR
                    generalize rdL (wd T 1) = FF at *
                    go_wp2_with (fail)
                    refine HR.out.mono ?_
                    rintro e w9 ⟨A9, c9, rfl, own9, bel9⟩
                    have hs9 := bel9.size
                    have r9 := (bel9.block b5 (by omega)).trans SF.out
                    have r10 := set_five r9 (.slice A9 FF.length c9)
                    have g5 := cell_of_row _ _ 5 _ _ (0, 0) r9; have g5' := frozen_of_row _ _ 5 _ _ r9
                    have x0 := cell_of_row _ _ 0 _ _ (0, 0) r9; have x1 := cell_of_row _ _ 1 _ _ (0, 0) r9; have x2 := cell_of_row _ _ 2 _ _ (0, 0) r9
                    have x3 := cell_of_row _ _ 3 _ _ (0, 0) r9; have x4 := cell_of_row _ _ 4 _ _ (0, 0) r9
                    obtain ⟨w10, hw10⟩ : ∃ w10, w10 = w9.setCell ⟨b5, 5, none⟩ (.slice A9 FF.length c9) := ⟨_, rfl⟩
                    have HO10 : Hid (w10.ownsRow wf.heap.size 2 1 (.slice A9 FF.length c9) FF.length (FF.map (Value.int .i64))) := Lib.hid (by rw [hw10]; exact ownsRow_setCell_below own9 (a := ⟨b5, 5, none⟩) (by show b5 < wf.heap.size; omega) _)
                    have HB10 : Hid (Below w.heap.size w w10) := Lib.hid (by rw [hw10]; exact (HBF.out.trans (bel9.mono (by omega))).setCell (p := ⟨b5, 5, none⟩) (Nat.le_of_lt hl2) _)
                    have R10 : Hid (w10.heap[b5]? = some (.cells #[Value.int .i64 (k : Int), Value.int .i64 (-1), Value.int .i64 (-1), Value.int .i64 0, Value.int .i64 0, Value.slice A9 FF.length c9] 30 (0, 0))) := Lib.hid (by rw [hw10]; exact r10)
                    have P10 : Hid (w10.heap[w.heap.size]? = some (.cells #[Value.int .i64 0, Value.int .i64 0, Value.int .i64 0, Value.int .i64 0, Value.int .i64 0, Value.slice none 0 0] 30 (0, 0))) := Lib.hid (by rw [hw10]; exact (heap_setCell_other w9 ⟨b5, 5, none⟩ w.heap.size _ (Nat.ne_of_lt hl2)).trans ((bel9.block w.heap.size (by omega)).trans PF.out))
                    have hs10 : w10.heap.size = w9.heap.size := by rw [hw10]; simp
                    have HST := Lib.hid (sStepText_any k (-1) (-1) 0 0 A9 FF.length c9 FF w10 (RdI.of_own HO10.out))
                    clear own9 bel9 r9 r10 HR
                    go_wp2_with (fail)
                    rw [← hw10]
                    clear hw10 g5 g5' x0 x1 x2 x3 x4
                    refine HST.out.mono ?_
                    rintro e w11 ⟨rfl, bel11⟩
                    have hs11 := bel11.size
                    have p11 := (bel11.block w.heap.size (by omega)).trans P10.out
                    have HB11 := Lib.hid (HB10.out.trans (bel11.mono (by omega)))
                    cases heq : ((stT (k : Int) (-1) (-1) 0 0 FF).toList == t.toList) with
                    | false =>
                      generalize hR : stT (k : Int) (-1) (-1) 0 0 FF = R at *
                      have NO := Lib.hid (zero_of (fun h => by have h1 := HEQ.out h; rw [← HMD.out h] at h1; simp only [hR] at h1; rw [heq] at h1; exact absurd h1 (by decide)))
                      have qz := p11
                      have e0 := cell_of_row _ _ 0 _ _ (0, 0) qz; have e1 := cell_of_row _ _ 1 _ _ (0, 0) qz; have e2 := cell_of_row _ _ 2 _ _ (0, 0) qz; have e3 := cell_of_row _ _ 3 _ _ (0, 0) qz; have e4 := cell_of_row _ _ 4 _ _ (0, 0) qz; have e5 := cell_of_row _ _ 5 _ _ (0, 0) qz
                      have g0 := frozen_of_row _ _ 0 _ _ qz; have g1 := frozen_of_row _ _ 1 _ _ qz; have g2 := frozen_of_row _ _ 2 _ _ qz; have g3 := frozen_of_row _ _ 3 _ _ qz; have g4 := frozen_of_row _ _ 4 _ _ qz; have g5 := frozen_of_row _ _ 5 _ _ qz
                      have H6 := Lib.hid (set6_at qz (.int .i64 0) (.int .i64 0) (.int .i64 0) (.int .i64 0) (.int .i64 0) (.slice none 0 0))
                      have HB6 := Lib.hid (set6_below HB11.out (Nat.le_refl _) (.int .i64 0) (.int .i64 0) (.int .i64 0) (.int .i64 0) (.int .i64 0) (.slice none 0 0))
                      clear qz
                      go_wp2
                      (try simp only [Exit.inBlock, Exit.then])
                      refine bodyPost_ret (results_cell_tmpR rfl _ _ w.heap.size _ _ (0, 0) _ rfl H6.out Tryz.underlying30 rfl (by kernel_rfl)) rfl ?_
                      exact gives_cast (s := Stp.nil) (b := false) ⟨none, 0, rfl, World.ownsRow_nil _ _ _ _, HB6.out⟩ NO.out.1 NO.out.2
                    | true =>
                      have HST2 := Lib.hid (step_of (t := t) (s := ⟨k, (-1), (-1), 0, 0, FF⟩) heq hr1 htn)
                      have r11 := (bel11.block b5 (by omega)).trans R10.out
                      generalize stT (k : Int) (-1) (-1) 0 0 FF = R at *
                      have e0 := cell_of_row _ _ 0 _ _ (0, 0) p11; have e1 := cell_of_row _ _ 1 _ _ (0, 0) p11; have e2 := cell_of_row _ _ 2 _ _ (0, 0) p11; have e3 := cell_of_row _ _ 3 _ _ (0, 0) p11; have e4 := cell_of_row _ _ 4 _ _ (0, 0) p11; have e5 := cell_of_row _ _ 5 _ _ (0, 0) p11
                      have g0 := frozen_of_row _ _ 0 _ _ p11; have g1 := frozen_of_row _ _ 1 _ _ p11; have g2 := frozen_of_row _ _ 2 _ _ p11; have g3 := frozen_of_row _ _ 3 _ _ p11; have g4 := frozen_of_row _ _ 4 _ _ p11; have g5 := frozen_of_row _ _ 5 _ _ p11
                      have x0 := cell_of_row _ _ 0 _ _ (0, 0) r11; have x1 := cell_of_row _ _ 1 _ _ (0, 0) r11; have x2 := cell_of_row _ _ 2 _ _ (0, 0) r11; have x3 := cell_of_row _ _ 3 _ _ (0, 0) r11; have x4 := cell_of_row _ _ 4 _ _ (0, 0) r11; have x5 := cell_of_row _ _ 5 _ _ (0, 0) r11
                      have H6 := Lib.hid (set6_at p11 (.int .i64 (k : Int)) (.int .i64 (-1)) (.int .i64 (-1)) (.int .i64 0) (.int .i64 0) (.slice A9 FF.length c9))
                      have HB6 := Lib.hid (set6_below HB11.out (Nat.le_refl _) (.int .i64 (k : Int)) (.int .i64 (-1)) (.int .i64 (-1)) (.int .i64 0) (.int .i64 0) (.slice A9 FF.length c9))
                      have HO11 := Lib.hid (set6_own (own_below HO10.out bel11 (by omega)) (show w.heap.size < wf.heap.size by omega) (.int .i64 (k : Int)) (.int .i64 (-1)) (.int .i64 (-1)) (.int .i64 0) (.int .i64 0) (.slice A9 FF.length c9))
                      clear p11 r11 bel11 HST
                      go_wp2
                      (try simp only [Exit.inBlock, Exit.then])
                      refine bodyPost_ret (results_cell_tmpR rfl _ _ w.heap.size _ _ (0, 0) _ rfl H6.out Tryz.underlying30 rfl (by kernel_rfl)) rfl ?_
                      exact gives_cast (s := ⟨k, (-1), (-1), 0, 0, FF⟩) (b := true) ⟨A9, c9, rfl, HO11.out.mono (by omega), HB6.out⟩ HST2.out.1 HST2.out.2
                · obtain rfl : m = 1 := by have := B4.out; omega
                  obtain rfl : Y4 = 1 := by have := B4.out; omega
                  obtain rfl : Y2 = 2 := by have := B1.out; have := B2.out; omega
                  obtain rfl : Y3 = 3 := by have := B3.out; omega
                  obtain ⟨gN, capN, hgN, hloN, hltN⟩ := HO.out.form (by decide)
                  have hAr : Ar = some ⟨gN, 0, none⟩ ∧ cr = capN := by injection hgN with x y z; exact ⟨x, z⟩
                  obtain ⟨rfl, rfl⟩ := hAr
                  have hgb : gN ≠ b5 := by omega
                  have n0 : wr.cell? ⟨gN, 0, none⟩ = some (.int .i64 (wdN T 1)) := by rw [HO.out.cellAt 0 (by decide), wdV_at (by decide)]
                  have HMD : Hid (rsB t = true → (⟨k, (wdN T 1), (-1), 0, 0, (rdL (wd T 2))⟩ : Stp) = lkS t) := Lib.hid fun h => by rw [← (HM1.out h).2.2.2.2]; rfl
                  have HRB : Hid (rsB t = true → rdB (wd T 2) = true) := Lib.hid fun h => by have h1 := (HM1.out h).2.2.2.1; first | exact h1 trivial | exact h1 rfl
                  generalize wdN T 1 = v0 at *
                  have d0 := cell_of_row _ _ 0 _ _ (0, 0) hk5; have d1 := cell_of_row _ _ 1 _ _ (0, 0) hk5; have d2 := cell_of_row _ _ 2 _ _ (0, 0) hk5; have d3 := cell_of_row _ _ 3 _ _ (0, 0) hk5; have d4 := cell_of_row _ _ 4 _ _ (0, 0) hk5
                  have f1 := frozen_of_row _ _ 1 _ _ hk5; have f2 := frozen_of_row _ _ 2 _ _ hk5; have f3 := frozen_of_row _ _ 3 _ _ hk5; have f4 := frozen_of_row _ _ 4 _ _ hk5
                  have k0 := heap_setCell_same _ b5 1 _ _ (.int .i64 v0) hk5
                  obtain ⟨wf, hwf⟩ : ∃ wf, wf = (wr.setCell ⟨b5, 1, none⟩ (.int .i64 v0)) := ⟨_, rfl⟩
                  have hSf : wf.heap[b5]? = some (.cells #[Value.int .i64 (k : Int), Value.int .i64 v0, Value.int .i64 (-1), Value.int .i64 0, Value.int .i64 0, Value.slice none 0 0] 30 (0, 0)) := by rw [hwf]; simpa using k0
                  have hBf : Below b5 wr wf := by rw [hwf]; exact ((Below.refl b5 wr).setCell (p := ⟨b5, 1, none⟩) (Nat.le_refl _) (.int .i64 v0))
                  have SF := Lib.hid hSf
                  have PF := Lib.hid ((hBf.block w.heap.size hl2).trans PQ.out)
                  have HBF := Lib.hid (HBQ.out.trans (hBf.mono (by omega)))
                  have HTF : Hid (∀ m, m < T.length → wf.cell? ⟨gT, m, none⟩ = some (.string (wd T m))) := Lib.hid fun m hm => (hBf.cell (p := ⟨gT, m, none⟩) hltT).trans (HTQ.out m hm)
                  have hsf := hBf.size
                  have j0 : wf.cell? ⟨b5, 0, none⟩ = some (.int .i64 (k : Int)) := cell_of_row _ _ 0 _ _ (0, 0) hSf
                  clear hBf hSf hk5 PQ HBQ HTQ HM1 k0
                  go_wp2_with (fail)
                  rw [← hwf]
                  clear hwf d0 d1 d2 d3 d4 f1 f2 f3 f4 n0 
                  refine (HU.out wf).mono ?_
                  rintro e w' ⟨rfl, rfl⟩
                  have tw := HTF.out 2 (by have := HLW.out; omega)
                  have hlwt : (2 : Int) < (T.length : Int) := by have := HLW.out; omega
                  have HR := Lib.hid (sReadForm_any (wd T 2) wf (HWS.out 2))
                  cases hrb : rdB (wd T 2) with
                  | false =>
                    rw [hrb] at HR
                    go_wp2_with (fail)
                    refine HR.out.mono ?_
                    rintro e w9 ⟨A9, c9, rfl, _, bel9⟩
                    have NO := Lib.hid (zero_of (fun h => by have := HRB.out h; rw [hrb] at this; exact absurd this (by decide)))
                    have qz := (bel9.block w.heap.size (by omega)).trans PF.out
                    have e0 := cell_of_row _ _ 0 _ _ (0, 0) qz; have e1 := cell_of_row _ _ 1 _ _ (0, 0) qz; have e2 := cell_of_row _ _ 2 _ _ (0, 0) qz; have e3 := cell_of_row _ _ 3 _ _ (0, 0) qz; have e4 := cell_of_row _ _ 4 _ _ (0, 0) qz; have e5 := cell_of_row _ _ 5 _ _ (0, 0) qz
                    have g0 := frozen_of_row _ _ 0 _ _ qz; have g1 := frozen_of_row _ _ 1 _ _ qz; have g2 := frozen_of_row _ _ 2 _ _ qz; have g3 := frozen_of_row _ _ 3 _ _ qz; have g4 := frozen_of_row _ _ 4 _ _ qz; have g5 := frozen_of_row _ _ 5 _ _ qz
                    have H6 := Lib.hid (set6_at qz (.int .i64 0) (.int .i64 0) (.int .i64 0) (.int .i64 0) (.int .i64 0) (.slice none 0 0))
                    have HB6 := Lib.hid (set6_below (HBF.out.trans (bel9.mono (by omega))) (Nat.le_refl _) (.int .i64 0) (.int .i64 0) (.int .i64 0) (.int .i64 0) (.int .i64 0) (.slice none 0 0))
                    clear qz
                    go_wp2
                    (try simp only [Exit.inBlock, Exit.then])
                    refine bodyPost_ret (results_cell_tmpR rfl _ _ w.heap.size _ _ (0, 0) _ rfl H6.out Tryz.underlying30 rfl (by kernel_rfl)) rfl ?_
                    exact gives_cast (s := Stp.nil) (b := false) ⟨none, 0, rfl, World.ownsRow_nil _ _ _ _, HB6.out⟩ NO.out.1 NO.out.2
                  | true =>
                    rw [hrb] at HR
                    generalize rdL (wd T 2) = FF at *
                    go_wp2_with (fail)
                    refine HR.out.mono ?_
                    rintro e w9 ⟨A9, c9, rfl, own9, bel9⟩
                    have hs9 := bel9.size
                    have r9 := (bel9.block b5 (by omega)).trans SF.out
                    have r10 := set_five r9 (.slice A9 FF.length c9)
                    have g5 := cell_of_row _ _ 5 _ _ (0, 0) r9; have g5' := frozen_of_row _ _ 5 _ _ r9
                    have x0 := cell_of_row _ _ 0 _ _ (0, 0) r9; have x1 := cell_of_row _ _ 1 _ _ (0, 0) r9; have x2 := cell_of_row _ _ 2 _ _ (0, 0) r9
                    have x3 := cell_of_row _ _ 3 _ _ (0, 0) r9; have x4 := cell_of_row _ _ 4 _ _ (0, 0) r9
                    obtain ⟨w10, hw10⟩ : ∃ w10, w10 = w9.setCell ⟨b5, 5, none⟩ (.slice A9 FF.length c9) := ⟨_, rfl⟩
                    have HO10 : Hid (w10.ownsRow wf.heap.size 2 1 (.slice A9 FF.length c9) FF.length (FF.map (Value.int .i64))) := Lib.hid (by rw [hw10]; exact ownsRow_setCell_below own9 (a := ⟨b5, 5, none⟩) (by show b5 < wf.heap.size; omega) _)
                    have HB10 : Hid (Below w.heap.size w w10) := Lib.hid (by rw [hw10]; exact (HBF.out.trans (bel9.mono (by omega))).setCell (p := ⟨b5, 5, none⟩) (Nat.le_of_lt hl2) _)
                    have R10 : Hid (w10.heap[b5]? = some (.cells #[Value.int .i64 (k : Int), Value.int .i64 v0, Value.int .i64 (-1), Value.int .i64 0, Value.int .i64 0, Value.slice A9 FF.length c9] 30 (0, 0))) := Lib.hid (by rw [hw10]; exact r10)
                    have P10 : Hid (w10.heap[w.heap.size]? = some (.cells #[Value.int .i64 0, Value.int .i64 0, Value.int .i64 0, Value.int .i64 0, Value.int .i64 0, Value.slice none 0 0] 30 (0, 0))) := Lib.hid (by rw [hw10]; exact (heap_setCell_other w9 ⟨b5, 5, none⟩ w.heap.size _ (Nat.ne_of_lt hl2)).trans ((bel9.block w.heap.size (by omega)).trans PF.out))
                    have hs10 : w10.heap.size = w9.heap.size := by rw [hw10]; simp
                    have HST := Lib.hid (sStepText_any k v0 (-1) 0 0 A9 FF.length c9 FF w10 (RdI.of_own HO10.out))
                    clear own9 bel9 r9 r10 HR
                    go_wp2_with (fail)
                    rw [← hw10]
                    clear hw10 g5 g5' x0 x1 x2 x3 x4
                    refine HST.out.mono ?_
                    rintro e w11 ⟨rfl, bel11⟩
                    have hs11 := bel11.size
                    have p11 := (bel11.block w.heap.size (by omega)).trans P10.out
                    have HB11 := Lib.hid (HB10.out.trans (bel11.mono (by omega)))
                    cases heq : ((stT (k : Int) v0 (-1) 0 0 FF).toList == t.toList) with
                    | false =>
                      generalize hR : stT (k : Int) v0 (-1) 0 0 FF = R at *
                      have NO := Lib.hid (zero_of (fun h => by have h1 := HEQ.out h; rw [← HMD.out h] at h1; simp only [hR] at h1; rw [heq] at h1; exact absurd h1 (by decide)))
                      have qz := p11
                      have e0 := cell_of_row _ _ 0 _ _ (0, 0) qz; have e1 := cell_of_row _ _ 1 _ _ (0, 0) qz; have e2 := cell_of_row _ _ 2 _ _ (0, 0) qz; have e3 := cell_of_row _ _ 3 _ _ (0, 0) qz; have e4 := cell_of_row _ _ 4 _ _ (0, 0) qz; have e5 := cell_of_row _ _ 5 _ _ (0, 0) qz
                      have g0 := frozen_of_row _ _ 0 _ _ qz; have g1 := frozen_of_row _ _ 1 _ _ qz; have g2 := frozen_of_row _ _ 2 _ _ qz; have g3 := frozen_of_row _ _ 3 _ _ qz; have g4 := frozen_of_row _ _ 4 _ _ qz; have g5 := frozen_of_row _ _ 5 _ _ qz
                      have H6 := Lib.hid (set6_at qz (.int .i64 0) (.int .i64 0) (.int .i64 0) (.int .i64 0) (.int .i64 0) (.slice none 0 0))
                      have HB6 := Lib.hid (set6_below HB11.out (Nat.le_refl _) (.int .i64 0) (.int .i64 0) (.int .i64 0) (.int .i64 0) (.int .i64 0) (.slice none 0 0))
                      clear qz
                      go_wp2
                      (try simp only [Exit.inBlock, Exit.then])
                      refine bodyPost_ret (results_cell_tmpR rfl _ _ w.heap.size _ _ (0, 0) _ rfl H6.out Tryz.underlying30 rfl (by kernel_rfl)) rfl ?_
                      exact gives_cast (s := Stp.nil) (b := false) ⟨none, 0, rfl, World.ownsRow_nil _ _ _ _, HB6.out⟩ NO.out.1 NO.out.2
                    | true =>
                      have HST2 := Lib.hid (step_of (t := t) (s := ⟨k, v0, (-1), 0, 0, FF⟩) heq hr1 htn)
                      have r11 := (bel11.block b5 (by omega)).trans R10.out
                      generalize stT (k : Int) v0 (-1) 0 0 FF = R at *
                      have e0 := cell_of_row _ _ 0 _ _ (0, 0) p11; have e1 := cell_of_row _ _ 1 _ _ (0, 0) p11; have e2 := cell_of_row _ _ 2 _ _ (0, 0) p11; have e3 := cell_of_row _ _ 3 _ _ (0, 0) p11; have e4 := cell_of_row _ _ 4 _ _ (0, 0) p11; have e5 := cell_of_row _ _ 5 _ _ (0, 0) p11
                      have g0 := frozen_of_row _ _ 0 _ _ p11; have g1 := frozen_of_row _ _ 1 _ _ p11; have g2 := frozen_of_row _ _ 2 _ _ p11; have g3 := frozen_of_row _ _ 3 _ _ p11; have g4 := frozen_of_row _ _ 4 _ _ p11; have g5 := frozen_of_row _ _ 5 _ _ p11
                      have x0 := cell_of_row _ _ 0 _ _ (0, 0) r11; have x1 := cell_of_row _ _ 1 _ _ (0, 0) r11; have x2 := cell_of_row _ _ 2 _ _ (0, 0) r11; have x3 := cell_of_row _ _ 3 _ _ (0, 0) r11; have x4 := cell_of_row _ _ 4 _ _ (0, 0) r11; have x5 := cell_of_row _ _ 5 _ _ (0, 0) r11
                      have H6 := Lib.hid (set6_at p11 (.int .i64 (k : Int)) (.int .i64 v0) (.int .i64 (-1)) (.int .i64 0) (.int .i64 0) (.slice A9 FF.length c9))
                      have HB6 := Lib.hid (set6_below HB11.out (Nat.le_refl _) (.int .i64 (k : Int)) (.int .i64 v0) (.int .i64 (-1)) (.int .i64 0) (.int .i64 0) (.slice A9 FF.length c9))
                      have HO11 := Lib.hid (set6_own (own_below HO10.out bel11 (by omega)) (show w.heap.size < wf.heap.size by omega) (.int .i64 (k : Int)) (.int .i64 v0) (.int .i64 (-1)) (.int .i64 0) (.int .i64 0) (.slice A9 FF.length c9))
                      clear p11 r11 bel11 HST
                      go_wp2
                      (try simp only [Exit.inBlock, Exit.then])
                      refine bodyPost_ret (results_cell_tmpR rfl _ _ w.heap.size _ _ (0, 0) _ rfl H6.out Tryz.underlying30 rfl (by kernel_rfl)) rfl ?_
                      exact gives_cast (s := ⟨k, v0, (-1), 0, 0, FF⟩) (b := true) ⟨A9, c9, rfl, HO11.out.mono (by omega), HB6.out⟩ HST2.out.1 HST2.out.2
                · obtain rfl : m = 2 := by have := B4.out; omega
                  obtain rfl : Y4 = 2 := by have := B4.out; omega
                  obtain rfl : Y2 = 3 := by have := B1.out; have := B2.out; omega
                  obtain rfl : Y3 = 4 := by have := B3.out; omega
                  obtain ⟨gN, capN, hgN, hloN, hltN⟩ := HO.out.form (by decide)
                  have hAr : Ar = some ⟨gN, 0, none⟩ ∧ cr = capN := by injection hgN with x y z; exact ⟨x, z⟩
                  obtain ⟨rfl, rfl⟩ := hAr
                  have hgb : gN ≠ b5 := by omega
                  have n0 : wr.cell? ⟨gN, 0, none⟩ = some (.int .i64 (wdN T 1)) := by rw [HO.out.cellAt 0 (by decide), wdV_at (by decide)]
                  have n1 : wr.cell? ⟨gN, 1, none⟩ = some (.int .i64 (wdN T 2)) := by rw [HO.out.cellAt 1 (by decide), wdV_at (by decide)]
                  have HMD : Hid (rsB t = true → (⟨k, (wdN T 1), (-1), (wdN T 2), 0, (rdL (wd T 3))⟩ : Stp) = lkS t) := Lib.hid fun h => by rw [← (HM1.out h).2.2.2.2]; rfl
                  have HRB : Hid (rsB t = true → rdB (wd T 3) = true) := Lib.hid fun h => by have h1 := (HM1.out h).2.2.2.1; first | exact h1 trivial | exact h1 rfl
                  generalize wdN T 1 = v0 at *
                  generalize wdN T 2 = v1 at *
                  have d0 := cell_of_row _ _ 0 _ _ (0, 0) hk5; have d1 := cell_of_row _ _ 1 _ _ (0, 0) hk5; have d2 := cell_of_row _ _ 2 _ _ (0, 0) hk5; have d3 := cell_of_row _ _ 3 _ _ (0, 0) hk5; have d4 := cell_of_row _ _ 4 _ _ (0, 0) hk5
                  have f1 := frozen_of_row _ _ 1 _ _ hk5; have f2 := frozen_of_row _ _ 2 _ _ hk5; have f3 := frozen_of_row _ _ 3 _ _ hk5; have f4 := frozen_of_row _ _ 4 _ _ hk5
                  have l1 := ((far_cellR (w := wr) (a := ⟨b5, 1, none⟩) (p := ⟨gN, 1, none⟩) (u := .int .i64 v0) hgb).trans n1)
                  have k0 := heap_setCell_same _ b5 1 _ _ (.int .i64 v0) hk5
                  have k1 := heap_setCell_same _ b5 3 _ _ (.int .i64 v1) k0
                  obtain ⟨wf, hwf⟩ : ∃ wf, wf = ((wr.setCell ⟨b5, 1, none⟩ (.int .i64 v0)).setCell ⟨b5, 3, none⟩ (.int .i64 v1)) := ⟨_, rfl⟩
                  have hSf : wf.heap[b5]? = some (.cells #[Value.int .i64 (k : Int), Value.int .i64 v0, Value.int .i64 (-1), Value.int .i64 v1, Value.int .i64 0, Value.slice none 0 0] 30 (0, 0)) := by rw [hwf]; simpa using k1
                  have hBf : Below b5 wr wf := by rw [hwf]; exact (((Below.refl b5 wr).setCell (p := ⟨b5, 1, none⟩) (Nat.le_refl _) (.int .i64 v0)).setCell (p := ⟨b5, 3, none⟩) (Nat.le_refl _) (.int .i64 v1))
                  have SF := Lib.hid hSf
                  have PF := Lib.hid ((hBf.block w.heap.size hl2).trans PQ.out)
                  have HBF := Lib.hid (HBQ.out.trans (hBf.mono (by omega)))
                  have HTF : Hid (∀ m, m < T.length → wf.cell? ⟨gT, m, none⟩ = some (.string (wd T m))) := Lib.hid fun m hm => (hBf.cell (p := ⟨gT, m, none⟩) hltT).trans (HTQ.out m hm)
                  have hsf := hBf.size
                  have j0 : wf.cell? ⟨b5, 0, none⟩ = some (.int .i64 (k : Int)) := cell_of_row _ _ 0 _ _ (0, 0) hSf
                  clear hBf hSf hk5 PQ HBQ HTQ HM1 k0 k1
                  go_wp2_with (fail)
                  rw [← hwf]
                  clear hwf d0 d1 d2 d3 d4 f1 f2 f3 f4 n0 n1 l1
                  refine (HU.out wf).mono ?_
                  rintro e w' ⟨rfl, rfl⟩
                  have tw := HTF.out 3 (by have := HLW.out; omega)
                  have hlwt : (3 : Int) < (T.length : Int) := by have := HLW.out; omega
                  have HR := Lib.hid (sReadForm_any (wd T 3) wf (HWS.out 3))
                  cases hrb : rdB (wd T 3) with
                  | false =>
                    rw [hrb] at HR
                    go_wp2_with (fail)
                    refine HR.out.mono ?_
                    rintro e w9 ⟨A9, c9, rfl, _, bel9⟩
                    have NO := Lib.hid (zero_of (fun h => by have := HRB.out h; rw [hrb] at this; exact absurd this (by decide)))
                    have qz := (bel9.block w.heap.size (by omega)).trans PF.out
                    have e0 := cell_of_row _ _ 0 _ _ (0, 0) qz; have e1 := cell_of_row _ _ 1 _ _ (0, 0) qz; have e2 := cell_of_row _ _ 2 _ _ (0, 0) qz; have e3 := cell_of_row _ _ 3 _ _ (0, 0) qz; have e4 := cell_of_row _ _ 4 _ _ (0, 0) qz; have e5 := cell_of_row _ _ 5 _ _ (0, 0) qz
                    have g0 := frozen_of_row _ _ 0 _ _ qz; have g1 := frozen_of_row _ _ 1 _ _ qz; have g2 := frozen_of_row _ _ 2 _ _ qz; have g3 := frozen_of_row _ _ 3 _ _ qz; have g4 := frozen_of_row _ _ 4 _ _ qz; have g5 := frozen_of_row _ _ 5 _ _ qz
                    have H6 := Lib.hid (set6_at qz (.int .i64 0) (.int .i64 0) (.int .i64 0) (.int .i64 0) (.int .i64 0) (.slice none 0 0))
                    have HB6 := Lib.hid (set6_below (HBF.out.trans (bel9.mono (by omega))) (Nat.le_refl _) (.int .i64 0) (.int .i64 0) (.int .i64 0) (.int .i64 0) (.int .i64 0) (.slice none 0 0))
                    clear qz
                    go_wp2
                    (try simp only [Exit.inBlock, Exit.then])
                    refine bodyPost_ret (results_cell_tmpR rfl _ _ w.heap.size _ _ (0, 0) _ rfl H6.out Tryz.underlying30 rfl (by kernel_rfl)) rfl ?_
                    exact gives_cast (s := Stp.nil) (b := false) ⟨none, 0, rfl, World.ownsRow_nil _ _ _ _, HB6.out⟩ NO.out.1 NO.out.2
                  | true =>
                    rw [hrb] at HR
                    generalize rdL (wd T 3) = FF at *
                    go_wp2_with (fail)
                    refine HR.out.mono ?_
                    rintro e w9 ⟨A9, c9, rfl, own9, bel9⟩
                    have hs9 := bel9.size
                    have r9 := (bel9.block b5 (by omega)).trans SF.out
                    have r10 := set_five r9 (.slice A9 FF.length c9)
                    have g5 := cell_of_row _ _ 5 _ _ (0, 0) r9; have g5' := frozen_of_row _ _ 5 _ _ r9
                    have x0 := cell_of_row _ _ 0 _ _ (0, 0) r9; have x1 := cell_of_row _ _ 1 _ _ (0, 0) r9; have x2 := cell_of_row _ _ 2 _ _ (0, 0) r9
                    have x3 := cell_of_row _ _ 3 _ _ (0, 0) r9; have x4 := cell_of_row _ _ 4 _ _ (0, 0) r9
                    obtain ⟨w10, hw10⟩ : ∃ w10, w10 = w9.setCell ⟨b5, 5, none⟩ (.slice A9 FF.length c9) := ⟨_, rfl⟩
                    have HO10 : Hid (w10.ownsRow wf.heap.size 2 1 (.slice A9 FF.length c9) FF.length (FF.map (Value.int .i64))) := Lib.hid (by rw [hw10]; exact ownsRow_setCell_below own9 (a := ⟨b5, 5, none⟩) (by show b5 < wf.heap.size; omega) _)
                    have HB10 : Hid (Below w.heap.size w w10) := Lib.hid (by rw [hw10]; exact (HBF.out.trans (bel9.mono (by omega))).setCell (p := ⟨b5, 5, none⟩) (Nat.le_of_lt hl2) _)
                    have R10 : Hid (w10.heap[b5]? = some (.cells #[Value.int .i64 (k : Int), Value.int .i64 v0, Value.int .i64 (-1), Value.int .i64 v1, Value.int .i64 0, Value.slice A9 FF.length c9] 30 (0, 0))) := Lib.hid (by rw [hw10]; exact r10)
                    have P10 : Hid (w10.heap[w.heap.size]? = some (.cells #[Value.int .i64 0, Value.int .i64 0, Value.int .i64 0, Value.int .i64 0, Value.int .i64 0, Value.slice none 0 0] 30 (0, 0))) := Lib.hid (by rw [hw10]; exact (heap_setCell_other w9 ⟨b5, 5, none⟩ w.heap.size _ (Nat.ne_of_lt hl2)).trans ((bel9.block w.heap.size (by omega)).trans PF.out))
                    have hs10 : w10.heap.size = w9.heap.size := by rw [hw10]; simp
                    have HST := Lib.hid (sStepText_any k v0 (-1) v1 0 A9 FF.length c9 FF w10 (RdI.of_own HO10.out))
                    clear own9 bel9 r9 r10 HR
                    go_wp2_with (fail)
                    rw [← hw10]
                    clear hw10 g5 g5' x0 x1 x2 x3 x4
                    refine HST.out.mono ?_
                    rintro e w11 ⟨rfl, bel11⟩
                    have hs11 := bel11.size
                    have p11 := (bel11.block w.heap.size (by omega)).trans P10.out
                    have HB11 := Lib.hid (HB10.out.trans (bel11.mono (by omega)))
                    cases heq : ((stT (k : Int) v0 (-1) v1 0 FF).toList == t.toList) with
                    | false =>
                      generalize hR : stT (k : Int) v0 (-1) v1 0 FF = R at *
                      have NO := Lib.hid (zero_of (fun h => by have h1 := HEQ.out h; rw [← HMD.out h] at h1; simp only [hR] at h1; rw [heq] at h1; exact absurd h1 (by decide)))
                      have qz := p11
                      have e0 := cell_of_row _ _ 0 _ _ (0, 0) qz; have e1 := cell_of_row _ _ 1 _ _ (0, 0) qz; have e2 := cell_of_row _ _ 2 _ _ (0, 0) qz; have e3 := cell_of_row _ _ 3 _ _ (0, 0) qz; have e4 := cell_of_row _ _ 4 _ _ (0, 0) qz; have e5 := cell_of_row _ _ 5 _ _ (0, 0) qz
                      have g0 := frozen_of_row _ _ 0 _ _ qz; have g1 := frozen_of_row _ _ 1 _ _ qz; have g2 := frozen_of_row _ _ 2 _ _ qz; have g3 := frozen_of_row _ _ 3 _ _ qz; have g4 := frozen_of_row _ _ 4 _ _ qz; have g5 := frozen_of_row _ _ 5 _ _ qz
                      have H6 := Lib.hid (set6_at qz (.int .i64 0) (.int .i64 0) (.int .i64 0) (.int .i64 0) (.int .i64 0) (.slice none 0 0))
                      have HB6 := Lib.hid (set6_below HB11.out (Nat.le_refl _) (.int .i64 0) (.int .i64 0) (.int .i64 0) (.int .i64 0) (.int .i64 0) (.slice none 0 0))
                      clear qz
                      go_wp2
                      (try simp only [Exit.inBlock, Exit.then])
                      refine bodyPost_ret (results_cell_tmpR rfl _ _ w.heap.size _ _ (0, 0) _ rfl H6.out Tryz.underlying30 rfl (by kernel_rfl)) rfl ?_
                      exact gives_cast (s := Stp.nil) (b := false) ⟨none, 0, rfl, World.ownsRow_nil _ _ _ _, HB6.out⟩ NO.out.1 NO.out.2
                    | true =>
                      have HST2 := Lib.hid (step_of (t := t) (s := ⟨k, v0, (-1), v1, 0, FF⟩) heq hr1 htn)
                      have r11 := (bel11.block b5 (by omega)).trans R10.out
                      generalize stT (k : Int) v0 (-1) v1 0 FF = R at *
                      have e0 := cell_of_row _ _ 0 _ _ (0, 0) p11; have e1 := cell_of_row _ _ 1 _ _ (0, 0) p11; have e2 := cell_of_row _ _ 2 _ _ (0, 0) p11; have e3 := cell_of_row _ _ 3 _ _ (0, 0) p11; have e4 := cell_of_row _ _ 4 _ _ (0, 0) p11; have e5 := cell_of_row _ _ 5 _ _ (0, 0) p11
                      have g0 := frozen_of_row _ _ 0 _ _ p11; have g1 := frozen_of_row _ _ 1 _ _ p11; have g2 := frozen_of_row _ _ 2 _ _ p11; have g3 := frozen_of_row _ _ 3 _ _ p11; have g4 := frozen_of_row _ _ 4 _ _ p11; have g5 := frozen_of_row _ _ 5 _ _ p11
                      have x0 := cell_of_row _ _ 0 _ _ (0, 0) r11; have x1 := cell_of_row _ _ 1 _ _ (0, 0) r11; have x2 := cell_of_row _ _ 2 _ _ (0, 0) r11; have x3 := cell_of_row _ _ 3 _ _ (0, 0) r11; have x4 := cell_of_row _ _ 4 _ _ (0, 0) r11; have x5 := cell_of_row _ _ 5 _ _ (0, 0) r11
                      have H6 := Lib.hid (set6_at p11 (.int .i64 (k : Int)) (.int .i64 v0) (.int .i64 (-1)) (.int .i64 v1) (.int .i64 0) (.slice A9 FF.length c9))
                      have HB6 := Lib.hid (set6_below HB11.out (Nat.le_refl _) (.int .i64 (k : Int)) (.int .i64 v0) (.int .i64 (-1)) (.int .i64 v1) (.int .i64 0) (.slice A9 FF.length c9))
                      have HO11 := Lib.hid (set6_own (own_below HO10.out bel11 (by omega)) (show w.heap.size < wf.heap.size by omega) (.int .i64 (k : Int)) (.int .i64 v0) (.int .i64 (-1)) (.int .i64 v1) (.int .i64 0) (.slice A9 FF.length c9))
                      clear p11 r11 bel11 HST
                      go_wp2
                      (try simp only [Exit.inBlock, Exit.then])
                      refine bodyPost_ret (results_cell_tmpR rfl _ _ w.heap.size _ _ (0, 0) _ rfl H6.out Tryz.underlying30 rfl (by kernel_rfl)) rfl ?_
                      exact gives_cast (s := ⟨k, v0, (-1), v1, 0, FF⟩) (b := true) ⟨A9, c9, rfl, HO11.out.mono (by omega), HB6.out⟩ HST2.out.1 HST2.out.2
                · obtain rfl : m = 3 := by have := B4.out; omega
                  obtain rfl : Y4 = 3 := by have := B4.out; omega
                  obtain rfl : Y2 = 4 := by have := B1.out; have := B2.out; omega
                  obtain rfl : Y3 = 5 := by have := B3.out; omega
                  obtain ⟨gN, capN, hgN, hloN, hltN⟩ := HO.out.form (by decide)
                  have hAr : Ar = some ⟨gN, 0, none⟩ ∧ cr = capN := by injection hgN with x y z; exact ⟨x, z⟩
                  obtain ⟨rfl, rfl⟩ := hAr
                  have hgb : gN ≠ b5 := by omega
                  have n0 : wr.cell? ⟨gN, 0, none⟩ = some (.int .i64 (wdN T 1)) := by rw [HO.out.cellAt 0 (by decide), wdV_at (by decide)]
                  have n1 : wr.cell? ⟨gN, 1, none⟩ = some (.int .i64 (wdN T 2)) := by rw [HO.out.cellAt 1 (by decide), wdV_at (by decide)]
                  have n2 : wr.cell? ⟨gN, 2, none⟩ = some (.int .i64 (wdN T 3)) := by rw [HO.out.cellAt 2 (by decide), wdV_at (by decide)]
                  have HMD : Hid (rsB t = true → (⟨k, (wdN T 1), (-1), (wdN T 2), (wdN T 3), (rdL (wd T 4))⟩ : Stp) = lkS t) := Lib.hid fun h => by rw [← (HM1.out h).2.2.2.2]; rfl
                  have HRB : Hid (rsB t = true → rdB (wd T 4) = true) := Lib.hid fun h => by have h1 := (HM1.out h).2.2.2.1; first | exact h1 trivial | exact h1 rfl
                  generalize wdN T 1 = v0 at *
                  generalize wdN T 2 = v1 at *
                  generalize wdN T 3 = v2 at *
                  have d0 := cell_of_row _ _ 0 _ _ (0, 0) hk5; have d1 := cell_of_row _ _ 1 _ _ (0, 0) hk5; have d2 := cell_of_row _ _ 2 _ _ (0, 0) hk5; have d3 := cell_of_row _ _ 3 _ _ (0, 0) hk5; have d4 := cell_of_row _ _ 4 _ _ (0, 0) hk5
                  have f1 := frozen_of_row _ _ 1 _ _ hk5; have f2 := frozen_of_row _ _ 2 _ _ hk5; have f3 := frozen_of_row _ _ 3 _ _ hk5; have f4 := frozen_of_row _ _ 4 _ _ hk5
                  have l1 := ((far_cellR (w := wr) (a := ⟨b5, 1, none⟩) (p := ⟨gN, 1, none⟩) (u := .int .i64 v0) hgb).trans n1)
                  have l2 := ((far_cellR (w := (wr.setCell ⟨b5, 1, none⟩ (.int .i64 v0))) (a := ⟨b5, 3, none⟩) (p := ⟨gN, 2, none⟩) (u := .int .i64 v1) hgb).trans ((far_cellR (w := wr) (a := ⟨b5, 1, none⟩) (p := ⟨gN, 2, none⟩) (u := .int .i64 v0) hgb).trans n2))
                  have k0 := heap_setCell_same _ b5 1 _ _ (.int .i64 v0) hk5
                  have k1 := heap_setCell_same _ b5 3 _ _ (.int .i64 v1) k0
                  have k2 := heap_setCell_same _ b5 4 _ _ (.int .i64 v2) k1
                  obtain ⟨wf, hwf⟩ : ∃ wf, wf = (((wr.setCell ⟨b5, 1, none⟩ (.int .i64 v0)).setCell ⟨b5, 3, none⟩ (.int .i64 v1)).setCell ⟨b5, 4, none⟩ (.int .i64 v2)) := ⟨_, rfl⟩
                  have hSf : wf.heap[b5]? = some (.cells #[Value.int .i64 (k : Int), Value.int .i64 v0, Value.int .i64 (-1), Value.int .i64 v1, Value.int .i64 v2, Value.slice none 0 0] 30 (0, 0)) := by rw [hwf]; simpa using k2
                  have hBf : Below b5 wr wf := by rw [hwf]; exact ((((Below.refl b5 wr).setCell (p := ⟨b5, 1, none⟩) (Nat.le_refl _) (.int .i64 v0)).setCell (p := ⟨b5, 3, none⟩) (Nat.le_refl _) (.int .i64 v1)).setCell (p := ⟨b5, 4, none⟩) (Nat.le_refl _) (.int .i64 v2))
                  have SF := Lib.hid hSf
                  have PF := Lib.hid ((hBf.block w.heap.size hl2).trans PQ.out)
                  have HBF := Lib.hid (HBQ.out.trans (hBf.mono (by omega)))
                  have HTF : Hid (∀ m, m < T.length → wf.cell? ⟨gT, m, none⟩ = some (.string (wd T m))) := Lib.hid fun m hm => (hBf.cell (p := ⟨gT, m, none⟩) hltT).trans (HTQ.out m hm)
                  have hsf := hBf.size
                  have j0 : wf.cell? ⟨b5, 0, none⟩ = some (.int .i64 (k : Int)) := cell_of_row _ _ 0 _ _ (0, 0) hSf
                  clear hBf hSf hk5 PQ HBQ HTQ HM1 k0 k1 k2
                  go_wp2_with (fail)
                  rw [← hwf]
                  clear hwf d0 d1 d2 d3 d4 f1 f2 f3 f4 n0 n1 n2 l1 l2
                  refine (HU.out wf).mono ?_
                  rintro e w' ⟨rfl, rfl⟩
                  have tw := HTF.out 4 (by have := HLW.out; omega)
                  have hlwt : (4 : Int) < (T.length : Int) := by have := HLW.out; omega
                  have HR := Lib.hid (sReadForm_any (wd T 4) wf (HWS.out 4))
                  cases hrb : rdB (wd T 4) with
                  | false =>
                    rw [hrb] at HR
                    go_wp2_with (fail)
                    refine HR.out.mono ?_
                    rintro e w9 ⟨A9, c9, rfl, _, bel9⟩
                    have NO := Lib.hid (zero_of (fun h => by have := HRB.out h; rw [hrb] at this; exact absurd this (by decide)))
                    have qz := (bel9.block w.heap.size (by omega)).trans PF.out
                    have e0 := cell_of_row _ _ 0 _ _ (0, 0) qz; have e1 := cell_of_row _ _ 1 _ _ (0, 0) qz; have e2 := cell_of_row _ _ 2 _ _ (0, 0) qz; have e3 := cell_of_row _ _ 3 _ _ (0, 0) qz; have e4 := cell_of_row _ _ 4 _ _ (0, 0) qz; have e5 := cell_of_row _ _ 5 _ _ (0, 0) qz
                    have g0 := frozen_of_row _ _ 0 _ _ qz; have g1 := frozen_of_row _ _ 1 _ _ qz; have g2 := frozen_of_row _ _ 2 _ _ qz; have g3 := frozen_of_row _ _ 3 _ _ qz; have g4 := frozen_of_row _ _ 4 _ _ qz; have g5 := frozen_of_row _ _ 5 _ _ qz
                    have H6 := Lib.hid (set6_at qz (.int .i64 0) (.int .i64 0) (.int .i64 0) (.int .i64 0) (.int .i64 0) (.slice none 0 0))
                    have HB6 := Lib.hid (set6_below (HBF.out.trans (bel9.mono (by omega))) (Nat.le_refl _) (.int .i64 0) (.int .i64 0) (.int .i64 0) (.int .i64 0) (.int .i64 0) (.slice none 0 0))
                    clear qz
                    go_wp2
                    (try simp only [Exit.inBlock, Exit.then])
                    refine bodyPost_ret (results_cell_tmpR rfl _ _ w.heap.size _ _ (0, 0) _ rfl H6.out Tryz.underlying30 rfl (by kernel_rfl)) rfl ?_
                    exact gives_cast (s := Stp.nil) (b := false) ⟨none, 0, rfl, World.ownsRow_nil _ _ _ _, HB6.out⟩ NO.out.1 NO.out.2
                  | true =>
                    rw [hrb] at HR
                    generalize rdL (wd T 4) = FF at *
                    go_wp2_with (fail)
                    refine HR.out.mono ?_
                    rintro e w9 ⟨A9, c9, rfl, own9, bel9⟩
                    have hs9 := bel9.size
                    have r9 := (bel9.block b5 (by omega)).trans SF.out
                    have r10 := set_five r9 (.slice A9 FF.length c9)
                    have g5 := cell_of_row _ _ 5 _ _ (0, 0) r9; have g5' := frozen_of_row _ _ 5 _ _ r9
                    have x0 := cell_of_row _ _ 0 _ _ (0, 0) r9; have x1 := cell_of_row _ _ 1 _ _ (0, 0) r9; have x2 := cell_of_row _ _ 2 _ _ (0, 0) r9
                    have x3 := cell_of_row _ _ 3 _ _ (0, 0) r9; have x4 := cell_of_row _ _ 4 _ _ (0, 0) r9
                    obtain ⟨w10, hw10⟩ : ∃ w10, w10 = w9.setCell ⟨b5, 5, none⟩ (.slice A9 FF.length c9) := ⟨_, rfl⟩
                    have HO10 : Hid (w10.ownsRow wf.heap.size 2 1 (.slice A9 FF.length c9) FF.length (FF.map (Value.int .i64))) := Lib.hid (by rw [hw10]; exact ownsRow_setCell_below own9 (a := ⟨b5, 5, none⟩) (by show b5 < wf.heap.size; omega) _)
                    have HB10 : Hid (Below w.heap.size w w10) := Lib.hid (by rw [hw10]; exact (HBF.out.trans (bel9.mono (by omega))).setCell (p := ⟨b5, 5, none⟩) (Nat.le_of_lt hl2) _)
                    have R10 : Hid (w10.heap[b5]? = some (.cells #[Value.int .i64 (k : Int), Value.int .i64 v0, Value.int .i64 (-1), Value.int .i64 v1, Value.int .i64 v2, Value.slice A9 FF.length c9] 30 (0, 0))) := Lib.hid (by rw [hw10]; exact r10)
                    have P10 : Hid (w10.heap[w.heap.size]? = some (.cells #[Value.int .i64 0, Value.int .i64 0, Value.int .i64 0, Value.int .i64 0, Value.int .i64 0, Value.slice none 0 0] 30 (0, 0))) := Lib.hid (by rw [hw10]; exact (heap_setCell_other w9 ⟨b5, 5, none⟩ w.heap.size _ (Nat.ne_of_lt hl2)).trans ((bel9.block w.heap.size (by omega)).trans PF.out))
                    have hs10 : w10.heap.size = w9.heap.size := by rw [hw10]; simp
                    have HST := Lib.hid (sStepText_any k v0 (-1) v1 v2 A9 FF.length c9 FF w10 (RdI.of_own HO10.out))
                    clear own9 bel9 r9 r10 HR
                    go_wp2_with (fail)
                    rw [← hw10]
                    clear hw10 g5 g5' x0 x1 x2 x3 x4
                    refine HST.out.mono ?_
                    rintro e w11 ⟨rfl, bel11⟩
                    have hs11 := bel11.size
                    have p11 := (bel11.block w.heap.size (by omega)).trans P10.out
                    have HB11 := Lib.hid (HB10.out.trans (bel11.mono (by omega)))
                    cases heq : ((stT (k : Int) v0 (-1) v1 v2 FF).toList == t.toList) with
                    | false =>
                      generalize hR : stT (k : Int) v0 (-1) v1 v2 FF = R at *
                      have NO := Lib.hid (zero_of (fun h => by have h1 := HEQ.out h; rw [← HMD.out h] at h1; simp only [hR] at h1; rw [heq] at h1; exact absurd h1 (by decide)))
                      have qz := p11
                      have e0 := cell_of_row _ _ 0 _ _ (0, 0) qz; have e1 := cell_of_row _ _ 1 _ _ (0, 0) qz; have e2 := cell_of_row _ _ 2 _ _ (0, 0) qz; have e3 := cell_of_row _ _ 3 _ _ (0, 0) qz; have e4 := cell_of_row _ _ 4 _ _ (0, 0) qz; have e5 := cell_of_row _ _ 5 _ _ (0, 0) qz
                      have g0 := frozen_of_row _ _ 0 _ _ qz; have g1 := frozen_of_row _ _ 1 _ _ qz; have g2 := frozen_of_row _ _ 2 _ _ qz; have g3 := frozen_of_row _ _ 3 _ _ qz; have g4 := frozen_of_row _ _ 4 _ _ qz; have g5 := frozen_of_row _ _ 5 _ _ qz
                      have H6 := Lib.hid (set6_at qz (.int .i64 0) (.int .i64 0) (.int .i64 0) (.int .i64 0) (.int .i64 0) (.slice none 0 0))
                      have HB6 := Lib.hid (set6_below HB11.out (Nat.le_refl _) (.int .i64 0) (.int .i64 0) (.int .i64 0) (.int .i64 0) (.int .i64 0) (.slice none 0 0))
                      clear qz
                      go_wp2
                      (try simp only [Exit.inBlock, Exit.then])
                      refine bodyPost_ret (results_cell_tmpR rfl _ _ w.heap.size _ _ (0, 0) _ rfl H6.out Tryz.underlying30 rfl (by kernel_rfl)) rfl ?_
                      exact gives_cast (s := Stp.nil) (b := false) ⟨none, 0, rfl, World.ownsRow_nil _ _ _ _, HB6.out⟩ NO.out.1 NO.out.2
                    | true =>
                      have HST2 := Lib.hid (step_of (t := t) (s := ⟨k, v0, (-1), v1, v2, FF⟩) heq hr1 htn)
                      have r11 := (bel11.block b5 (by omega)).trans R10.out
                      generalize stT (k : Int) v0 (-1) v1 v2 FF = R at *
                      have e0 := cell_of_row _ _ 0 _ _ (0, 0) p11; have e1 := cell_of_row _ _ 1 _ _ (0, 0) p11; have e2 := cell_of_row _ _ 2 _ _ (0, 0) p11; have e3 := cell_of_row _ _ 3 _ _ (0, 0) p11; have e4 := cell_of_row _ _ 4 _ _ (0, 0) p11; have e5 := cell_of_row _ _ 5 _ _ (0, 0) p11
                      have g0 := frozen_of_row _ _ 0 _ _ p11; have g1 := frozen_of_row _ _ 1 _ _ p11; have g2 := frozen_of_row _ _ 2 _ _ p11; have g3 := frozen_of_row _ _ 3 _ _ p11; have g4 := frozen_of_row _ _ 4 _ _ p11; have g5 := frozen_of_row _ _ 5 _ _ p11
                      have x0 := cell_of_row _ _ 0 _ _ (0, 0) r11; have x1 := cell_of_row _ _ 1 _ _ (0, 0) r11; have x2 := cell_of_row _ _ 2 _ _ (0, 0) r11; have x3 := cell_of_row _ _ 3 _ _ (0, 0) r11; have x4 := cell_of_row _ _ 4 _ _ (0, 0) r11; have x5 := cell_of_row _ _ 5 _ _ (0, 0) r11
                      have H6 := Lib.hid (set6_at p11 (.int .i64 (k : Int)) (.int .i64 v0) (.int .i64 (-1)) (.int .i64 v1) (.int .i64 v2) (.slice A9 FF.length c9))
                      have HB6 := Lib.hid (set6_below HB11.out (Nat.le_refl _) (.int .i64 (k : Int)) (.int .i64 v0) (.int .i64 (-1)) (.int .i64 v1) (.int .i64 v2) (.slice A9 FF.length c9))
                      have HO11 := Lib.hid (set6_own (own_below HO10.out bel11 (by omega)) (show w.heap.size < wf.heap.size by omega) (.int .i64 (k : Int)) (.int .i64 v0) (.int .i64 (-1)) (.int .i64 v1) (.int .i64 v2) (.slice A9 FF.length c9))
                      clear p11 r11 bel11 HST
                      go_wp2
                      (try simp only [Exit.inBlock, Exit.then])
                      refine bodyPost_ret (results_cell_tmpR rfl _ _ w.heap.size _ _ (0, 0) _ rfl H6.out Tryz.underlying30 rfl (by kernel_rfl)) rfl ?_
                      exact gives_cast (s := ⟨k, v0, (-1), v1, v2, FF⟩) (b := true) ⟨A9, c9, rfl, HO11.out.mono (by omega), HB6.out⟩ HST2.out.1 HST2.out.2
                · obtain rfl : m = 4 := by have := B4.out; omega
                  obtain rfl : Y4 = 4 := by have := B4.out; omega
                  obtain rfl : Y2 = 5 := by have := B1.out; have := B2.out; omega
                  obtain rfl : Y3 = 6 := by have := B3.out; omega
                  obtain ⟨gN, capN, hgN, hloN, hltN⟩ := HO.out.form (by decide)
                  have hAr : Ar = some ⟨gN, 0, none⟩ ∧ cr = capN := by injection hgN with x y z; exact ⟨x, z⟩
                  obtain ⟨rfl, rfl⟩ := hAr
                  have hgb : gN ≠ b5 := by omega
                  have n0 : wr.cell? ⟨gN, 0, none⟩ = some (.int .i64 (wdN T 1)) := by rw [HO.out.cellAt 0 (by decide), wdV_at (by decide)]
                  have n1 : wr.cell? ⟨gN, 1, none⟩ = some (.int .i64 (wdN T 2)) := by rw [HO.out.cellAt 1 (by decide), wdV_at (by decide)]
                  have n2 : wr.cell? ⟨gN, 2, none⟩ = some (.int .i64 (wdN T 3)) := by rw [HO.out.cellAt 2 (by decide), wdV_at (by decide)]
                  have n3 : wr.cell? ⟨gN, 3, none⟩ = some (.int .i64 (wdN T 4)) := by rw [HO.out.cellAt 3 (by decide), wdV_at (by decide)]
                  have HMD : Hid (rsB t = true → (⟨k, (wdN T 1), (wdN T 2), (wdN T 3), (wdN T 4), (rdL (wd T 5))⟩ : Stp) = lkS t) := Lib.hid fun h => by rw [← (HM1.out h).2.2.2.2]; rfl
                  have HRB : Hid (rsB t = true → rdB (wd T 5) = true) := Lib.hid fun h => by have h1 := (HM1.out h).2.2.2.1; first | exact h1 trivial | exact h1 rfl
                  generalize wdN T 1 = v0 at *
                  generalize wdN T 2 = v1 at *
                  generalize wdN T 3 = v2 at *
                  generalize wdN T 4 = v3 at *
                  have d0 := cell_of_row _ _ 0 _ _ (0, 0) hk5; have d1 := cell_of_row _ _ 1 _ _ (0, 0) hk5; have d2 := cell_of_row _ _ 2 _ _ (0, 0) hk5; have d3 := cell_of_row _ _ 3 _ _ (0, 0) hk5; have d4 := cell_of_row _ _ 4 _ _ (0, 0) hk5
                  have f1 := frozen_of_row _ _ 1 _ _ hk5; have f2 := frozen_of_row _ _ 2 _ _ hk5; have f3 := frozen_of_row _ _ 3 _ _ hk5; have f4 := frozen_of_row _ _ 4 _ _ hk5
                  have l1 := ((far_cellR (w := wr) (a := ⟨b5, 1, none⟩) (p := ⟨gN, 1, none⟩) (u := .int .i64 v0) hgb).trans n1)
                  have l2 := ((far_cellR (w := (wr.setCell ⟨b5, 1, none⟩ (.int .i64 v0))) (a := ⟨b5, 2, none⟩) (p := ⟨gN, 2, none⟩) (u := .int .i64 v1) hgb).trans ((far_cellR (w := wr) (a := ⟨b5, 1, none⟩) (p := ⟨gN, 2, none⟩) (u := .int .i64 v0) hgb).trans n2))
                  have l3 := ((far_cellR (w := ((wr.setCell ⟨b5, 1, none⟩ (.int .i64 v0)).setCell ⟨b5, 2, none⟩ (.int .i64 v1))) (a := ⟨b5, 3, none⟩) (p := ⟨gN, 3, none⟩) (u := .int .i64 v2) hgb).trans ((far_cellR (w := (wr.setCell ⟨b5, 1, none⟩ (.int .i64 v0))) (a := ⟨b5, 2, none⟩) (p := ⟨gN, 3, none⟩) (u := .int .i64 v1) hgb).trans ((far_cellR (w := wr) (a := ⟨b5, 1, none⟩) (p := ⟨gN, 3, none⟩) (u := .int .i64 v0) hgb).trans n3)))
                  have k0 := heap_setCell_same _ b5 1 _ _ (.int .i64 v0) hk5
                  have k1 := heap_setCell_same _ b5 2 _ _ (.int .i64 v1) k0
                  have k2 := heap_setCell_same _ b5 3 _ _ (.int .i64 v2) k1
                  have k3 := heap_setCell_same _ b5 4 _ _ (.int .i64 v3) k2
                  obtain ⟨wf, hwf⟩ : ∃ wf, wf = ((((wr.setCell ⟨b5, 1, none⟩ (.int .i64 v0)).setCell ⟨b5, 2, none⟩ (.int .i64 v1)).setCell ⟨b5, 3, none⟩ (.int .i64 v2)).setCell ⟨b5, 4, none⟩ (.int .i64 v3)) := ⟨_, rfl⟩
                  have hSf : wf.heap[b5]? = some (.cells #[Value.int .i64 (k : Int), Value.int .i64 v0, Value.int .i64 v1, Value.int .i64 v2, Value.int .i64 v3, Value.slice none 0 0] 30 (0, 0)) := by rw [hwf]; simpa using k3
                  have hBf : Below b5 wr wf := by rw [hwf]; exact (((((Below.refl b5 wr).setCell (p := ⟨b5, 1, none⟩) (Nat.le_refl _) (.int .i64 v0)).setCell (p := ⟨b5, 2, none⟩) (Nat.le_refl _) (.int .i64 v1)).setCell (p := ⟨b5, 3, none⟩) (Nat.le_refl _) (.int .i64 v2)).setCell (p := ⟨b5, 4, none⟩) (Nat.le_refl _) (.int .i64 v3))
                  have SF := Lib.hid hSf
                  have PF := Lib.hid ((hBf.block w.heap.size hl2).trans PQ.out)
                  have HBF := Lib.hid (HBQ.out.trans (hBf.mono (by omega)))
                  have HTF : Hid (∀ m, m < T.length → wf.cell? ⟨gT, m, none⟩ = some (.string (wd T m))) := Lib.hid fun m hm => (hBf.cell (p := ⟨gT, m, none⟩) hltT).trans (HTQ.out m hm)
                  have hsf := hBf.size
                  have j0 : wf.cell? ⟨b5, 0, none⟩ = some (.int .i64 (k : Int)) := cell_of_row _ _ 0 _ _ (0, 0) hSf
                  clear hBf hSf hk5 PQ HBQ HTQ HM1 k0 k1 k2 k3
                  go_wp2_with (fail)
                  rw [← hwf]
                  clear hwf d0 d1 d2 d3 d4 f1 f2 f3 f4 n0 n1 n2 n3 l1 l2 l3
                  refine (HU.out wf).mono ?_
                  rintro e w' ⟨rfl, rfl⟩
                  have tw := HTF.out 5 (by have := HLW.out; omega)
                  have hlwt : (5 : Int) < (T.length : Int) := by have := HLW.out; omega
                  have HR := Lib.hid (sReadForm_any (wd T 5) wf (HWS.out 5))
                  cases hrb : rdB (wd T 5) with
                  | false =>
                    rw [hrb] at HR
                    go_wp2_with (fail)
                    refine HR.out.mono ?_
                    rintro e w9 ⟨A9, c9, rfl, _, bel9⟩
                    have NO := Lib.hid (zero_of (fun h => by have := HRB.out h; rw [hrb] at this; exact absurd this (by decide)))
                    have qz := (bel9.block w.heap.size (by omega)).trans PF.out
                    have e0 := cell_of_row _ _ 0 _ _ (0, 0) qz; have e1 := cell_of_row _ _ 1 _ _ (0, 0) qz; have e2 := cell_of_row _ _ 2 _ _ (0, 0) qz; have e3 := cell_of_row _ _ 3 _ _ (0, 0) qz; have e4 := cell_of_row _ _ 4 _ _ (0, 0) qz; have e5 := cell_of_row _ _ 5 _ _ (0, 0) qz
                    have g0 := frozen_of_row _ _ 0 _ _ qz; have g1 := frozen_of_row _ _ 1 _ _ qz; have g2 := frozen_of_row _ _ 2 _ _ qz; have g3 := frozen_of_row _ _ 3 _ _ qz; have g4 := frozen_of_row _ _ 4 _ _ qz; have g5 := frozen_of_row _ _ 5 _ _ qz
                    have H6 := Lib.hid (set6_at qz (.int .i64 0) (.int .i64 0) (.int .i64 0) (.int .i64 0) (.int .i64 0) (.slice none 0 0))
                    have HB6 := Lib.hid (set6_below (HBF.out.trans (bel9.mono (by omega))) (Nat.le_refl _) (.int .i64 0) (.int .i64 0) (.int .i64 0) (.int .i64 0) (.int .i64 0) (.slice none 0 0))
                    clear qz
                    go_wp2
                    (try simp only [Exit.inBlock, Exit.then])
                    refine bodyPost_ret (results_cell_tmpR rfl _ _ w.heap.size _ _ (0, 0) _ rfl H6.out Tryz.underlying30 rfl (by kernel_rfl)) rfl ?_
                    exact gives_cast (s := Stp.nil) (b := false) ⟨none, 0, rfl, World.ownsRow_nil _ _ _ _, HB6.out⟩ NO.out.1 NO.out.2
                  | true =>
                    rw [hrb] at HR
                    generalize rdL (wd T 5) = FF at *
                    go_wp2_with (fail)
                    refine HR.out.mono ?_
                    rintro e w9 ⟨A9, c9, rfl, own9, bel9⟩
                    have hs9 := bel9.size
                    have r9 := (bel9.block b5 (by omega)).trans SF.out
                    have r10 := set_five r9 (.slice A9 FF.length c9)
                    have g5 := cell_of_row _ _ 5 _ _ (0, 0) r9; have g5' := frozen_of_row _ _ 5 _ _ r9
                    have x0 := cell_of_row _ _ 0 _ _ (0, 0) r9; have x1 := cell_of_row _ _ 1 _ _ (0, 0) r9; have x2 := cell_of_row _ _ 2 _ _ (0, 0) r9
                    have x3 := cell_of_row _ _ 3 _ _ (0, 0) r9; have x4 := cell_of_row _ _ 4 _ _ (0, 0) r9
                    obtain ⟨w10, hw10⟩ : ∃ w10, w10 = w9.setCell ⟨b5, 5, none⟩ (.slice A9 FF.length c9) := ⟨_, rfl⟩
                    have HO10 : Hid (w10.ownsRow wf.heap.size 2 1 (.slice A9 FF.length c9) FF.length (FF.map (Value.int .i64))) := Lib.hid (by rw [hw10]; exact ownsRow_setCell_below own9 (a := ⟨b5, 5, none⟩) (by show b5 < wf.heap.size; omega) _)
                    have HB10 : Hid (Below w.heap.size w w10) := Lib.hid (by rw [hw10]; exact (HBF.out.trans (bel9.mono (by omega))).setCell (p := ⟨b5, 5, none⟩) (Nat.le_of_lt hl2) _)
                    have R10 : Hid (w10.heap[b5]? = some (.cells #[Value.int .i64 (k : Int), Value.int .i64 v0, Value.int .i64 v1, Value.int .i64 v2, Value.int .i64 v3, Value.slice A9 FF.length c9] 30 (0, 0))) := Lib.hid (by rw [hw10]; exact r10)
                    have P10 : Hid (w10.heap[w.heap.size]? = some (.cells #[Value.int .i64 0, Value.int .i64 0, Value.int .i64 0, Value.int .i64 0, Value.int .i64 0, Value.slice none 0 0] 30 (0, 0))) := Lib.hid (by rw [hw10]; exact (heap_setCell_other w9 ⟨b5, 5, none⟩ w.heap.size _ (Nat.ne_of_lt hl2)).trans ((bel9.block w.heap.size (by omega)).trans PF.out))
                    have hs10 : w10.heap.size = w9.heap.size := by rw [hw10]; simp
                    have HST := Lib.hid (sStepText_any k v0 v1 v2 v3 A9 FF.length c9 FF w10 (RdI.of_own HO10.out))
                    clear own9 bel9 r9 r10 HR
                    go_wp2_with (fail)
                    rw [← hw10]
                    clear hw10 g5 g5' x0 x1 x2 x3 x4
                    refine HST.out.mono ?_
                    rintro e w11 ⟨rfl, bel11⟩
                    have hs11 := bel11.size
                    have p11 := (bel11.block w.heap.size (by omega)).trans P10.out
                    have HB11 := Lib.hid (HB10.out.trans (bel11.mono (by omega)))
                    cases heq : ((stT (k : Int) v0 v1 v2 v3 FF).toList == t.toList) with
                    | false =>
                      generalize hR : stT (k : Int) v0 v1 v2 v3 FF = R at *
                      have NO := Lib.hid (zero_of (fun h => by have h1 := HEQ.out h; rw [← HMD.out h] at h1; simp only [hR] at h1; rw [heq] at h1; exact absurd h1 (by decide)))
                      have qz := p11
                      have e0 := cell_of_row _ _ 0 _ _ (0, 0) qz; have e1 := cell_of_row _ _ 1 _ _ (0, 0) qz; have e2 := cell_of_row _ _ 2 _ _ (0, 0) qz; have e3 := cell_of_row _ _ 3 _ _ (0, 0) qz; have e4 := cell_of_row _ _ 4 _ _ (0, 0) qz; have e5 := cell_of_row _ _ 5 _ _ (0, 0) qz
                      have g0 := frozen_of_row _ _ 0 _ _ qz; have g1 := frozen_of_row _ _ 1 _ _ qz; have g2 := frozen_of_row _ _ 2 _ _ qz; have g3 := frozen_of_row _ _ 3 _ _ qz; have g4 := frozen_of_row _ _ 4 _ _ qz; have g5 := frozen_of_row _ _ 5 _ _ qz
                      have H6 := Lib.hid (set6_at qz (.int .i64 0) (.int .i64 0) (.int .i64 0) (.int .i64 0) (.int .i64 0) (.slice none 0 0))
                      have HB6 := Lib.hid (set6_below HB11.out (Nat.le_refl _) (.int .i64 0) (.int .i64 0) (.int .i64 0) (.int .i64 0) (.int .i64 0) (.slice none 0 0))
                      clear qz
                      go_wp2
                      (try simp only [Exit.inBlock, Exit.then])
                      refine bodyPost_ret (results_cell_tmpR rfl _ _ w.heap.size _ _ (0, 0) _ rfl H6.out Tryz.underlying30 rfl (by kernel_rfl)) rfl ?_
                      exact gives_cast (s := Stp.nil) (b := false) ⟨none, 0, rfl, World.ownsRow_nil _ _ _ _, HB6.out⟩ NO.out.1 NO.out.2
                    | true =>
                      have HST2 := Lib.hid (step_of (t := t) (s := ⟨k, v0, v1, v2, v3, FF⟩) heq hr1 htn)
                      have r11 := (bel11.block b5 (by omega)).trans R10.out
                      generalize stT (k : Int) v0 v1 v2 v3 FF = R at *
                      have e0 := cell_of_row _ _ 0 _ _ (0, 0) p11; have e1 := cell_of_row _ _ 1 _ _ (0, 0) p11; have e2 := cell_of_row _ _ 2 _ _ (0, 0) p11; have e3 := cell_of_row _ _ 3 _ _ (0, 0) p11; have e4 := cell_of_row _ _ 4 _ _ (0, 0) p11; have e5 := cell_of_row _ _ 5 _ _ (0, 0) p11
                      have g0 := frozen_of_row _ _ 0 _ _ p11; have g1 := frozen_of_row _ _ 1 _ _ p11; have g2 := frozen_of_row _ _ 2 _ _ p11; have g3 := frozen_of_row _ _ 3 _ _ p11; have g4 := frozen_of_row _ _ 4 _ _ p11; have g5 := frozen_of_row _ _ 5 _ _ p11
                      have x0 := cell_of_row _ _ 0 _ _ (0, 0) r11; have x1 := cell_of_row _ _ 1 _ _ (0, 0) r11; have x2 := cell_of_row _ _ 2 _ _ (0, 0) r11; have x3 := cell_of_row _ _ 3 _ _ (0, 0) r11; have x4 := cell_of_row _ _ 4 _ _ (0, 0) r11; have x5 := cell_of_row _ _ 5 _ _ (0, 0) r11
                      have H6 := Lib.hid (set6_at p11 (.int .i64 (k : Int)) (.int .i64 v0) (.int .i64 v1) (.int .i64 v2) (.int .i64 v3) (.slice A9 FF.length c9))
                      have HB6 := Lib.hid (set6_below HB11.out (Nat.le_refl _) (.int .i64 (k : Int)) (.int .i64 v0) (.int .i64 v1) (.int .i64 v2) (.int .i64 v3) (.slice A9 FF.length c9))
                      have HO11 := Lib.hid (set6_own (own_below HO10.out bel11 (by omega)) (show w.heap.size < wf.heap.size by omega) (.int .i64 (k : Int)) (.int .i64 v0) (.int .i64 v1) (.int .i64 v2) (.int .i64 v3) (.slice A9 FF.length c9))
                      clear p11 r11 bel11 HST
                      go_wp2
                      (try simp only [Exit.inBlock, Exit.then])
                      refine bodyPost_ret (results_cell_tmpR rfl _ _ w.heap.size _ _ (0, 0) _ rfl H6.out Tryz.underlying30 rfl (by kernel_rfl)) rfl ?_
                      exact gives_cast (s := ⟨k, v0, v1, v2, v3, FF⟩) (b := true) ⟨A9, c9, rfl, HO11.out.mono (by omega), HB6.out⟩ HST2.out.1 HST2.out.2
          · have hne : ((T.length : Int) != Y3) = true := by simp [hlw]
            have NO := Lib.hid (zero_of (fun h => by have h1 := (HM1.out h).2.1; unfold wdW at h1; have := B1.out; have := B2.out; have := B3.out; simp at h1; omega))
            have qz := PR.out
            have e0 := cell_of_row _ _ 0 _ _ (0, 0) qz; have e1 := cell_of_row _ _ 1 _ _ (0, 0) qz; have e2 := cell_of_row _ _ 2 _ _ (0, 0) qz; have e3 := cell_of_row _ _ 3 _ _ (0, 0) qz; have e4 := cell_of_row _ _ 4 _ _ (0, 0) qz; have e5 := cell_of_row _ _ 5 _ _ (0, 0) qz
            have g0 := frozen_of_row _ _ 0 _ _ qz; have g1 := frozen_of_row _ _ 1 _ _ qz; have g2 := frozen_of_row _ _ 2 _ _ qz; have g3 := frozen_of_row _ _ 3 _ _ qz; have g4 := frozen_of_row _ _ 4 _ _ qz; have g5 := frozen_of_row _ _ 5 _ _ qz
            have H6 := Lib.hid (set6_at qz (.int .i64 0) (.int .i64 0) (.int .i64 0) (.int .i64 0) (.int .i64 0) (.slice none 0 0))
            have HB6 := Lib.hid (set6_below HBR.out (Nat.le_refl _) (.int .i64 0) (.int .i64 0) (.int .i64 0) (.int .i64 0) (.int .i64 0) (.slice none 0 0))
            clear qz
            go_wp2
            (try simp only [Exit.inBlock, Exit.then])
            refine bodyPost_ret (results_cell_tmpR rfl _ _ w.heap.size _ _ (0, 0) _ rfl H6.out Tryz.underlying30 rfl (by kernel_rfl)) rfl ?_
            exact gives_cast (s := Stp.nil) (b := false) ⟨none, 0, rfl, World.ownsRow_nil _ _ _ _, HB6.out⟩ NO.out.1 NO.out.2
        | false =>
          rw [hz] at HU HM1
          by_cases hlw : (T.length : Int) = Y2
          · have hne : ((T.length : Int) != Y2) = false := by simp [hlw]
            have hM0 : ((Y4.toNat : Nat) : Int) = Y4 := by have := B4.out; omega
            have HLW := Lib.hid hlw
            have own9 := ints_made wl
            have bel9 := (Below.refl wl.heap.size wl).alloc (Nat.le_refl _) (.cells #[] 2)
            have HO9 := Lib.hid own9; have HB9 := Lib.hid bel9
            have HLT : Hid (∀ m : Nat, (m : Int) ≤ Y4 → m < T.length) := Lib.hid fun m hm => by have := B4.out; have := B3.out; have := B2.out; have := B1.out; omega
            clear own9 bel9 hlw
            go_wp2_with (fail)
            go_loopw [10, 11] (fun o i wr => ∃ (m j : Nat) (Ar : Option Addr) (cr : Nat), j = m + 1 ∧ (m : Int) ≤ Y4 ∧ i = .int .i64 (j : Int) ∧ o = .slice Ar m cr ∧ wr.ownsRow wl.heap.size 2 1 (.slice Ar m cr) m (wdV T m) ∧ Below wl.heap.size wl wr) (fun _ i _ => Y4.toNat + 1 - (intOf i).toNat)
            case atStart => exact ⟨0, 1, _, _, rfl, by have := B4.out; omega, rfl, rfl, HO9.out, HB9.out⟩
            case round =>
              obtain ⟨m, j, Ar, cr, hj, hmY, rfl, rfl, ho, hb⟩ := hrel
              have HO := Lib.hid ho; have HB := Lib.hid hb
              have hsq := hb.size
              have HJ := Lib.hid hj
              clear ho hb hj
              by_cases hlt : (j : Int) ≤ Y4
              · have hd2 : decide ((j : Int) ≤ Y4) = true := decide_eq_true hlt
                have hjl := HLT.out j hlt
                have hjl' : (j : Int) < (T.length : Int) := by omega
                have tj := (HB.out.cell (p := ⟨gT, j, none⟩) (by show gT < wl.heap.size; omega)).trans (HTR.out j hjl)
                have HN := Lib.hid (readNumber_any (wd T j) wr (by have := HWS.out j; unfold maxLen; omega))
                cases hok : (rdN (wd T j)).2 with
                | false =>
                  rw [hok] at HN
                  go_wp2_with (fail)
                  refine HN.out.mono ?_
                  rintro e w' ⟨rfl, rfl⟩
                  have NO := Lib.hid (zero_of (fun h => by have h1 := (HM1.out h).2.2.1 j (by have := HJ.out; omega) (by have := B4.out; omega); unfold wdB at h1; rw [hok] at h1; exact absurd h1 (by decide)))
                  have qz := (HB.out.block w.heap.size (by omega)).trans PR.out
                  have e0 := cell_of_row _ _ 0 _ _ (0, 0) qz; have e1 := cell_of_row _ _ 1 _ _ (0, 0) qz; have e2 := cell_of_row _ _ 2 _ _ (0, 0) qz; have e3 := cell_of_row _ _ 3 _ _ (0, 0) qz; have e4 := cell_of_row _ _ 4 _ _ (0, 0) qz; have e5 := cell_of_row _ _ 5 _ _ (0, 0) qz
                  have g0 := frozen_of_row _ _ 0 _ _ qz; have g1 := frozen_of_row _ _ 1 _ _ qz; have g2 := frozen_of_row _ _ 2 _ _ qz; have g3 := frozen_of_row _ _ 3 _ _ qz; have g4 := frozen_of_row _ _ 4 _ _ qz; have g5 := frozen_of_row _ _ 5 _ _ qz
                  have H6 := Lib.hid (set6_at qz (.int .i64 0) (.int .i64 0) (.int .i64 0) (.int .i64 0) (.int .i64 0) (.slice none 0 0))
                  have HB6 := Lib.hid (set6_below (HBR.out.trans (HB.out.mono (by omega))) (Nat.le_refl _) (.int .i64 0) (.int .i64 0) (.int .i64 0) (.int .i64 0) (.int .i64 0) (.slice none 0 0))
                  clear qz
                  go_wp2
                  (try simp only [Exit.inBlock, Exit.then])
                  refine bodyPost_ret (results_cell_tmpR rfl _ _ w.heap.size _ _ (0, 0) _ rfl H6.out Tryz.underlying30 rfl (by kernel_rfl)) rfl ?_
                  exact gives_cast (s := Stp.nil) (b := false) ⟨none, 0, rfl, World.ownsRow_nil _ _ _ _, HB6.out⟩ NO.out.1 NO.out.2
                | true =>
                  rw [hok] at HN
                  have EV : Hid (((rdN (wd T j)).1 : Int) = wdN T (m + 1)) := Lib.hid (by rw [HJ.out]; rfl)
                  rw [EV.out] at HN
                  generalize hv : wdN T (m + 1) = v at *
                  have HV := Lib.hid hv
                  clear EV hok hv
                  have hY2 : Y4 ≤ 4 := by have := B4.out; omega
                  have hj1 : IntKind.i64.wrap ((j : Int) + 1) = (j : Int) + 1 := IntWalk.i64_in _ (by omega)
                  go_wp2_with (fail)
                  refine HN.out.mono ?_
                  rintro e w' ⟨rfl, rfl⟩
                  clear HN tj
                  have hm4 : m ≤ 3 := by have := HJ.out; omega
                  go_wp2_with (at_builtin; refine wpList_append_lies _ rfl _ _ _ rfl wl.heap.size 2 i0 (.int .i64 0) 1 8 Tryz.underlying28 HI.out HZ0.out HZ1.out HZ2.out rfl (by decide) _ _ _ rfl (HO.out.alloc _) ⟨wr.heap.size, 0, none⟩ 1 1 [.int .i64 v] rfl rfl (cell_one_new _ _ _) (by simp [Value.oneCell']) (by decide) (by simp only [maxLen]; omega) (by omega) (by simp; omega) _ rfl ?_; intro g7 cap7 w7 hown7 hgrow7 hat7 hlt7)
                  have HB7 := Lib.hid ((HB.out.alloc hsq (.cells #[.int .i64 v] 2)).grown hgrow7 (by simp; omega) (fun q hq => (HO.out.lt q hq).1))
                  have HO7 := Lib.hid hown7
                  clear hgrow7 hown7 hat7
                  go_wp2
                  go_roundw
                  case rel => exact ⟨m + 1, j + 1, _, _, by have := HJ.out; omega, by have := HJ.out; omega, by go_num, rfl, by rw [← wdV_step, HV.out]; exact HO7.out, HB7.out⟩
                  case measure => simp [intOf]; omega
              · have hd2 : decide ((j : Int) ≤ Y4) = false := decide_eq_false hlt
                have hmm : (m : Int) = Y4 := by have := HJ.out; omega
                have hk5 := (HB.out.block b5 (by omega)).trans S5.out
                have PQ := Lib.hid ((HB.out.block w.heap.size (by omega)).trans PR.out)
                have HBQ := Lib.hid (HBR.out.trans (HB.out.mono (by omega)))
                have HTQ : Hid (∀ m, m < T.length → wr.cell? ⟨gT, m, none⟩ = some (.string (wd T m))) := Lib.hid fun m hm => (HB.out.cell (p := ⟨gT, m, none⟩) (by show gT < wl.heap.size; omega)).trans (HTR.out m hm)
                have hb5q : b5 < wr.heap.size := by omega
                clear HB9 HO9 PR HBR HTR y0 S5 hlt
                rcases HPK.out with ⟨rfl, rfl⟩ | ⟨rfl, rfl⟩ | ⟨rfl, rfl⟩ | ⟨rfl, rfl⟩ | ⟨rfl, rfl⟩
                · obtain rfl : m = 0 := by have := B4.out; omega
                  obtain rfl : j = 1 := by have := HJ.out; omega
                  obtain rfl : Y4 = 0 := by have := B4.out; omega
                  obtain rfl : Y2 = 1 := by have := B1.out; have := B2.out; omega
                  obtain rfl : Y3 = 2 := by have := B3.out; omega
                  have HMD : Hid (rsB t = true → (⟨k, (-1), (-1), 0, 0, []⟩ : Stp) = lkS t) := Lib.hid fun h => by rw [← (HM1.out h).2.2.2.2]; rfl
                  have d0 := cell_of_row _ _ 0 _ _ (0, 0) hk5; have d1 := cell_of_row _ _ 1 _ _ (0, 0) hk5; have d2 := cell_of_row _ _ 2 _ _ (0, 0) hk5; have d3 := cell_of_row _ _ 3 _ _ (0, 0) hk5; have d4 := cell_of_row _ _ 4 _ _ (0, 0) hk5
                  have f1 := frozen_of_row _ _ 1 _ _ hk5; have f2 := frozen_of_row _ _ 2 _ _ hk5; have f3 := frozen_of_row _ _ 3 _ _ hk5; have f4 := frozen_of_row _ _ 4 _ _ hk5
                  obtain ⟨wf, hwf⟩ : ∃ wf, wf = wr := ⟨_, rfl⟩
                  have hSf := hk5
                  have hBf : Below b5 wr wr := Below.refl _ _
                  rw [← hwf] at hSf
                  have hBf : Below b5 wr wf := by rw [hwf]; exact Below.refl _ _
                  have SF := Lib.hid hSf
                  have PF := Lib.hid ((hBf.block w.heap.size hl2).trans PQ.out)
                  have HBF := Lib.hid (HBQ.out.trans (hBf.mono (by omega)))
                  have HTF : Hid (∀ m, m < T.length → wf.cell? ⟨gT, m, none⟩ = some (.string (wd T m))) := Lib.hid fun m hm => (hBf.cell (p := ⟨gT, m, none⟩) hltT).trans (HTQ.out m hm)
                  have hsf := hBf.size
                  have j0 : wf.cell? ⟨b5, 0, none⟩ = some (.int .i64 (k : Int)) := cell_of_row _ _ 0 _ _ (0, 0) hSf
                  clear hBf hSf hk5 PQ HBQ HTQ HM1 
                  go_wp2_with (fail)
                  rw [← hwf]
                  clear hwf d0 d1 d2 d3 d4 f1 f2 f3 f4  
                  refine (HU.out wf).mono ?_
                  rintro e w' ⟨rfl, rfl⟩
                  have HST := Lib.hid (sStepText_any k (-1) (-1) 0 0 none 0 0 [] wf (RdI.nil _ _ _))
                  have r9 := SF.out
                  have x0 := cell_of_row _ _ 0 _ _ (0, 0) r9; have x1 := cell_of_row _ _ 1 _ _ (0, 0) r9; have x2 := cell_of_row _ _ 2 _ _ (0, 0) r9
                  have x3 := cell_of_row _ _ 3 _ _ (0, 0) r9; have x4 := cell_of_row _ _ 4 _ _ (0, 0) r9; have x5 := cell_of_row _ _ 5 _ _ (0, 0) r9
                  clear r9
                  go_wp2_with (fail)
                  clear x0 x1 x2 x3 x4 x5
                  refine HST.out.mono ?_
                  rintro e w11 ⟨rfl, bel11⟩
                  have hs11 := bel11.size
                  have p11 := (bel11.block w.heap.size (by omega)).trans PF.out
                  have HB11 := Lib.hid (HBF.out.trans (bel11.mono (by omega)))
                  cases heq : ((stT (k : Int) (-1) (-1) 0 0 []).toList == t.toList) with
                  | false =>
                    generalize hR : stT (k : Int) (-1) (-1) 0 0 [] = R at *
                    have NO := Lib.hid (zero_of (fun h => by have h1 := HEQ.out h; rw [← HMD.out h] at h1; simp only [hR] at h1; rw [heq] at h1; exact absurd h1 (by decide)))
                    have qz := p11
                    have e0 := cell_of_row _ _ 0 _ _ (0, 0) qz; have e1 := cell_of_row _ _ 1 _ _ (0, 0) qz; have e2 := cell_of_row _ _ 2 _ _ (0, 0) qz; have e3 := cell_of_row _ _ 3 _ _ (0, 0) qz; have e4 := cell_of_row _ _ 4 _ _ (0, 0) qz; have e5 := cell_of_row _ _ 5 _ _ (0, 0) qz
                    have g0 := frozen_of_row _ _ 0 _ _ qz; have g1 := frozen_of_row _ _ 1 _ _ qz; have g2 := frozen_of_row _ _ 2 _ _ qz; have g3 := frozen_of_row _ _ 3 _ _ qz; have g4 := frozen_of_row _ _ 4 _ _ qz; have g5 := frozen_of_row _ _ 5 _ _ qz
                    have H6 := Lib.hid (set6_at qz (.int .i64 0) (.int .i64 0) (.int .i64 0) (.int .i64 0) (.int .i64 0) (.slice none 0 0))
                    have HB6 := Lib.hid (set6_below HB11.out (Nat.le_refl _) (.int .i64 0) (.int .i64 0) (.int .i64 0) (.int .i64 0) (.int .i64 0) (.slice none 0 0))
                    clear qz
                    go_wp2
                    (try simp only [Exit.inBlock, Exit.then])
                    refine bodyPost_ret (results_cell_tmpR rfl _ _ w.heap.size _ _ (0, 0) _ rfl H6.out Tryz.underlying30 rfl (by kernel_rfl)) rfl ?_
                    exact gives_cast (s := Stp.nil) (b := false) ⟨none, 0, rfl, World.ownsRow_nil _ _ _ _, HB6.out⟩ NO.out.1 NO.out.2
                  | true =>
                    have HST2 := Lib.hid (step_of (t := t) (s := ⟨k, (-1), (-1), 0, 0, []⟩) heq hr1 htn)
                    have r11 := (bel11.block b5 (by omega)).trans SF.out
                    generalize stT (k : Int) (-1) (-1) 0 0 [] = R at *
                    have e0 := cell_of_row _ _ 0 _ _ (0, 0) p11; have e1 := cell_of_row _ _ 1 _ _ (0, 0) p11; have e2 := cell_of_row _ _ 2 _ _ (0, 0) p11; have e3 := cell_of_row _ _ 3 _ _ (0, 0) p11; have e4 := cell_of_row _ _ 4 _ _ (0, 0) p11; have e5 := cell_of_row _ _ 5 _ _ (0, 0) p11
                    have g0 := frozen_of_row _ _ 0 _ _ p11; have g1 := frozen_of_row _ _ 1 _ _ p11; have g2 := frozen_of_row _ _ 2 _ _ p11; have g3 := frozen_of_row _ _ 3 _ _ p11; have g4 := frozen_of_row _ _ 4 _ _ p11; have g5 := frozen_of_row _ _ 5 _ _ p11
                    have x0 := cell_of_row _ _ 0 _ _ (0, 0) r11; have x1 := cell_of_row _ _ 1 _ _ (0, 0) r11; have x2 := cell_of_row _ _ 2 _ _ (0, 0) r11; have x3 := cell_of_row _ _ 3 _ _ (0, 0) r11; have x4 := cell_of_row _ _ 4 _ _ (0, 0) r11; have x5 := cell_of_row _ _ 5 _ _ (0, 0) r11
                    have H6 := Lib.hid (set6_at p11 (.int .i64 (k : Int)) (.int .i64 (-1)) (.int .i64 (-1)) (.int .i64 0) (.int .i64 0) (.slice none 0 0))
                    have HB6 := Lib.hid (set6_below HB11.out (Nat.le_refl _) (.int .i64 (k : Int)) (.int .i64 (-1)) (.int .i64 (-1)) (.int .i64 0) (.int .i64 0) (.slice none 0 0))
                    clear p11 r11 bel11 HST
                    go_wp2
                    (try simp only [Exit.inBlock, Exit.then])
                    refine bodyPost_ret (results_cell_tmpR rfl _ _ w.heap.size _ _ (0, 0) _ rfl H6.out Tryz.underlying30 rfl (by kernel_rfl)) rfl ?_
                    exact gives_cast (s := ⟨k, (-1), (-1), 0, 0, []⟩) (b := true) ⟨none, 0, rfl, World.ownsRow_nil _ _ _ _, HB6.out⟩ HST2.out.1 HST2.out.2
                · obtain rfl : m = 1 := by have := B4.out; omega
                  obtain rfl : Y4 = 1 := by have := B4.out; omega
                  obtain rfl : Y2 = 2 := by have := B1.out; have := B2.out; omega
                  obtain rfl : Y3 = 3 := by have := B3.out; omega
                  obtain ⟨gN, capN, hgN, hloN, hltN⟩ := HO.out.form (by decide)
                  have hAr : Ar = some ⟨gN, 0, none⟩ ∧ cr = capN := by injection hgN with x y z; exact ⟨x, z⟩
                  obtain ⟨rfl, rfl⟩ := hAr
                  have hgb : gN ≠ b5 := by omega
                  have n0 : wr.cell? ⟨gN, 0, none⟩ = some (.int .i64 (wdN T 1)) := by rw [HO.out.cellAt 0 (by decide), wdV_at (by decide)]
                  have HMD : Hid (rsB t = true → (⟨k, (wdN T 1), (-1), 0, 0, []⟩ : Stp) = lkS t) := Lib.hid fun h => by rw [← (HM1.out h).2.2.2.2]; rfl
                  generalize wdN T 1 = v0 at *
                  have d0 := cell_of_row _ _ 0 _ _ (0, 0) hk5; have d1 := cell_of_row _ _ 1 _ _ (0, 0) hk5; have d2 := cell_of_row _ _ 2 _ _ (0, 0) hk5; have d3 := cell_of_row _ _ 3 _ _ (0, 0) hk5; have d4 := cell_of_row _ _ 4 _ _ (0, 0) hk5
                  have f1 := frozen_of_row _ _ 1 _ _ hk5; have f2 := frozen_of_row _ _ 2 _ _ hk5; have f3 := frozen_of_row _ _ 3 _ _ hk5; have f4 := frozen_of_row _ _ 4 _ _ hk5
                  have k0 := heap_setCell_same _ b5 1 _ _ (.int .i64 v0) hk5
                  obtain ⟨wf, hwf⟩ : ∃ wf, wf = (wr.setCell ⟨b5, 1, none⟩ (.int .i64 v0)) := ⟨_, rfl⟩
                  have hSf : wf.heap[b5]? = some (.cells #[Value.int .i64 (k : Int), Value.int .i64 v0, Value.int .i64 (-1), Value.int .i64 0, Value.int .i64 0, Value.slice none 0 0] 30 (0, 0)) := by rw [hwf]; simpa using k0
                  have hBf : Below b5 wr wf := by rw [hwf]; exact ((Below.refl b5 wr).setCell (p := ⟨b5, 1, none⟩) (Nat.le_refl _) (.int .i64 v0))
                  have SF := Lib.hid hSf
                  have PF := Lib.hid ((hBf.block w.heap.size hl2).trans PQ.out)
                  have HBF := Lib.hid (HBQ.out.trans (hBf.mono (by omega)))
                  have HTF : Hid (∀ m, m < T.length → wf.cell? ⟨gT, m, none⟩ = some (.string (wd T m))) := Lib.hid fun m hm => (hBf.cell (p := ⟨gT, m, none⟩) hltT).trans (HTQ.out m hm)
                  have hsf := hBf.size
                  have j0 : wf.cell? ⟨b5, 0, none⟩ = some (.int .i64 (k : Int)) := cell_of_row _ _ 0 _ _ (0, 0) hSf
                  clear hBf hSf hk5 PQ HBQ HTQ HM1 k0
                  go_wp2_with (fail)
                  rw [← hwf]
                  clear hwf d0 d1 d2 d3 d4 f1 f2 f3 f4 n0 
                  refine (HU.out wf).mono ?_
                  rintro e w' ⟨rfl, rfl⟩
                  have HST := Lib.hid (sStepText_any k v0 (-1) 0 0 none 0 0 [] wf (RdI.nil _ _ _))
                  have r9 := SF.out
                  have x0 := cell_of_row _ _ 0 _ _ (0, 0) r9; have x1 := cell_of_row _ _ 1 _ _ (0, 0) r9; have x2 := cell_of_row _ _ 2 _ _ (0, 0) r9
                  have x3 := cell_of_row _ _ 3 _ _ (0, 0) r9; have x4 := cell_of_row _ _ 4 _ _ (0, 0) r9; have x5 := cell_of_row _ _ 5 _ _ (0, 0) r9
                  clear r9
                  go_wp2_with (fail)
                  clear x0 x1 x2 x3 x4 x5
                  refine HST.out.mono ?_
                  rintro e w11 ⟨rfl, bel11⟩
                  have hs11 := bel11.size
                  have p11 := (bel11.block w.heap.size (by omega)).trans PF.out
                  have HB11 := Lib.hid (HBF.out.trans (bel11.mono (by omega)))
                  cases heq : ((stT (k : Int) v0 (-1) 0 0 []).toList == t.toList) with
                  | false =>
                    generalize hR : stT (k : Int) v0 (-1) 0 0 [] = R at *
                    have NO := Lib.hid (zero_of (fun h => by have h1 := HEQ.out h; rw [← HMD.out h] at h1; simp only [hR] at h1; rw [heq] at h1; exact absurd h1 (by decide)))
                    have qz := p11
                    have e0 := cell_of_row _ _ 0 _ _ (0, 0) qz; have e1 := cell_of_row _ _ 1 _ _ (0, 0) qz; have e2 := cell_of_row _ _ 2 _ _ (0, 0) qz; have e3 := cell_of_row _ _ 3 _ _ (0, 0) qz; have e4 := cell_of_row _ _ 4 _ _ (0, 0) qz; have e5 := cell_of_row _ _ 5 _ _ (0, 0) qz
                    have g0 := frozen_of_row _ _ 0 _ _ qz; have g1 := frozen_of_row _ _ 1 _ _ qz; have g2 := frozen_of_row _ _ 2 _ _ qz; have g3 := frozen_of_row _ _ 3 _ _ qz; have g4 := frozen_of_row _ _ 4 _ _ qz; have g5 := frozen_of_row _ _ 5 _ _ qz
                    have H6 := Lib.hid (set6_at qz (.int .i64 0) (.int .i64 0) (.int .i64 0) (.int .i64 0) (.int .i64 0) (.slice none 0 0))
                    have HB6 := Lib.hid (set6_below HB11.out (Nat.le_refl _) (.int .i64 0) (.int .i64 0) (.int .i64 0) (.int .i64 0) (.int .i64 0) (.slice none 0 0))
                    clear qz
                    go_wp2
                    (try simp only [Exit.inBlock, Exit.then])
                    refine bodyPost_ret (results_cell_tmpR rfl _ _ w.heap.size _ _ (0, 0) _ rfl H6.out Tryz.underlying30 rfl (by kernel_rfl)) rfl ?_
                    exact gives_cast (s := Stp.nil) (b := false) ⟨none, 0, rfl, World.ownsRow_nil _ _ _ _, HB6.out⟩ NO.out.1 NO.out.2
                  | true =>
                    have HST2 := Lib.hid (step_of (t := t) (s := ⟨k, v0, (-1), 0, 0, []⟩) heq hr1 htn)
                    have r11 := (bel11.block b5 (by omega)).trans SF.out
                    generalize stT (k : Int) v0 (-1) 0 0 [] = R at *
                    have e0 := cell_of_row _ _ 0 _ _ (0, 0) p11; have e1 := cell_of_row _ _ 1 _ _ (0, 0) p11; have e2 := cell_of_row _ _ 2 _ _ (0, 0) p11; have e3 := cell_of_row _ _ 3 _ _ (0, 0) p11; have e4 := cell_of_row _ _ 4 _ _ (0, 0) p11; have e5 := cell_of_row _ _ 5 _ _ (0, 0) p11
                    have g0 := frozen_of_row _ _ 0 _ _ p11; have g1 := frozen_of_row _ _ 1 _ _ p11; have g2 := frozen_of_row _ _ 2 _ _ p11; have g3 := frozen_of_row _ _ 3 _ _ p11; have g4 := frozen_of_row _ _ 4 _ _ p11; have g5 := frozen_of_row _ _ 5 _ _ p11
                    have x0 := cell_of_row _ _ 0 _ _ (0, 0) r11; have x1 := cell_of_row _ _ 1 _ _ (0, 0) r11; have x2 := cell_of_row _ _ 2 _ _ (0, 0) r11; have x3 := cell_of_row _ _ 3 _ _ (0, 0) r11; have x4 := cell_of_row _ _ 4 _ _ (0, 0) r11; have x5 := cell_of_row _ _ 5 _ _ (0, 0) r11
                    have H6 := Lib.hid (set6_at p11 (.int .i64 (k : Int)) (.int .i64 v0) (.int .i64 (-1)) (.int .i64 0) (.int .i64 0) (.slice none 0 0))
                    have HB6 := Lib.hid (set6_below HB11.out (Nat.le_refl _) (.int .i64 (k : Int)) (.int .i64 v0) (.int .i64 (-1)) (.int .i64 0) (.int .i64 0) (.slice none 0 0))
                    clear p11 r11 bel11 HST
                    go_wp2
                    (try simp only [Exit.inBlock, Exit.then])
                    refine bodyPost_ret (results_cell_tmpR rfl _ _ w.heap.size _ _ (0, 0) _ rfl H6.out Tryz.underlying30 rfl (by kernel_rfl)) rfl ?_
                    exact gives_cast (s := ⟨k, v0, (-1), 0, 0, []⟩) (b := true) ⟨none, 0, rfl, World.ownsRow_nil _ _ _ _, HB6.out⟩ HST2.out.1 HST2.out.2
                · obtain rfl : m = 2 := by have := B4.out; omega
                  obtain rfl : Y4 = 2 := by have := B4.out; omega
                  obtain rfl : Y2 = 3 := by have := B1.out; have := B2.out; omega
                  obtain rfl : Y3 = 4 := by have := B3.out; omega
                  obtain ⟨gN, capN, hgN, hloN, hltN⟩ := HO.out.form (by decide)
                  have hAr : Ar = some ⟨gN, 0, none⟩ ∧ cr = capN := by injection hgN with x y z; exact ⟨x, z⟩
                  obtain ⟨rfl, rfl⟩ := hAr
                  have hgb : gN ≠ b5 := by omega
                  have n0 : wr.cell? ⟨gN, 0, none⟩ = some (.int .i64 (wdN T 1)) := by rw [HO.out.cellAt 0 (by decide), wdV_at (by decide)]
                  have n1 : wr.cell? ⟨gN, 1, none⟩ = some (.int .i64 (wdN T 2)) := by rw [HO.out.cellAt 1 (by decide), wdV_at (by decide)]
                  have HMD : Hid (rsB t = true → (⟨k, (wdN T 1), (-1), (wdN T 2), 0, []⟩ : Stp) = lkS t) := Lib.hid fun h => by rw [← (HM1.out h).2.2.2.2]; rfl
                  generalize wdN T 1 = v0 at *
                  generalize wdN T 2 = v1 at *
                  have d0 := cell_of_row _ _ 0 _ _ (0, 0) hk5; have d1 := cell_of_row _ _ 1 _ _ (0, 0) hk5; have d2 := cell_of_row _ _ 2 _ _ (0, 0) hk5; have d3 := cell_of_row _ _ 3 _ _ (0, 0) hk5; have d4 := cell_of_row _ _ 4 _ _ (0, 0) hk5
                  have f1 := frozen_of_row _ _ 1 _ _ hk5; have f2 := frozen_of_row _ _ 2 _ _ hk5; have f3 := frozen_of_row _ _ 3 _ _ hk5; have f4 := frozen_of_row _ _ 4 _ _ hk5
                  have l1 := ((far_cellR (w := wr) (a := ⟨b5, 1, none⟩) (p := ⟨gN, 1, none⟩) (u := .int .i64 v0) hgb).trans n1)
                  have k0 := heap_setCell_same _ b5 1 _ _ (.int .i64 v0) hk5
                  have k1 := heap_setCell_same _ b5 3 _ _ (.int .i64 v1) k0
                  obtain ⟨wf, hwf⟩ : ∃ wf, wf = ((wr.setCell ⟨b5, 1, none⟩ (.int .i64 v0)).setCell ⟨b5, 3, none⟩ (.int .i64 v1)) := ⟨_, rfl⟩
                  have hSf : wf.heap[b5]? = some (.cells #[Value.int .i64 (k : Int), Value.int .i64 v0, Value.int .i64 (-1), Value.int .i64 v1, Value.int .i64 0, Value.slice none 0 0] 30 (0, 0)) := by rw [hwf]; simpa using k1
                  have hBf : Below b5 wr wf := by rw [hwf]; exact (((Below.refl b5 wr).setCell (p := ⟨b5, 1, none⟩) (Nat.le_refl _) (.int .i64 v0)).setCell (p := ⟨b5, 3, none⟩) (Nat.le_refl _) (.int .i64 v1))
                  have SF := Lib.hid hSf
                  have PF := Lib.hid ((hBf.block w.heap.size hl2).trans PQ.out)
                  have HBF := Lib.hid (HBQ.out.trans (hBf.mono (by omega)))
                  have HTF : Hid (∀ m, m < T.length → wf.cell? ⟨gT, m, none⟩ = some (.string (wd T m))) := Lib.hid fun m hm => (hBf.cell (p := ⟨gT, m, none⟩) hltT).trans (HTQ.out m hm)
                  have hsf := hBf.size
                  have j0 : wf.cell? ⟨b5, 0, none⟩ = some (.int .i64 (k : Int)) := cell_of_row _ _ 0 _ _ (0, 0) hSf
                  clear hBf hSf hk5 PQ HBQ HTQ HM1 k0 k1
                  go_wp2_with (fail)
                  rw [← hwf]
                  clear hwf d0 d1 d2 d3 d4 f1 f2 f3 f4 n0 n1 l1
                  refine (HU.out wf).mono ?_
                  rintro e w' ⟨rfl, rfl⟩
                  have HST := Lib.hid (sStepText_any k v0 (-1) v1 0 none 0 0 [] wf (RdI.nil _ _ _))
                  have r9 := SF.out
                  have x0 := cell_of_row _ _ 0 _ _ (0, 0) r9; have x1 := cell_of_row _ _ 1 _ _ (0, 0) r9; have x2 := cell_of_row _ _ 2 _ _ (0, 0) r9
                  have x3 := cell_of_row _ _ 3 _ _ (0, 0) r9; have x4 := cell_of_row _ _ 4 _ _ (0, 0) r9; have x5 := cell_of_row _ _ 5 _ _ (0, 0) r9
                  clear r9
                  go_wp2_with (fail)
                  clear x0 x1 x2 x3 x4 x5
                  refine HST.out.mono ?_
                  rintro e w11 ⟨rfl, bel11⟩
                  have hs11 := bel11.size
                  have p11 := (bel11.block w.heap.size (by omega)).trans PF.out
                  have HB11 := Lib.hid (HBF.out.trans (bel11.mono (by omega)))
                  cases heq : ((stT (k : Int) v0 (-1) v1 0 []).toList == t.toList) with
                  | false =>
                    generalize hR : stT (k : Int) v0 (-1) v1 0 [] = R at *
                    have NO := Lib.hid (zero_of (fun h => by have h1 := HEQ.out h; rw [← HMD.out h] at h1; simp only [hR] at h1; rw [heq] at h1; exact absurd h1 (by decide)))
                    have qz := p11
                    have e0 := cell_of_row _ _ 0 _ _ (0, 0) qz; have e1 := cell_of_row _ _ 1 _ _ (0, 0) qz; have e2 := cell_of_row _ _ 2 _ _ (0, 0) qz; have e3 := cell_of_row _ _ 3 _ _ (0, 0) qz; have e4 := cell_of_row _ _ 4 _ _ (0, 0) qz; have e5 := cell_of_row _ _ 5 _ _ (0, 0) qz
                    have g0 := frozen_of_row _ _ 0 _ _ qz; have g1 := frozen_of_row _ _ 1 _ _ qz; have g2 := frozen_of_row _ _ 2 _ _ qz; have g3 := frozen_of_row _ _ 3 _ _ qz; have g4 := frozen_of_row _ _ 4 _ _ qz; have g5 := frozen_of_row _ _ 5 _ _ qz
                    have H6 := Lib.hid (set6_at qz (.int .i64 0) (.int .i64 0) (.int .i64 0) (.int .i64 0) (.int .i64 0) (.slice none 0 0))
                    have HB6 := Lib.hid (set6_below HB11.out (Nat.le_refl _) (.int .i64 0) (.int .i64 0) (.int .i64 0) (.int .i64 0) (.int .i64 0) (.slice none 0 0))
                    clear qz
                    go_wp2
                    (try simp only [Exit.inBlock, Exit.then])
                    refine bodyPost_ret (results_cell_tmpR rfl _ _ w.heap.size _ _ (0, 0) _ rfl H6.out Tryz.underlying30 rfl (by kernel_rfl)) rfl ?_
                    exact gives_cast (s := Stp.nil) (b := false) ⟨none, 0, rfl, World.ownsRow_nil _ _ _ _, HB6.out⟩ NO.out.1 NO.out.2
                  | true =>
                    have HST2 := Lib.hid (step_of (t := t) (s := ⟨k, v0, (-1), v1, 0, []⟩) heq hr1 htn)
                    have r11 := (bel11.block b5 (by omega)).trans SF.out
                    generalize stT (k : Int) v0 (-1) v1 0 [] = R at *
                    have e0 := cell_of_row _ _ 0 _ _ (0, 0) p11; have e1 := cell_of_row _ _ 1 _ _ (0, 0) p11; have e2 := cell_of_row _ _ 2 _ _ (0, 0) p11; have e3 := cell_of_row _ _ 3 _ _ (0, 0) p11; have e4 := cell_of_row _ _ 4 _ _ (0, 0) p11; have e5 := cell_of_row _ _ 5 _ _ (0, 0) p11
                    have g0 := frozen_of_row _ _ 0 _ _ p11; have g1 := frozen_of_row _ _ 1 _ _ p11; have g2 := frozen_of_row _ _ 2 _ _ p11; have g3 := frozen_of_row _ _ 3 _ _ p11; have g4 := frozen_of_row _ _ 4 _ _ p11; have g5 := frozen_of_row _ _ 5 _ _ p11
                    have x0 := cell_of_row _ _ 0 _ _ (0, 0) r11; have x1 := cell_of_row _ _ 1 _ _ (0, 0) r11; have x2 := cell_of_row _ _ 2 _ _ (0, 0) r11; have x3 := cell_of_row _ _ 3 _ _ (0, 0) r11; have x4 := cell_of_row _ _ 4 _ _ (0, 0) r11; have x5 := cell_of_row _ _ 5 _ _ (0, 0) r11
                    have H6 := Lib.hid (set6_at p11 (.int .i64 (k : Int)) (.int .i64 v0) (.int .i64 (-1)) (.int .i64 v1) (.int .i64 0) (.slice none 0 0))
                    have HB6 := Lib.hid (set6_below HB11.out (Nat.le_refl _) (.int .i64 (k : Int)) (.int .i64 v0) (.int .i64 (-1)) (.int .i64 v1) (.int .i64 0) (.slice none 0 0))
                    clear p11 r11 bel11 HST
                    go_wp2
                    (try simp only [Exit.inBlock, Exit.then])
                    refine bodyPost_ret (results_cell_tmpR rfl _ _ w.heap.size _ _ (0, 0) _ rfl H6.out Tryz.underlying30 rfl (by kernel_rfl)) rfl ?_
                    exact gives_cast (s := ⟨k, v0, (-1), v1, 0, []⟩) (b := true) ⟨none, 0, rfl, World.ownsRow_nil _ _ _ _, HB6.out⟩ HST2.out.1 HST2.out.2
                · obtain rfl : m = 3 := by have := B4.out; omega
                  obtain rfl : Y4 = 3 := by have := B4.out; omega
                  obtain rfl : Y2 = 4 := by have := B1.out; have := B2.out; omega
                  obtain rfl : Y3 = 5 := by have := B3.out; omega
                  obtain ⟨gN, capN, hgN, hloN, hltN⟩ := HO.out.form (by decide)
                  have hAr : Ar = some ⟨gN, 0, none⟩ ∧ cr = capN := by injection hgN with x y z; exact ⟨x, z⟩
                  obtain ⟨rfl, rfl⟩ := hAr
                  have hgb : gN ≠ b5 := by omega
                  have n0 : wr.cell? ⟨gN, 0, none⟩ = some (.int .i64 (wdN T 1)) := by rw [HO.out.cellAt 0 (by decide), wdV_at (by decide)]
                  have n1 : wr.cell? ⟨gN, 1, none⟩ = some (.int .i64 (wdN T 2)) := by rw [HO.out.cellAt 1 (by decide), wdV_at (by decide)]
                  have n2 : wr.cell? ⟨gN, 2, none⟩ = some (.int .i64 (wdN T 3)) := by rw [HO.out.cellAt 2 (by decide), wdV_at (by decide)]
                  have HMD : Hid (rsB t = true → (⟨k, (wdN T 1), (-1), (wdN T 2), (wdN T 3), []⟩ : Stp) = lkS t) := Lib.hid fun h => by rw [← (HM1.out h).2.2.2.2]; rfl
                  generalize wdN T 1 = v0 at *
                  generalize wdN T 2 = v1 at *
                  generalize wdN T 3 = v2 at *
                  have d0 := cell_of_row _ _ 0 _ _ (0, 0) hk5; have d1 := cell_of_row _ _ 1 _ _ (0, 0) hk5; have d2 := cell_of_row _ _ 2 _ _ (0, 0) hk5; have d3 := cell_of_row _ _ 3 _ _ (0, 0) hk5; have d4 := cell_of_row _ _ 4 _ _ (0, 0) hk5
                  have f1 := frozen_of_row _ _ 1 _ _ hk5; have f2 := frozen_of_row _ _ 2 _ _ hk5; have f3 := frozen_of_row _ _ 3 _ _ hk5; have f4 := frozen_of_row _ _ 4 _ _ hk5
                  have l1 := ((far_cellR (w := wr) (a := ⟨b5, 1, none⟩) (p := ⟨gN, 1, none⟩) (u := .int .i64 v0) hgb).trans n1)
                  have l2 := ((far_cellR (w := (wr.setCell ⟨b5, 1, none⟩ (.int .i64 v0))) (a := ⟨b5, 3, none⟩) (p := ⟨gN, 2, none⟩) (u := .int .i64 v1) hgb).trans ((far_cellR (w := wr) (a := ⟨b5, 1, none⟩) (p := ⟨gN, 2, none⟩) (u := .int .i64 v0) hgb).trans n2))
                  have k0 := heap_setCell_same _ b5 1 _ _ (.int .i64 v0) hk5
                  have k1 := heap_setCell_same _ b5 3 _ _ (.int .i64 v1) k0
                  have k2 := heap_setCell_same _ b5 4 _ _ (.int .i64 v2) k1
                  obtain ⟨wf, hwf⟩ : ∃ wf, wf = (((wr.setCell ⟨b5, 1, none⟩ (.int .i64 v0)).setCell ⟨b5, 3, none⟩ (.int .i64 v1)).setCell ⟨b5, 4, none⟩ (.int .i64 v2)) := ⟨_, rfl⟩
                  have hSf : wf.heap[b5]? = some (.cells #[Value.int .i64 (k : Int), Value.int .i64 v0, Value.int .i64 (-1), Value.int .i64 v1, Value.int .i64 v2, Value.slice none 0 0] 30 (0, 0)) := by rw [hwf]; simpa using k2
                  have hBf : Below b5 wr wf := by rw [hwf]; exact ((((Below.refl b5 wr).setCell (p := ⟨b5, 1, none⟩) (Nat.le_refl _) (.int .i64 v0)).setCell (p := ⟨b5, 3, none⟩) (Nat.le_refl _) (.int .i64 v1)).setCell (p := ⟨b5, 4, none⟩) (Nat.le_refl _) (.int .i64 v2))
                  have SF := Lib.hid hSf
                  have PF := Lib.hid ((hBf.block w.heap.size hl2).trans PQ.out)
                  have HBF := Lib.hid (HBQ.out.trans (hBf.mono (by omega)))
                  have HTF : Hid (∀ m, m < T.length → wf.cell? ⟨gT, m, none⟩ = some (.string (wd T m))) := Lib.hid fun m hm => (hBf.cell (p := ⟨gT, m, none⟩) hltT).trans (HTQ.out m hm)
                  have hsf := hBf.size
                  have j0 : wf.cell? ⟨b5, 0, none⟩ = some (.int .i64 (k : Int)) := cell_of_row _ _ 0 _ _ (0, 0) hSf
                  clear hBf hSf hk5 PQ HBQ HTQ HM1 k0 k1 k2
                  go_wp2_with (fail)
                  rw [← hwf]
                  clear hwf d0 d1 d2 d3 d4 f1 f2 f3 f4 n0 n1 n2 l1 l2
                  refine (HU.out wf).mono ?_
                  rintro e w' ⟨rfl, rfl⟩
                  have HST := Lib.hid (sStepText_any k v0 (-1) v1 v2 none 0 0 [] wf (RdI.nil _ _ _))
                  have r9 := SF.out
                  have x0 := cell_of_row _ _ 0 _ _ (0, 0) r9; have x1 := cell_of_row _ _ 1 _ _ (0, 0) r9; have x2 := cell_of_row _ _ 2 _ _ (0, 0) r9
                  have x3 := cell_of_row _ _ 3 _ _ (0, 0) r9; have x4 := cell_of_row _ _ 4 _ _ (0, 0) r9; have x5 := cell_of_row _ _ 5 _ _ (0, 0) r9
                  clear r9
                  go_wp2_with (fail)
                  clear x0 x1 x2 x3 x4 x5
                  refine HST.out.mono ?_
                  rintro e w11 ⟨rfl, bel11⟩
                  have hs11 := bel11.size
                  have p11 := (bel11.block w.heap.size (by omega)).trans PF.out
                  have HB11 := Lib.hid (HBF.out.trans (bel11.mono (by omega)))
                  cases heq : ((stT (k : Int) v0 (-1) v1 v2 []).toList == t.toList) with
                  | false =>
                    generalize hR : stT (k : Int) v0 (-1) v1 v2 [] = R at *
                    have NO := Lib.hid (zero_of (fun h => by have h1 := HEQ.out h; rw [← HMD.out h] at h1; simp only [hR] at h1; rw [heq] at h1; exact absurd h1 (by decide)))
                    have qz := p11
                    have e0 := cell_of_row _ _ 0 _ _ (0, 0) qz; have e1 := cell_of_row _ _ 1 _ _ (0, 0) qz; have e2 := cell_of_row _ _ 2 _ _ (0, 0) qz; have e3 := cell_of_row _ _ 3 _ _ (0, 0) qz; have e4 := cell_of_row _ _ 4 _ _ (0, 0) qz; have e5 := cell_of_row _ _ 5 _ _ (0, 0) qz
                    have g0 := frozen_of_row _ _ 0 _ _ qz; have g1 := frozen_of_row _ _ 1 _ _ qz; have g2 := frozen_of_row _ _ 2 _ _ qz; have g3 := frozen_of_row _ _ 3 _ _ qz; have g4 := frozen_of_row _ _ 4 _ _ qz; have g5 := frozen_of_row _ _ 5 _ _ qz
                    have H6 := Lib.hid (set6_at qz (.int .i64 0) (.int .i64 0) (.int .i64 0) (.int .i64 0) (.int .i64 0) (.slice none 0 0))
                    have HB6 := Lib.hid (set6_below HB11.out (Nat.le_refl _) (.int .i64 0) (.int .i64 0) (.int .i64 0) (.int .i64 0) (.int .i64 0) (.slice none 0 0))
                    clear qz
                    go_wp2
                    (try simp only [Exit.inBlock, Exit.then])
                    refine bodyPost_ret (results_cell_tmpR rfl _ _ w.heap.size _ _ (0, 0) _ rfl H6.out Tryz.underlying30 rfl (by kernel_rfl)) rfl ?_
                    exact gives_cast (s := Stp.nil) (b := false) ⟨none, 0, rfl, World.ownsRow_nil _ _ _ _, HB6.out⟩ NO.out.1 NO.out.2
                  | true =>
                    have HST2 := Lib.hid (step_of (t := t) (s := ⟨k, v0, (-1), v1, v2, []⟩) heq hr1 htn)
                    have r11 := (bel11.block b5 (by omega)).trans SF.out
                    generalize stT (k : Int) v0 (-1) v1 v2 [] = R at *
                    have e0 := cell_of_row _ _ 0 _ _ (0, 0) p11; have e1 := cell_of_row _ _ 1 _ _ (0, 0) p11; have e2 := cell_of_row _ _ 2 _ _ (0, 0) p11; have e3 := cell_of_row _ _ 3 _ _ (0, 0) p11; have e4 := cell_of_row _ _ 4 _ _ (0, 0) p11; have e5 := cell_of_row _ _ 5 _ _ (0, 0) p11
                    have g0 := frozen_of_row _ _ 0 _ _ p11; have g1 := frozen_of_row _ _ 1 _ _ p11; have g2 := frozen_of_row _ _ 2 _ _ p11; have g3 := frozen_of_row _ _ 3 _ _ p11; have g4 := frozen_of_row _ _ 4 _ _ p11; have g5 := frozen_of_row _ _ 5 _ _ p11
                    have x0 := cell_of_row _ _ 0 _ _ (0, 0) r11; have x1 := cell_of_row _ _ 1 _ _ (0, 0) r11; have x2 := cell_of_row _ _ 2 _ _ (0, 0) r11; have x3 := cell_of_row _ _ 3 _ _ (0, 0) r11; have x4 := cell_of_row _ _ 4 _ _ (0, 0) r11; have x5 := cell_of_row _ _ 5 _ _ (0, 0) r11
                    have H6 := Lib.hid (set6_at p11 (.int .i64 (k : Int)) (.int .i64 v0) (.int .i64 (-1)) (.int .i64 v1) (.int .i64 v2) (.slice none 0 0))
                    have HB6 := Lib.hid (set6_below HB11.out (Nat.le_refl _) (.int .i64 (k : Int)) (.int .i64 v0) (.int .i64 (-1)) (.int .i64 v1) (.int .i64 v2) (.slice none 0 0))
                    clear p11 r11 bel11 HST
                    go_wp2
                    (try simp only [Exit.inBlock, Exit.then])
                    refine bodyPost_ret (results_cell_tmpR rfl _ _ w.heap.size _ _ (0, 0) _ rfl H6.out Tryz.underlying30 rfl (by kernel_rfl)) rfl ?_
                    exact gives_cast (s := ⟨k, v0, (-1), v1, v2, []⟩) (b := true) ⟨none, 0, rfl, World.ownsRow_nil _ _ _ _, HB6.out⟩ HST2.out.1 HST2.out.2
                · obtain rfl : m = 4 := by have := B4.out; omega
                  obtain rfl : Y4 = 4 := by have := B4.out; omega
                  obtain rfl : Y2 = 5 := by have := B1.out; have := B2.out; omega
                  obtain rfl : Y3 = 6 := by have := B3.out; omega
                  obtain ⟨gN, capN, hgN, hloN, hltN⟩ := HO.out.form (by decide)
                  have hAr : Ar = some ⟨gN, 0, none⟩ ∧ cr = capN := by injection hgN with x y z; exact ⟨x, z⟩
                  obtain ⟨rfl, rfl⟩ := hAr
                  have hgb : gN ≠ b5 := by omega
                  have n0 : wr.cell? ⟨gN, 0, none⟩ = some (.int .i64 (wdN T 1)) := by rw [HO.out.cellAt 0 (by decide), wdV_at (by decide)]
                  have n1 : wr.cell? ⟨gN, 1, none⟩ = some (.int .i64 (wdN T 2)) := by rw [HO.out.cellAt 1 (by decide), wdV_at (by decide)]
                  have n2 : wr.cell? ⟨gN, 2, none⟩ = some (.int .i64 (wdN T 3)) := by rw [HO.out.cellAt 2 (by decide), wdV_at (by decide)]
                  have n3 : wr.cell? ⟨gN, 3, none⟩ = some (.int .i64 (wdN T 4)) := by rw [HO.out.cellAt 3 (by decide), wdV_at (by decide)]
                  have HMD : Hid (rsB t = true → (⟨k, (wdN T 1), (wdN T 2), (wdN T 3), (wdN T 4), []⟩ : Stp) = lkS t) := Lib.hid fun h => by rw [← (HM1.out h).2.2.2.2]; rfl
                  generalize wdN T 1 = v0 at *
                  generalize wdN T 2 = v1 at *
                  generalize wdN T 3 = v2 at *
                  generalize wdN T 4 = v3 at *
                  have d0 := cell_of_row _ _ 0 _ _ (0, 0) hk5; have d1 := cell_of_row _ _ 1 _ _ (0, 0) hk5; have d2 := cell_of_row _ _ 2 _ _ (0, 0) hk5; have d3 := cell_of_row _ _ 3 _ _ (0, 0) hk5; have d4 := cell_of_row _ _ 4 _ _ (0, 0) hk5
                  have f1 := frozen_of_row _ _ 1 _ _ hk5; have f2 := frozen_of_row _ _ 2 _ _ hk5; have f3 := frozen_of_row _ _ 3 _ _ hk5; have f4 := frozen_of_row _ _ 4 _ _ hk5
                  have l1 := ((far_cellR (w := wr) (a := ⟨b5, 1, none⟩) (p := ⟨gN, 1, none⟩) (u := .int .i64 v0) hgb).trans n1)
                  have l2 := ((far_cellR (w := (wr.setCell ⟨b5, 1, none⟩ (.int .i64 v0))) (a := ⟨b5, 2, none⟩) (p := ⟨gN, 2, none⟩) (u := .int .i64 v1) hgb).trans ((far_cellR (w := wr) (a := ⟨b5, 1, none⟩) (p := ⟨gN, 2, none⟩) (u := .int .i64 v0) hgb).trans n2))
                  have l3 := ((far_cellR (w := ((wr.setCell ⟨b5, 1, none⟩ (.int .i64 v0)).setCell ⟨b5, 2, none⟩ (.int .i64 v1))) (a := ⟨b5, 3, none⟩) (p := ⟨gN, 3, none⟩) (u := .int .i64 v2) hgb).trans ((far_cellR (w := (wr.setCell ⟨b5, 1, none⟩ (.int .i64 v0))) (a := ⟨b5, 2, none⟩) (p := ⟨gN, 3, none⟩) (u := .int .i64 v1) hgb).trans ((far_cellR (w := wr) (a := ⟨b5, 1, none⟩) (p := ⟨gN, 3, none⟩) (u := .int .i64 v0) hgb).trans n3)))
                  have k0 := heap_setCell_same _ b5 1 _ _ (.int .i64 v0) hk5
                  have k1 := heap_setCell_same _ b5 2 _ _ (.int .i64 v1) k0
                  have k2 := heap_setCell_same _ b5 3 _ _ (.int .i64 v2) k1
                  have k3 := heap_setCell_same _ b5 4 _ _ (.int .i64 v3) k2
                  obtain ⟨wf, hwf⟩ : ∃ wf, wf = ((((wr.setCell ⟨b5, 1, none⟩ (.int .i64 v0)).setCell ⟨b5, 2, none⟩ (.int .i64 v1)).setCell ⟨b5, 3, none⟩ (.int .i64 v2)).setCell ⟨b5, 4, none⟩ (.int .i64 v3)) := ⟨_, rfl⟩
                  have hSf : wf.heap[b5]? = some (.cells #[Value.int .i64 (k : Int), Value.int .i64 v0, Value.int .i64 v1, Value.int .i64 v2, Value.int .i64 v3, Value.slice none 0 0] 30 (0, 0)) := by rw [hwf]; simpa using k3
                  have hBf : Below b5 wr wf := by rw [hwf]; exact (((((Below.refl b5 wr).setCell (p := ⟨b5, 1, none⟩) (Nat.le_refl _) (.int .i64 v0)).setCell (p := ⟨b5, 2, none⟩) (Nat.le_refl _) (.int .i64 v1)).setCell (p := ⟨b5, 3, none⟩) (Nat.le_refl _) (.int .i64 v2)).setCell (p := ⟨b5, 4, none⟩) (Nat.le_refl _) (.int .i64 v3))
                  have SF := Lib.hid hSf
                  have PF := Lib.hid ((hBf.block w.heap.size hl2).trans PQ.out)
                  have HBF := Lib.hid (HBQ.out.trans (hBf.mono (by omega)))
                  have HTF : Hid (∀ m, m < T.length → wf.cell? ⟨gT, m, none⟩ = some (.string (wd T m))) := Lib.hid fun m hm => (hBf.cell (p := ⟨gT, m, none⟩) hltT).trans (HTQ.out m hm)
                  have hsf := hBf.size
                  have j0 : wf.cell? ⟨b5, 0, none⟩ = some (.int .i64 (k : Int)) := cell_of_row _ _ 0 _ _ (0, 0) hSf
                  clear hBf hSf hk5 PQ HBQ HTQ HM1 k0 k1 k2 k3
                  go_wp2_with (fail)
                  rw [← hwf]
                  clear hwf d0 d1 d2 d3 d4 f1 f2 f3 f4 n0 n1 n2 n3 l1 l2 l3
                  refine (HU.out wf).mono ?_
                  rintro e w' ⟨rfl, rfl⟩
                  have HST := Lib.hid (sStepText_any k v0 v1 v2 v3 none 0 0 [] wf (RdI.nil _ _ _))
                  have r9 := SF.out
                  have x0 := cell_of_row _ _ 0 _ _ (0, 0) r9; have x1 := cell_of_row _ _ 1 _ _ (0, 0) r9; have x2 := cell_of_row _ _ 2 _ _ (0, 0) r9
                  have x3 := cell_of_row _ _ 3 _ _ (0, 0) r9; have x4 := cell_of_row _ _ 4 _ _ (0, 0) r9; have x5 := cell_of_row _ _ 5 _ _ (0, 0) r9
                  clear r9
                  go_wp2_with (fail)
                  clear x0 x1 x2 x3 x4 x5
                  refine HST.out.mono ?_
                  rintro e w11 ⟨rfl, bel11⟩
                  have hs11 := bel11.size
                  have p11 := (bel11.block w.heap.size (by omega)).trans PF.out
                  have HB11 := Lib.hid (HBF.out.trans (bel11.mono (by omega)))
                  cases heq : ((stT (k : Int) v0 v1 v2 v3 []).toList == t.toList) with
                  | false =>
                    generalize hR : stT (k : Int) v0 v1 v2 v3 [] = R at *
                    have NO := Lib.hid (zero_of (fun h => by have h1 := HEQ.out h; rw [← HMD.out h] at h1; simp only [hR] at h1; rw [heq] at h1; exact absurd h1 (by decide)))
                    have qz := p11
                    have e0 := cell_of_row _ _ 0 _ _ (0, 0) qz; have e1 := cell_of_row _ _ 1 _ _ (0, 0) qz; have e2 := cell_of_row _ _ 2 _ _ (0, 0) qz; have e3 := cell_of_row _ _ 3 _ _ (0, 0) qz; have e4 := cell_of_row _ _ 4 _ _ (0, 0) qz; have e5 := cell_of_row _ _ 5 _ _ (0, 0) qz
                    have g0 := frozen_of_row _ _ 0 _ _ qz; have g1 := frozen_of_row _ _ 1 _ _ qz; have g2 := frozen_of_row _ _ 2 _ _ qz; have g3 := frozen_of_row _ _ 3 _ _ qz; have g4 := frozen_of_row _ _ 4 _ _ qz; have g5 := frozen_of_row _ _ 5 _ _ qz
                    have H6 := Lib.hid (set6_at qz (.int .i64 0) (.int .i64 0) (.int .i64 0) (.int .i64 0) (.int .i64 0) (.slice none 0 0))
                    have HB6 := Lib.hid (set6_below HB11.out (Nat.le_refl _) (.int .i64 0) (.int .i64 0) (.int .i64 0) (.int .i64 0) (.int .i64 0) (.slice none 0 0))
                    clear qz
                    go_wp2
                    (try simp only [Exit.inBlock, Exit.then])
                    refine bodyPost_ret (results_cell_tmpR rfl _ _ w.heap.size _ _ (0, 0) _ rfl H6.out Tryz.underlying30 rfl (by kernel_rfl)) rfl ?_
                    exact gives_cast (s := Stp.nil) (b := false) ⟨none, 0, rfl, World.ownsRow_nil _ _ _ _, HB6.out⟩ NO.out.1 NO.out.2
                  | true =>
                    have HST2 := Lib.hid (step_of (t := t) (s := ⟨k, v0, v1, v2, v3, []⟩) heq hr1 htn)
                    have r11 := (bel11.block b5 (by omega)).trans SF.out
                    generalize stT (k : Int) v0 v1 v2 v3 [] = R at *
                    have e0 := cell_of_row _ _ 0 _ _ (0, 0) p11; have e1 := cell_of_row _ _ 1 _ _ (0, 0) p11; have e2 := cell_of_row _ _ 2 _ _ (0, 0) p11; have e3 := cell_of_row _ _ 3 _ _ (0, 0) p11; have e4 := cell_of_row _ _ 4 _ _ (0, 0) p11; have e5 := cell_of_row _ _ 5 _ _ (0, 0) p11
                    have g0 := frozen_of_row _ _ 0 _ _ p11; have g1 := frozen_of_row _ _ 1 _ _ p11; have g2 := frozen_of_row _ _ 2 _ _ p11; have g3 := frozen_of_row _ _ 3 _ _ p11; have g4 := frozen_of_row _ _ 4 _ _ p11; have g5 := frozen_of_row _ _ 5 _ _ p11
                    have x0 := cell_of_row _ _ 0 _ _ (0, 0) r11; have x1 := cell_of_row _ _ 1 _ _ (0, 0) r11; have x2 := cell_of_row _ _ 2 _ _ (0, 0) r11; have x3 := cell_of_row _ _ 3 _ _ (0, 0) r11; have x4 := cell_of_row _ _ 4 _ _ (0, 0) r11; have x5 := cell_of_row _ _ 5 _ _ (0, 0) r11
                    have H6 := Lib.hid (set6_at p11 (.int .i64 (k : Int)) (.int .i64 v0) (.int .i64 v1) (.int .i64 v2) (.int .i64 v3) (.slice none 0 0))
                    have HB6 := Lib.hid (set6_below HB11.out (Nat.le_refl _) (.int .i64 (k : Int)) (.int .i64 v0) (.int .i64 v1) (.int .i64 v2) (.int .i64 v3) (.slice none 0 0))
                    clear p11 r11 bel11 HST
                    go_wp2
                    (try simp only [Exit.inBlock, Exit.then])
                    refine bodyPost_ret (results_cell_tmpR rfl _ _ w.heap.size _ _ (0, 0) _ rfl H6.out Tryz.underlying30 rfl (by kernel_rfl)) rfl ?_
                    exact gives_cast (s := ⟨k, v0, v1, v2, v3, []⟩) (b := true) ⟨none, 0, rfl, World.ownsRow_nil _ _ _ _, HB6.out⟩ HST2.out.1 HST2.out.2
          · have hne : ((T.length : Int) != Y2) = true := by simp [hlw]
            have NO := Lib.hid (zero_of (fun h => by have h1 := (HM1.out h).2.1; unfold wdW at h1; have := B1.out; have := B2.out; have := B3.out; simp at h1; omega))
            have qz := PR.out
            have e0 := cell_of_row _ _ 0 _ _ (0, 0) qz; have e1 := cell_of_row _ _ 1 _ _ (0, 0) qz; have e2 := cell_of_row _ _ 2 _ _ (0, 0) qz; have e3 := cell_of_row _ _ 3 _ _ (0, 0) qz; have e4 := cell_of_row _ _ 4 _ _ (0, 0) qz; have e5 := cell_of_row _ _ 5 _ _ (0, 0) qz
            have g0 := frozen_of_row _ _ 0 _ _ qz; have g1 := frozen_of_row _ _ 1 _ _ qz; have g2 := frozen_of_row _ _ 2 _ _ qz; have g3 := frozen_of_row _ _ 3 _ _ qz; have g4 := frozen_of_row _ _ 4 _ _ qz; have g5 := frozen_of_row _ _ 5 _ _ qz
            have H6 := Lib.hid (set6_at qz (.int .i64 0) (.int .i64 0) (.int .i64 0) (.int .i64 0) (.int .i64 0) (.slice none 0 0))
            have HB6 := Lib.hid (set6_below HBR.out (Nat.le_refl _) (.int .i64 0) (.int .i64 0) (.int .i64 0) (.int .i64 0) (.int .i64 0) (.slice none 0 0))
            clear qz
            go_wp2
            (try simp only [Exit.inBlock, Exit.then])
            refine bodyPost_ret (results_cell_tmpR rfl _ _ w.heap.size _ _ (0, 0) _ rfl H6.out Tryz.underlying30 rfl (by kernel_rfl)) rfl ?_
            exact gives_cast (s := Stp.nil) (b := false) ⟨none, 0, rfl, World.ownsRow_nil _ _ _ _, HB6.out⟩ NO.out.1 NO.out.2
end Go.Proofs.YtjgmgaccmcepdaaGreatDoor
