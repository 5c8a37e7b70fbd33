/- The model's ReadLink. Made by mkrls.py. -/
import Derived.Test.YtagjlilbcldfaaaDoorRlR
import Derived.Test.YtagjlilbcldfaaaDoorQReadA
import Derived.Deep.AppendLies
namespace Go.Proofs.YtagjlilbcldfaaaDoor
set_option linter.unusedSimpArgs false
set_option linter.unusedVariables false
open Go.ChangeAt Go.ChangeShapes Go.RowKit Go.WideShapes

theorem boxN_any (w : World) (o : Obj) : Below w.heap.size w (w.alloc o) := (Below.refl _ _).alloc (Nat.le_refl _) _
theorem splN_ne (s : ByteArray) : ∀ d fr, splG s d fr ≠ []
  | 0, fr => by simp [splG]
  | d + 1, fr => by
    unfold splG
    split
    · simp
    · exact splN_ne s d fr
theorem splN_size (s : ByteArray) : ∀ d fr, ∀ x ∈ splG s d fr, x.size ≤ s.size
  | 0, fr, x, hx => by
    simp only [splG, List.mem_singleton] at hx
    subst hx
    rw [ByteArray.size_extract]; omega
  | d + 1, fr, x, hx => by
    unfold splG at hx
    split at hx
    · rcases List.mem_cons.1 hx with rfl | h
      · rw [ByteArray.size_extract]; omega
      · exact splN_size s d _ x h
    · exact splN_size s d fr x hx
theorem wx_size (t : ByteArray) (m : Nat) : (wx (spl t) m).size ≤ t.size := by
  unfold wx
  by_cases h : m < (spl t).length
  · exact splN_size t _ _ _ (by simp [List.getD, h]; exact List.getElem_mem h)
  · rw [List.getD, List.getElem?_eq_none (by omega)]; exact Nat.zero_le _
def wxV (T : List ByteArray) (m : Nat) : List Value := (List.range m).map fun j => Value.int .i64 (wn T (j + 1))
theorem intsN_made (w : World) : (w.alloc (.cells #[] 2)).ownsRow w.heap.size 2 1 (.slice (some ⟨w.heap.size, 0, none⟩) 0 0) 0 [] :=
  ⟨by simp, .inr ⟨w.heap.size, 0, #[], rfl, Nat.le_refl _, heap_alloc_new w _, Nat.le_refl _, by simp [maxLen], rfl, by simp⟩⟩
theorem wxV_step (T : List ByteArray) (m : Nat) : wxV T m ++ [.int .i64 (wn T (m + 1))] = wxV T (m + 1) := by simp [wxV, List.range_succ]
theorem wxV_at {T : List ByteArray} {m i : Nat} (h : i < m) : (wxV T m)[i]? = some (.int .i64 (wn T (i + 1))) := by simp [wxV, h]

theorem splN_len (s : ByteArray) : ∀ d fr, (splG s d fr).length ≤ d + 1
  | 0, fr => by simp [splG]
  | d + 1, fr => by
    unfold splG
    split
    · have := splN_len s d
      simp only [List.length_cons]
      exact Nat.succ_le_succ (this _)
    · exact Nat.le_succ_of_le (splN_len s d fr)
theorem spl_len {t : ByteArray} (hs : t.size ≤ 1048576) : (spl t).length ≤ 1048577 := Nat.le_trans (splN_len t t.size 0) (by omega)
set_option maxRecDepth 100000 in
set_option maxHeartbeats 16000000 in
theorem sReadLink_any (t : ByteArray) (w : World) (hs : t.size ≤ 1048576) :
    Calls Tryd.prog 11 #[.string t] w (GivesLk w (rlV t) (rlB t)) := by
  obtain ⟨i0, hi0, hz0, hz1, hz2⟩ := info_parts info_i64
  obtain ⟨w1, hw1⟩ : ∃ w1, w1 = w.alloc (.cells #[.int .i64 0, .int .i64 0, .int .i64 0, .int .i64 0] 25) := ⟨_, rfl⟩
  have hb1 : Below w.heap.size w w1 := by rw [hw1]; exact (Below.refl _ _).alloc (Nat.le_refl _) _
  have p1 : w1.heap[w.heap.size]? = some (.cells #[.int .i64 0, .int .i64 0, .int .i64 0, .int .i64 0] 25 (0, 0)) := by rw [hw1]; exact heap_alloc_new _ _
  have hs1 : w1.heap.size = w.heap.size + 1 := by rw [hw1]; simp
  have HB1 := Lib.hid hb1; have P1 := Lib.hid p1
  have HS := Lib.hid (splitAt_any t w1 hs)
  have HWS : Hid (∀ m, (wx (spl t) m).size ≤ 1048576) := Lib.hid fun m => Nat.le_trans (wx_size t m) hs
  have HM := Lib.hid (@rl_model t)
  have HBK := Lib.hid (fun (l : Lk) => @rl_back t l)
  have HTS : Hid ((spl t).length ≤ 1048577) := Lib.hid (spl_len hs)
  have hT0 : 0 < (spl t).length := List.length_pos_iff.2 (splN_ne t _ _)
  have NOL : Hid (∀ (u : World), rlB t = false → Below w.heap.size w u → GivesLk w (rlV t) (rlB t) (.returned (.tuple #[.agg #[.int .i64 0, .int .i64 0, .int .i64 0, .int .i64 0], .bool false])) u) := Lib.hid fun u e hu => by rw [rlV_no e, e]; exact ⟨rfl, hu⟩
  have HNIL : Hid (t.size = 0 → rlB t = false) := Lib.hid fun h0 => by
    obtain rfl : t = ⟨#[]⟩ := ba_ext (by rw [size_list] at h0; exact List.length_eq_zero_iff.1 h0)
    exact rlB_nil
  obtain ⟨x, hx⟩ : ∃ x, x = wx (spl t) 0 := ⟨_, rfl⟩
  have HX := Lib.hid hx
  have HI := Lib.hid hi0; have HZ0 := Lib.hid hz0; have HZ1 := Lib.hid hz1; have HZ2 := Lib.hid hz2
  clear hb1 p1 hx hi0 hz0 hz1 hz2
  go_enter Tryd.func11, Tryd.ntmps11
  go_wp2_with (fail)
  rw [← hw1]
  clear hw1
  refine HS.out.mono ?_
  rintro e w2 ⟨A, c, rfl, own2, bel2⟩
  obtain ⟨gT, capT, hgT, hloT, hltT⟩ := own2.form hT0
  have hA : A = some ⟨gT, 0, none⟩ ∧ c = capT := by injection hgT with x y z; exact ⟨x, z⟩
  obtain ⟨rfl, rfl⟩ := hA
  have hs2 := bel2.size
  have HTC : Hid (∀ m, m < (spl t).length → w2.cell? ⟨gT, m, none⟩ = some (.string (wx (spl t) m))) := Lib.hid fun m hm => by
    rw [own2.cellAt m (by omega), List.getElem?_map]
    simp [wx, List.getD, hm]
  have hlen := own_cap1 own2
  have P2 := Lib.hid ((bel2.block w.heap.size (by omega)).trans P1.out)
  have HB2 := Lib.hid (HB1.out.trans (bel2.mono HB1.out.size))
  clear own2 bel2 hgT HS
  generalize spl t = T at *
  obtain ⟨w3, hw3⟩ : ∃ w3, w3 = w2.alloc (.cells #[.int .i64 0, .int .i64 0, .int .i64 0, .int .i64 0] 25) := ⟨_, rfl⟩
  have b3 : Below w2.heap.size w2 w3 := by rw [hw3]; exact (Below.refl _ _).alloc (Nat.le_refl _) _
  have p3 : w3.heap[w2.heap.size]? = some (.cells #[.int .i64 0, .int .i64 0, .int .i64 0, .int .i64 0] 25 (0, 0)) := by rw [hw3]; exact heap_alloc_new _ _
  have hs3 : w3.heap.size = w2.heap.size + 1 := by rw [hw3]; simp
  have HB3 := Lib.hid (HB2.out.trans (b3.mono HB2.out.size))
  have P3 := Lib.hid ((b3.block w.heap.size (by omega)).trans P2.out)
  have HTC3 : Hid (∀ m, m < T.length → w3.cell? ⟨gT, m, none⟩ = some (.string (wx T m))) := Lib.hid fun m hm => (b3.cell (p := ⟨gT, m, none⟩) hltT).trans (HTC.out m hm)
  have S3 := Lib.hid p3
  have hl2 : w.heap.size < w2.heap.size := by omega
  have hl3 : w2.heap.size < w3.heap.size := by omega
  clear b3 p3 HTC P2 HB2 P1 HB1 hs1 hs3
  go_wp2_with (fail)
  rw [← hw3]
  clear hw3
  generalize w2.heap.size = b5 at *
  go_loopw [6] (fun s wr => ∃ m : Nat, m ≤ 4 ∧ s = .int .i64 m ∧ wr.heap[b5]? = some (.cells #[.int .i64 (rk x m), .int .i64 0, .int .i64 0, .int .i64 0] 25 (0, 0)) ∧ Below b5 w3 wr) (fun s _ => 4 - (intOf s).toNat)
  case atStart => exact ⟨0, by omega, rfl, by rw [rk_zero]; exact S3.out, Below.refl _ _⟩
  case round =>
    obtain ⟨m, hm, rfl, hk5, hb⟩ := hrel
    have HB := Lib.hid hb
    have hsr := hb.size
    have t0 := (hb.cell (p := ⟨gT, 0, none⟩) hltT).trans (HTC3.out 0 hT0)
    rw [← HX.out] at t0
    clear hb
    rcases Nat.lt_or_ge m 4 with hlt | hge
    · have hlt' : decide ((m : Int) < 4) = true := decide_eq_true (by omega)
      have hi1 : (m : Int) < 4 := by omega
      have hwr : IntKind.i64.wrap ((m : Int) + 1) = (m : Int) + 1 := IntWalk.i64_in _ (by omega)
      have hTl : (0 : Int) < (T.length : Int) := by omega
      have z0 := cell_of_row _ _ 0 _ _ (0, 0) hk5
      have z1 := frozen_of_row _ _ 0 _ _ hk5
      have K5 := Lib.hid hk5
      clear hk5
      cases heq : ((lwB (m + 1)).toList == x.toList) with
      | true =>
        have HR := Lib.hid (rk_yes hlt heq)
        go_wp2_with (fail)
        go_region_with (go_at_call 24; go_loud (refine (kinds_any wr.drew).mono ?_; rintro e w4 ⟨rfl, hw4⟩; have u0 : w4.cell? ⟨gT, 0, none⟩ = some (.string x) := (by subst hw4; exact ((boxN_any wr.drew _).cell (p := ⟨gT, 0, none⟩) (by show gT < wr.heap.size; omega)).trans t0); have u1 : w4.cell? ⟨wr.heap.size, m, none⟩ = some (.string (lwB (m + 1))) := kinds_cell (w := wr.drew) hw4 hlt; have HB4 := Lib.hid (undrew (w := wr) (w' := w4) (by subst hw4; exact boxN_any wr.drew _)); clear hw4))
        all_goals
          have k4 := (HB4.out.block b5 (by omega)).trans K5.out
          have z0' := cell_of_row _ _ 0 _ _ (0, 0) k4
          have z1' := frozen_of_row _ _ 0 _ _ k4
          have K6 := Lib.hid (heap_setCell_same w4 b5 0 _ _ (.int .i64 ((m : Int) + 1)) k4)
          have HB6 := Lib.hid ((HB.out.trans (HB4.out.mono (by omega))).setCell (p := ⟨b5, 0, none⟩) (Nat.le_refl _) (.int .i64 ((m : Int) + 1)))
          clear k4 u0 u1 HB4 z0 z1
          go_wp2
          go_roundw
          case rel => exact ⟨m + 1, by omega, by go_num, by rw [HR.out]; simpa using K6.out, HB6.out⟩
          case measure => simp [intOf]; omega
      | false =>
        have HR := Lib.hid (rk_no heq)
        go_wp2_with (fail)
        go_region_with (go_at_call 24; go_loud (refine (kinds_any wr.drew).mono ?_; rintro e w4 ⟨rfl, hw4⟩; have u0 : w4.cell? ⟨gT, 0, none⟩ = some (.string x) := (by subst hw4; exact ((boxN_any wr.drew _).cell (p := ⟨gT, 0, none⟩) (by show gT < wr.heap.size; omega)).trans t0); have u1 : w4.cell? ⟨wr.heap.size, m, none⟩ = some (.string (lwB (m + 1))) := kinds_cell (w := wr.drew) hw4 hlt; have HB4 := Lib.hid (undrew (w := wr) (w' := w4) (by subst hw4; exact boxN_any wr.drew _)); clear hw4))
        all_goals
          have k4 := Lib.hid ((HB4.out.block b5 (by omega)).trans K5.out)
          have HB6 := Lib.hid (HB.out.trans (HB4.out.mono (by omega)))
          clear u0 u1 HB4 z0 z1
          go_wp2
          go_roundw
          case rel => exact ⟨m + 1, by omega, by go_num, by rw [HR.out]; exact k4.out, HB6.out⟩
          case measure => simp [intOf]; omega
    · have hm4 : m = 4 := by omega
      subst hm4
      obtain ⟨wl, rfl⟩ : ∃ wl, wl = wr := ⟨_, rfl⟩
      rw [rk_all] at hk5
      have hlt' : decide (((4 : Nat) : Int) < 4) = false := decide_eq_false (by omega)
      have PR := Lib.hid ((HB.out.block w.heap.size (by omega)).trans P3.out)
      have HBR := Lib.hid (HB3.out.trans (HB.out.mono (by omega)))
      have HTR : Hid (∀ m, m < T.length → wl.cell? ⟨gT, m, none⟩ = some (.string (wx T m))) := Lib.hid fun m hm => (HB.out.cell (p := ⟨gT, m, none⟩) hltT).trans (HTC3.out m hm)
      obtain ⟨k, hk⟩ : ∃ k : Int, (kn x : Int) = k := ⟨_, rfl⟩
      have HKX : Hid ((kn (wx T 0) : Int) = k) := Lib.hid (by rw [← HX.out]; exact hk)
      rw [hk] at hk5
      have S5 := Lib.hid hk5
      clear HX HB3 HTC3 P3 S3 HB t0 hk hk5
      have own9 := intsN_made wl
      have bel9 := (Below.refl wl.heap.size wl).alloc (Nat.le_refl _) (.cells #[] 2)
      have HO9 := Lib.hid own9; have HB9 := Lib.hid bel9
      have hTc : T.length ≤ 1048577 := HTS.out
      clear own9 bel9
      go_wp2_with (fail)
      go_loopw [7, 8] (fun o i wr => ∃ (m j : Nat) (Ar : Option Addr) (cr : Nat), j = m + 1 ∧ j ≤ T.length ∧ i = .int .i64 (j : Int) ∧ o = .slice Ar m cr ∧ wr.ownsRow wl.heap.size 2 1 (.slice Ar m cr) m (wxV T m) ∧ Below wl.heap.size wl wr) (fun _ i _ => T.length - (intOf i).toNat)
      case atStart => exact ⟨0, 1, _, _, rfl, hT0, rfl, rfl, HO9.out, HB9.out⟩
      case round =>
        obtain ⟨m, j, Ar, cr, hj, hmY, rfl, rfl, ho, hb⟩ := hrel
        have HO := Lib.hid ho; have HB := Lib.hid hb
        have hsq := hb.size
        have HJ := Lib.hid hj
        clear ho hb hj
        by_cases hlt : j < T.length
        · have hd2 : decide ((j : Int) < (T.length : Int)) = true := decide_eq_true (by omega)
          have hjl' : (j : Int) < (T.length : Int) := by omega
          have tj := (HB.out.cell (p := ⟨gT, j, none⟩) (by show gT < wl.heap.size; omega)).trans (HTR.out j hlt)
          have HN := Lib.hid (readNumber_any (wx T j) wr (by have := HWS.out j; unfold maxLen; omega))
          cases hok : (rdN (wx T j)).2 with
          | false =>
            rw [hok] at HN
            go_wp2_with (fail)
            refine HN.out.mono ?_
            rintro e w' ⟨rfl, rfl⟩
            have qz := (HB.out.block w.heap.size (by omega)).trans PR.out
            have HF : Hid (rlB t = false) := Lib.hid (by
              cases h : rlB t with
              | false => rfl
              | true => exact absurd ((HM.out h).1 j (by have := HJ.out; omega) hlt) (by rw [hok]; decide))
            obtain ⟨z0, z1, z2, z3⟩ := cells4 qz
            have f0 := frozen_of_row _ _ 0 _ _ qz; have f1 := frozen_of_row _ _ 1 _ _ qz; have f2 := frozen_of_row _ _ 2 _ _ qz; have f3 := frozen_of_row _ _ 3 _ _ qz
            have H6 := Lib.hid (set4_at qz (.int .i64 0) (.int .i64 0) (.int .i64 0) (.int .i64 0))
            have HB6 := Lib.hid (set4_below (HBR.out.trans (HB.out.mono (by omega))) (Nat.le_refl _) (.int .i64 0) (.int .i64 0) (.int .i64 0) (.int .i64 0))
            go_wp2
            (try simp only [Exit.inBlock, Exit.then])
            refine bodyPost_ret (results_link rfl _ _ w.heap.size _ _ (0, 0) _ rfl H6.out Tryd.underlying25 rfl (by kernel_rfl)) rfl ?_
            exact NOL.out _ HF.out HB6.out
          | true =>
            rw [hok] at HN
            have EV : Hid (((rdN (wx T j)).1 : Int) = wn T (m + 1)) := Lib.hid (by rw [HJ.out]; rfl)
            rw [EV.out] at HN
            generalize hv : wn T (m + 1) = v at *
            have HV := Lib.hid hv
            clear EV hok hv
            have hj1 : IntKind.i64.wrap ((j : Int) + 1) = (j : Int) + 1 := IntWalk.i64_in _ (by omega)
            go_wp2_with (fail)
            refine HN.out.mono ?_
            rintro e w' ⟨rfl, rfl⟩
            clear HN tj
            have hm4 : m ≤ 1048577 := by have := HJ.out; have := HTS.out; omega
            go_wp2_with (at_builtin; refine wpList_append_lies _ rfl _ _ _ rfl wl.heap.size 2 i0 (.int .i64 0) 1 8 Tryd.underlying34 HI.out HZ0.out HZ1.out HZ2.out rfl (by decide) _ _ _ rfl (HO.out.alloc _) ⟨wr.heap.size, 0, none⟩ 1 1 [.int .i64 v] rfl rfl (cell_one_new _ _ _) (by simp [Value.oneCell']) (by decide) (by simp only [maxLen]; omega) (by omega) (by simp; omega) _ rfl ?_; intro g7 cap7 w7 hown7 hgrow7 hat7 hlt7)
            have HB7 := Lib.hid ((HB.out.alloc hsq (.cells #[.int .i64 v] 2)).grown hgrow7 (by simp; omega) (fun q hq => (HO.out.lt q hq).1))
            have HO7 := Lib.hid hown7
            clear hgrow7 hown7 hat7
            go_wp2
            go_roundw
            case rel =>
              repeat apply Exists.intro
              refine ⟨?rel2, rfl⟩
              exact ⟨m + 1, j + 1, _, _, by have := HJ.out; omega, by omega, by go_num, rfl, by rw [← wxV_step, HV.out]; exact HO7.out, HB7.out⟩
            case measure => simp [intOf]; omega
        · have hd2 : decide ((j : Int) < (T.length : Int)) = false := decide_eq_false (by omega)
          have hmm : m + 1 = T.length := by have := HJ.out; omega
          have hjT : (j : Int) = (T.length : Int) := by omega
          have PQ := Lib.hid ((HB.out.block w.heap.size (by omega)).trans PR.out)
          have HBQ := Lib.hid (HBR.out.trans (HB.out.mono (by omega)))
          have S6 := Lib.hid ((HB.out.block b5 (by omega)).trans S5.out)
          have hb5q : b5 < wr.heap.size := by omega
          clear HB9 HO9 PR HBR HTR S5
          by_cases h23 : m = 2 ∨ m = 3
          · rcases h23 with rfl | rfl
            · obtain ⟨q, cap, hv, hlo, hlq⟩ := HO.out.form (by omega)
              have hA : Ar = some ⟨q, 0, none⟩ ∧ cr = cap := by injection hv with x y z; exact ⟨x, z⟩
              obtain ⟨rfl, rfl⟩ := hA
              have e0 := (HO.out.cellAt 0 (by omega)).trans (wxV_at (by omega))
              have e1 := (HO.out.cellAt 1 (by omega)).trans (wxV_at (by omega))
              have HMK : Hid (mkk T = ⟨k, wn T 1, wn T 2, 0⟩) := Lib.hid (by unfold mkk; rw [HKX.out, if_neg (by omega)])
              obtain ⟨n1, hn1⟩ : ∃ n, wn T 1 = n := ⟨_, rfl⟩
              obtain ⟨n2, hn2⟩ : ∃ n, wn T 2 = n := ⟨_, rfl⟩
              rw [show (0 : Nat) + 1 = 1 from rfl, hn1] at e0
              rw [show (1 : Nat) + 1 = 2 from rfl, hn2] at e1
              rw [hn1, hn2] at HMK
              clear hn1 hn2 hv
              obtain ⟨n3, hn3⟩ : ∃ n : Int, 0 = n := ⟨_, rfl⟩
              have S6' := S6.out
              have HMK' : Hid (mkk T = ⟨k, n1, n2, n3⟩) := Lib.hid (by rw [← hn3]; exact HMK.out)
              clear HMK
              have HMK := HMK'
              clear HMK'
              have S6c : wr.heap[b5]? = some (.cells #[.int .i64 k, .int .i64 0, .int .i64 0, .int .i64 n3] 25 (0, 0)) := by rw [← hn3]; exact S6'
              clear S6 S6' hn3
              have S6 := Lib.hid S6c
              clear S6c
              have hne5 : q ≠ b5 := by omega
              obtain ⟨c0, c1, c2, c3⟩ := cells4 S6.out
              have g1 := frozen_of_row _ _ 1 _ _ S6.out; have g2 := frozen_of_row _ _ 2 _ _ S6.out; have g3 := frozen_of_row _ _ 3 _ _ S6.out
              obtain ⟨w7, hw7⟩ : ∃ u, u = (wr.setCell ⟨b5, 1, none⟩ (.int .i64 n1)).setCell ⟨b5, 2, none⟩ (.int .i64 n2) := ⟨_, rfl⟩
              have S7 : w7.heap[b5]? = some (.cells #[.int .i64 k, .int .i64 n1, .int .i64 n2, .int .i64 n3] 25 (0, 0)) := by
                rw [hw7]
                have h1 := heap_setCell_same _ b5 1 _ _ (.int .i64 n1) S6.out
                have h2 := heap_setCell_same _ b5 2 _ _ (.int .i64 n2) h1
                simpa using h2
              have B7 : Below b5 wr w7 := by rw [hw7]; exact ((Below.refl b5 wr).setCell (p := ⟨b5, 1, none⟩) (Nat.le_refl _) (.int .i64 n1)).setCell (p := ⟨b5, 2, none⟩) (Nat.le_refl _) (.int .i64 n2)
              have P7 := Lib.hid ((B7.block w.heap.size (by omega)).trans PQ.out)
              have HB7 := Lib.hid (HBQ.out.trans (B7.mono (by omega)))
              have hs7 := B7.size
              have S8 := Lib.hid S7
              have HLT := Lib.hid (sLinkText_any k n1 n2 n3 w7)
              have HEQ : Hid (rlB t = true → ((ltT k n1 n2 n3).toList == t.toList) = true) := Lib.hid fun h => by have h1 := (HM.out h).2.2; rw [HMK.out] at h1; rw [← h1.1] at h1; exact h1.2
              have HYS : Hid (((ltT k n1 n2 n3).toList == t.toList) = true → t.size ≠ 0 → rlB t = true ∧ rlV t = ⟨k, n1, n2, n3⟩) := Lib.hid fun h h0 => HBK.out ⟨k, n1, n2, n3⟩ h h0
              clear B7 HMK PQ HBQ HM HBK HKX hmm hjT
              generalize ltT k n1 n2 n3 = X at *
              have HW7 := Lib.hid hw7
              have HS7 := Lib.hid S7
              clear hw7 S7
              go_upto_region 22 with (fail)
              rw [← HW7.out]
              clear HW7 c0 c1 c2 c3 g1 g2 g3 e0 e1
              obtain ⟨d0, d1, d2, d3⟩ := cells4 HS7.out
              go_wp2_with (fail)
              clear d0 d1 d2 d3
              refine HLT.out.mono ?_
              rintro e w8 ⟨rfl, bel8⟩
              have P8 := Lib.hid ((bel8.block w.heap.size (by omega)).trans P7.out)
              have HB8 := Lib.hid (HB7.out.trans (bel8.mono HB7.out.size))
              have S9 := Lib.hid ((bel8.block b5 (by omega)).trans S8.out)
              clear bel8 P7 HB7 S8 HLT
              cases hq : (X.toList == t.toList) with
              | false =>
                have HF : Hid (rlB t = false) := Lib.hid (by
                  cases h : rlB t with
                  | false => rfl
                  | true => exact absurd (HEQ.out h) (by rw [hq]; decide))
                obtain ⟨z0, z1, z2, z3⟩ := cells4 P8.out
                have f0 := frozen_of_row _ _ 0 _ _ P8.out; have f1 := frozen_of_row _ _ 1 _ _ P8.out; have f2 := frozen_of_row _ _ 2 _ _ P8.out; have f3 := frozen_of_row _ _ 3 _ _ P8.out
                have H6 := Lib.hid (set4_at P8.out (.int .i64 0) (.int .i64 0) (.int .i64 0) (.int .i64 0))
                have HB6 := Lib.hid (set4_below HB8.out (Nat.le_refl _) (.int .i64 0) (.int .i64 0) (.int .i64 0) (.int .i64 0))
                go_wp2
                (try simp only [Exit.inBlock, Exit.then])
                refine bodyPost_ret (results_link rfl _ _ w.heap.size _ _ (0, 0) _ rfl H6.out Tryd.underlying25 rfl (by kernel_rfl)) rfl ?_
                exact NOL.out _ HF.out HB6.out
              | true =>
                by_cases h0 : t.size = 0
                · have hnil := HNIL.out h0
                  have hq1 : t.toList = [] := by rw [ByteArray.toList_eq]; rw [size_list] at h0; exact List.length_eq_zero_iff.1 h0
                  have hq2 : X.toList = [] := (eq_of_beq hq).trans hq1
                  have HF : Hid (rlB t = false) := Lib.hid (hnil)
                  obtain ⟨z0, z1, z2, z3⟩ := cells4 P8.out
                  have f0 := frozen_of_row _ _ 0 _ _ P8.out; have f1 := frozen_of_row _ _ 1 _ _ P8.out; have f2 := frozen_of_row _ _ 2 _ _ P8.out; have f3 := frozen_of_row _ _ 3 _ _ P8.out
                  have H6 := Lib.hid (set4_at P8.out (.int .i64 0) (.int .i64 0) (.int .i64 0) (.int .i64 0))
                  have HB6 := Lib.hid (set4_below HB8.out (Nat.le_refl _) (.int .i64 0) (.int .i64 0) (.int .i64 0) (.int .i64 0))
                  go_wp2
                  (try simp only [Exit.inBlock, Exit.then])
                  refine bodyPost_ret (results_link rfl _ _ w.heap.size _ _ (0, 0) _ rfl H6.out Tryd.underlying25 rfl (by kernel_rfl)) rfl ?_
                  exact NOL.out _ HF.out HB6.out
                · have hq1 : ¬ t.toList = [] := fun e => h0 (by rw [size_list, ← ByteArray.toList_eq, e]; rfl)
                  have hq2 : t.toList.isEmpty = false := by cases hz : t.toList with
                    | nil => exact absurd hz hq1
                    | cons x y => rfl
                  have HYY := Lib.hid (HYS.out hq h0)
                  clear HYS HEQ NOL
                  obtain ⟨y0, y1, y2, y3⟩ := cells4 S9.out
                  obtain ⟨z0, z1, z2, z3⟩ := cells4 P8.out
                  have f0 := frozen_of_row _ _ 0 _ _ P8.out; have f1 := frozen_of_row _ _ 1 _ _ P8.out; have f2 := frozen_of_row _ _ 2 _ _ P8.out; have f3 := frozen_of_row _ _ 3 _ _ P8.out
                  have H6 := Lib.hid (set4_at P8.out (.int .i64 k) (.int .i64 n1) (.int .i64 n2) (.int .i64 n3))
                  have HB6 := Lib.hid (set4_below HB8.out (Nat.le_refl _) (.int .i64 k) (.int .i64 n1) (.int .i64 n2) (.int .i64 n3))
                  go_wp2
                  (try simp only [Exit.inBlock, Exit.then])
                  refine bodyPost_ret (results_link rfl _ _ w.heap.size _ _ (0, 0) _ rfl H6.out Tryd.underlying25 rfl (by kernel_rfl)) rfl ?_
                  rw [HYY.out.1, HYY.out.2]
                  exact ⟨rfl, HB6.out⟩
            · obtain ⟨q, cap, hv, hlo, hlq⟩ := HO.out.form (by omega)
              have hA : Ar = some ⟨q, 0, none⟩ ∧ cr = cap := by injection hv with x y z; exact ⟨x, z⟩
              obtain ⟨rfl, rfl⟩ := hA
              have e0 := (HO.out.cellAt 0 (by omega)).trans (wxV_at (by omega))
              have e1 := (HO.out.cellAt 1 (by omega)).trans (wxV_at (by omega))
              have e2 := (HO.out.cellAt 2 (by omega)).trans (wxV_at (by omega))
              have HMK : Hid (mkk T = ⟨k, wn T 1, wn T 2, wn T 3⟩) := Lib.hid (by unfold mkk; rw [HKX.out, if_pos (by omega)])
              obtain ⟨n1, hn1⟩ : ∃ n, wn T 1 = n := ⟨_, rfl⟩
              obtain ⟨n2, hn2⟩ : ∃ n, wn T 2 = n := ⟨_, rfl⟩
              obtain ⟨n3, hn3⟩ : ∃ n, wn T 3 = n := ⟨_, rfl⟩
              rw [show (0 : Nat) + 1 = 1 from rfl, hn1] at e0
              rw [show (1 : Nat) + 1 = 2 from rfl, hn2] at e1
              rw [show (2 : Nat) + 1 = 3 from rfl, hn3] at e2
              rw [hn1, hn2, hn3] at HMK
              clear hn1 hn2 hn3 hv
              have hne5 : q ≠ b5 := by omega
              obtain ⟨c0, c1, c2, c3⟩ := cells4 S6.out
              have g1 := frozen_of_row _ _ 1 _ _ S6.out; have g2 := frozen_of_row _ _ 2 _ _ S6.out; have g3 := frozen_of_row _ _ 3 _ _ S6.out
              obtain ⟨w7, hw7⟩ : ∃ u, u = ((wr.setCell ⟨b5, 1, none⟩ (.int .i64 n1)).setCell ⟨b5, 2, none⟩ (.int .i64 n2)).setCell ⟨b5, 3, none⟩ (.int .i64 n3) := ⟨_, rfl⟩
              have S7 : w7.heap[b5]? = some (.cells #[.int .i64 k, .int .i64 n1, .int .i64 n2, .int .i64 n3] 25 (0, 0)) := by
                rw [hw7]
                have h1 := heap_setCell_same _ b5 1 _ _ (.int .i64 n1) S6.out
                have h2 := heap_setCell_same _ b5 2 _ _ (.int .i64 n2) h1
                have h3 := heap_setCell_same _ b5 3 _ _ (.int .i64 n3) h2
                simpa using h3
              have B7 : Below b5 wr w7 := by rw [hw7]; exact (((Below.refl b5 wr).setCell (p := ⟨b5, 1, none⟩) (Nat.le_refl _) (.int .i64 n1)).setCell (p := ⟨b5, 2, none⟩) (Nat.le_refl _) (.int .i64 n2)).setCell (p := ⟨b5, 3, none⟩) (Nat.le_refl _) (.int .i64 n3)
              have P7 := Lib.hid ((B7.block w.heap.size (by omega)).trans PQ.out)
              have HB7 := Lib.hid (HBQ.out.trans (B7.mono (by omega)))
              have hs7 := B7.size
              have S8 := Lib.hid S7
              have HLT := Lib.hid (sLinkText_any k n1 n2 n3 w7)
              have HEQ : Hid (rlB t = true → ((ltT k n1 n2 n3).toList == t.toList) = true) := Lib.hid fun h => by have h1 := (HM.out h).2.2; rw [HMK.out] at h1; rw [← h1.1] at h1; exact h1.2
              have HYS : Hid (((ltT k n1 n2 n3).toList == t.toList) = true → t.size ≠ 0 → rlB t = true ∧ rlV t = ⟨k, n1, n2, n3⟩) := Lib.hid fun h h0 => HBK.out ⟨k, n1, n2, n3⟩ h h0
              clear B7 HMK PQ HBQ HM HBK HKX hmm hjT
              generalize ltT k n1 n2 n3 = X at *
              have HW7 := Lib.hid hw7
              have HS7 := Lib.hid S7
              clear hw7 S7
              go_upto_region 22 with (fail)
              rw [← HW7.out]
              clear HW7 c0 c1 c2 c3 g1 g2 g3 e0 e1 e2
              obtain ⟨d0, d1, d2, d3⟩ := cells4 HS7.out
              go_wp2_with (fail)
              clear d0 d1 d2 d3
              refine HLT.out.mono ?_
              rintro e w8 ⟨rfl, bel8⟩
              have P8 := Lib.hid ((bel8.block w.heap.size (by omega)).trans P7.out)
              have HB8 := Lib.hid (HB7.out.trans (bel8.mono HB7.out.size))
              have S9 := Lib.hid ((bel8.block b5 (by omega)).trans S8.out)
              clear bel8 P7 HB7 S8 HLT
              cases hq : (X.toList == t.toList) with
              | false =>
                have HF : Hid (rlB t = false) := Lib.hid (by
                  cases h : rlB t with
                  | false => rfl
                  | true => exact absurd (HEQ.out h) (by rw [hq]; decide))
                obtain ⟨z0, z1, z2, z3⟩ := cells4 P8.out
                have f0 := frozen_of_row _ _ 0 _ _ P8.out; have f1 := frozen_of_row _ _ 1 _ _ P8.out; have f2 := frozen_of_row _ _ 2 _ _ P8.out; have f3 := frozen_of_row _ _ 3 _ _ P8.out
                have H6 := Lib.hid (set4_at P8.out (.int .i64 0) (.int .i64 0) (.int .i64 0) (.int .i64 0))
                have HB6 := Lib.hid (set4_below HB8.out (Nat.le_refl _) (.int .i64 0) (.int .i64 0) (.int .i64 0) (.int .i64 0))
                go_wp2
                (try simp only [Exit.inBlock, Exit.then])
                refine bodyPost_ret (results_link rfl _ _ w.heap.size _ _ (0, 0) _ rfl H6.out Tryd.underlying25 rfl (by kernel_rfl)) rfl ?_
                exact NOL.out _ HF.out HB6.out
              | true =>
                by_cases h0 : t.size = 0
                · have hnil := HNIL.out h0
                  have hq1 : t.toList = [] := by rw [ByteArray.toList_eq]; rw [size_list] at h0; exact List.length_eq_zero_iff.1 h0
                  have hq2 : X.toList = [] := (eq_of_beq hq).trans hq1
                  have HF : Hid (rlB t = false) := Lib.hid (hnil)
                  obtain ⟨z0, z1, z2, z3⟩ := cells4 P8.out
                  have f0 := frozen_of_row _ _ 0 _ _ P8.out; have f1 := frozen_of_row _ _ 1 _ _ P8.out; have f2 := frozen_of_row _ _ 2 _ _ P8.out; have f3 := frozen_of_row _ _ 3 _ _ P8.out
                  have H6 := Lib.hid (set4_at P8.out (.int .i64 0) (.int .i64 0) (.int .i64 0) (.int .i64 0))
                  have HB6 := Lib.hid (set4_below HB8.out (Nat.le_refl _) (.int .i64 0) (.int .i64 0) (.int .i64 0) (.int .i64 0))
                  go_wp2
                  (try simp only [Exit.inBlock, Exit.then])
                  refine bodyPost_ret (results_link rfl _ _ w.heap.size _ _ (0, 0) _ rfl H6.out Tryd.underlying25 rfl (by kernel_rfl)) rfl ?_
                  exact NOL.out _ HF.out HB6.out
                · have hq1 : ¬ t.toList = [] := fun e => h0 (by rw [size_list, ← ByteArray.toList_eq, e]; rfl)
                  have hq2 : t.toList.isEmpty = false := by cases hz : t.toList with
                    | nil => exact absurd hz hq1
                    | cons x y => rfl
                  have HYY := Lib.hid (HYS.out hq h0)
                  clear HYS HEQ NOL
                  obtain ⟨y0, y1, y2, y3⟩ := cells4 S9.out
                  obtain ⟨z0, z1, z2, z3⟩ := cells4 P8.out
                  have f0 := frozen_of_row _ _ 0 _ _ P8.out; have f1 := frozen_of_row _ _ 1 _ _ P8.out; have f2 := frozen_of_row _ _ 2 _ _ P8.out; have f3 := frozen_of_row _ _ 3 _ _ P8.out
                  have H6 := Lib.hid (set4_at P8.out (.int .i64 k) (.int .i64 n1) (.int .i64 n2) (.int .i64 n3))
                  have HB6 := Lib.hid (set4_below HB8.out (Nat.le_refl _) (.int .i64 k) (.int .i64 n1) (.int .i64 n2) (.int .i64 n3))
                  go_wp2
                  (try simp only [Exit.inBlock, Exit.then])
                  refine bodyPost_ret (results_link rfl _ _ w.heap.size _ _ (0, 0) _ rfl H6.out Tryd.underlying25 rfl (by kernel_rfl)) rfl ?_
                  rw [HYY.out.1, HYY.out.2]
                  exact ⟨rfl, HB6.out⟩
          · have NM := Lib.hid (show rlB t = false by
            cases h : rlB t with
            | false => rfl
            | true => exact absurd (HM.out h).2.1 (by omega))
            by_cases hm2 : m < 2
            · have hd3 : decide ((m : Int) < 2) = true := decide_eq_true (by omega)
              have hd3' : (m : Int) < 2 := by omega
              have PZ := PQ.out
              have HF : Hid (rlB t = false) := Lib.hid (NM.out)
              obtain ⟨z0, z1, z2, z3⟩ := cells4 PZ
              have f0 := frozen_of_row _ _ 0 _ _ PZ; have f1 := frozen_of_row _ _ 1 _ _ PZ; have f2 := frozen_of_row _ _ 2 _ _ PZ; have f3 := frozen_of_row _ _ 3 _ _ PZ
              have H6 := Lib.hid (set4_at PZ (.int .i64 0) (.int .i64 0) (.int .i64 0) (.int .i64 0))
              have HB6 := Lib.hid (set4_below HBQ.out (Nat.le_refl _) (.int .i64 0) (.int .i64 0) (.int .i64 0) (.int .i64 0))
              go_wp2
              (try simp only [Exit.inBlock, Exit.then])
              refine bodyPost_ret (results_link rfl _ _ w.heap.size _ _ (0, 0) _ rfl H6.out Tryd.underlying25 rfl (by kernel_rfl)) rfl ?_
              exact NOL.out _ HF.out HB6.out
            · have hd3 : decide ((m : Int) < 2) = false := decide_eq_false (by omega)
              have hd3' : ¬ (m : Int) < 2 := by omega
              have hd4 : decide (3 < (m : Int)) = true := decide_eq_true (by omega)
              have hd4' : (3 : Int) < (m : Int) := by omega
              have PZ := PQ.out
              have HF : Hid (rlB t = false) := Lib.hid (NM.out)
              obtain ⟨z0, z1, z2, z3⟩ := cells4 PZ
              have f0 := frozen_of_row _ _ 0 _ _ PZ; have f1 := frozen_of_row _ _ 1 _ _ PZ; have f2 := frozen_of_row _ _ 2 _ _ PZ; have f3 := frozen_of_row _ _ 3 _ _ PZ
              have H6 := Lib.hid (set4_at PZ (.int .i64 0) (.int .i64 0) (.int .i64 0) (.int .i64 0))
              have HB6 := Lib.hid (set4_below HBQ.out (Nat.le_refl _) (.int .i64 0) (.int .i64 0) (.int .i64 0) (.int .i64 0))
              go_wp2
              (try simp only [Exit.inBlock, Exit.then])
              refine bodyPost_ret (results_link rfl _ _ w.heap.size _ _ (0, 0) _ rfl H6.out Tryd.underlying25 rfl (by kernel_rfl)) rfl ?_
              exact NOL.out _ HF.out HB6.out
end Go.Proofs.YtagjlilbcldfaaaDoor
