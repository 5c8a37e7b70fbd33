/- The program's axiomsBetween and joinsAmong: rows of links of the call's own. Made by mkldb.py. -/
import Derived.Test.YtfanapddopafiaaDoorLdA
import Derived.Test.YtfanapddopafiaaDoorQPgJ
import Derived.Deep.RegionHeldLaw
import Derived.Deep.DeepCutAuto
namespace Go.Proofs.YtfanapddopafiaaDoor
set_option linter.unusedSimpArgs false
set_option linter.unusedVariables false
open Go.ChangeAt Go.ChangeShapes Go.RowKit Go.WideShapes

theorem flL_appw : ∀ xs ys : List Lk, flL (xs ++ ys) = flL xs ++ flL ys
  | [], _ => rfl
  | x :: xs, ys => by simp [flL, flL_appw xs ys]
theorem four_newW (w : World) (a b c d : Value) (t : TypeId) : ∀ j u, [a, b, c, d][j]? = some u → (w.alloc (.cells #[a, b, c, d] t)).cell? ((⟨w.heap.size, 0, none⟩ : Addr).add j) = some u := by
  intro j u hu
  match j, hu with
  | 0, hu => obtain rfl := Option.some.inj hu; simp [Addr.add]
  | 1, hu => obtain rfl := Option.some.inj hu; simp [Addr.add]
  | 2, hu => obtain rfl := Option.some.inj hu; simp [Addr.add]
  | 3, hu => obtain rfl := Option.some.inj hu; simp [Addr.add]
  | k + 4, hu => simp at hu
theorem four_at {w : World} {g : Nat} {a b c d : Value} (c0 : w.cell? ⟨g, 0, none⟩ = some a) (c1 : w.cell? ⟨g, 1, none⟩ = some b) (c2 : w.cell? ⟨g, 2, none⟩ = some c) (c3 : w.cell? ⟨g, 3, none⟩ = some d) : ∀ j u, [a, b, c, d][j]? = some u → w.cell? ((⟨g, 0, none⟩ : Addr).add j) = some u := by
  intro j u hu
  match j, hu with
  | 0, hu => obtain rfl := Option.some.inj hu; simpa [Addr.add] using c0
  | 1, hu => obtain rfl := Option.some.inj hu; simpa [Addr.add] using c1
  | 2, hu => obtain rfl := Option.some.inj hu; simpa [Addr.add] using c2
  | 3, hu => obtain rfl := Option.some.inj hu; simpa [Addr.add] using c3
  | k + 4, hu => simp at hu
theorem givesL_of {w w' : World} {v : Value} {n : Nat} {ls ms : List Lk} (h : w'.ownsRow w.heap.size 71 4 v n ((flL ls).map (Value.int .i64))) (hn : n = ls.length) (hx : ls = ms) (hv : ∃ A c, v = .slice A n c) (bel : Below w.heap.size w w') : GivesL w ms (.returned v) w' := by
  subst hn; subst hx
  obtain ⟨A, c, rfl⟩ := hv
  exact ⟨A, c, rfl, h, bel⟩
theorem own_shape4w {w : World} {base n : Nat} {e : TypeId} {v : Value} {xs : List Value} (h : w.ownsRow base e 4 v n xs) : ∃ A c, v = .slice A n c := by
  rcases h.2 with ⟨rfl, rfl⟩ | ⟨g, cap, cur, rfl, _, _, hn, _⟩
  · exact ⟨_, _, rfl⟩
  · exact ⟨_, _, rfl⟩
set_option maxRecDepth 100000 in
set_option maxHeartbeats 500000 in
theorem axiomsBetween_any (A B : Option Addr) (c d : Nat) (L M : List Int) (w : World) (hL : RdI w w.heap.size A L.length L) (hM : RdI w w.heap.size B M.length M) (hm : M.length ≤ 240) (hin : ∀ i, i < M.length → inW L.length (M.getD i 0) = true) (hlm : M.length = L.length) :
    Calls Tryd.prog 62 #[.slice A L.length c, .slice B M.length d] w (GivesL w (axW L M)) := by
  obtain ⟨i0, hi0, hz0, hz1, hz2⟩ := info_parts_link
  have HI := Lib.hid hi0; have HZ0 := Lib.hid hz0; have HZ1 := Lib.hid hz1; have HZ2 := Lib.hid hz2
  have HL := Lib.hid (fun (wx : World) (hx : Below w.heap.size w wx) => hL.below hx)
  have HM := Lib.hid (fun (wx : World) (hx : Below w.heap.size w wx) => hM.below hx)
  have HIN := Lib.hid hin; have HLM := Lib.hid hlm
  clear hL hM hin hlm hi0 hz0 hz1 hz2
  go_enter Tryd.func62, Tryd.ntmps62
  go_wp2
  go_loopw [5, 10] (fun v i wr => ∃ k : Nat, k ≤ M.length ∧ i = .int .i64 k ∧ wr.ownsRow w.heap.size 71 4 v (axU L M k).length ((flL (axU L M k)).map (Value.int .i64)) ∧ Below w.heap.size w wr) (fun _ i _ => M.length - (intOf i).toNat)
  case atStart => exact ⟨0, Nat.zero_le _, rfl, ⟨by simp [axU, fltU, flL], .inl ⟨rfl, rfl⟩⟩, Below.refl _ _⟩
  case round =>
    obtain ⟨k, hk, rfl, hown, hB⟩ := hrel
    by_cases hlt : k < M.length
    · obtain ⟨bm, offm, hBm, hbm, hcm⟩ := (HM.out _ hB).2 (by omega)
      have km := hcm k hlt
      have hinm := HIN.out k hlt
      have HYE := Lib.hid (fun e => fltU_yes (p := fun i => decide ((i : Int) < M.getD i 0)) (g := axL L M) (k := k) e)
      have HNO := Lib.hid (fun e => fltU_no (p := fun i => decide ((i : Int) < M.getD i 0)) (g := axL L M) (k := k) e)
      have hln : (axU L M k).length ≤ k := fltU_len _ _ k
      have HO := Lib.hid hown; have HB := Lib.hid hB
      have hsz := hB.size
      have HAX : Hid (axL L M k = ⟨1, L.getD k 0, L.getD (M.getD k 0).toNat 0, 0⟩) := Lib.hid rfl
      have hkL : k < L.length := by have := HLM.out; omega
      obtain ⟨z, hz⟩ : ∃ z, M.getD k 0 = z := ⟨_, rfl⟩
      rw [hz] at km hinm HYE HNO HAX
      obtain ⟨_, hiz, ez⟩ := inW_yes hinm
      obtain ⟨bl, offl, hAl, hbl, hcl⟩ := (HL.out _ hB).2 (by omega)
      have ca := hcl k hkL
      have cb := hcl z.toNat hiz
      generalize z.toNat = iz at *
      subst ez
      generalize L.getD k 0 = la at *
      generalize L.getD iz 0 = lb at *
      subst hBm
      clear hown hB hcm hz hinm hcl
      rw [hAl]
      clear hAl
      by_cases hd : (k : Int) < (iz : Int)
      · have hdd : decide ((k : Int) < (iz : Int)) = true := decide_eq_true hd
        have hdn : decide (k < iz) = true := decide_eq_true (by omega)
        have HSU := Lib.hid (show axU L M (k + 1) = axU L M k ++ [⟨1, la, lb, 0⟩] from by rw [← HAX.out]; exact HYE.out (by simpa using hd))
        have HLO := Lib.hid (fun wx => show Calls Tryd.prog 97 #[.int .i64 1, .int .i64 la, .int .i64 lb, .int .i64 0] wx fun e w' => e = .returned (.agg #[.int .i64 1, .int .i64 la, .int .i64 lb, .int .i64 0]) ∧ Below wx.heap.size wx w' from linkOf_any 1 la lb 0 wx)
        have hi1 : (k : Int) < (L.length : Int) := by omega
        have hi2 : (iz : Int) < (L.length : Int) := by omega
        have HSX : Hid (∀ wx : World, Below wr.heap.size wr wx → wx.cell? ⟨bl, offl + k, none⟩ = some (.int .i64 la) ∧ wx.cell? ⟨bl, offl + iz, none⟩ = some (.int .i64 lb)) := Lib.hid fun wx hx => ⟨(hx.cell (p := ⟨bl, offl + k, none⟩) (by show bl < _; omega)).trans ca, (hx.cell (p := ⟨bl, offl + iz, none⟩) (by show bl < _; omega)).trans cb⟩
        have FB_0 := Lib.hid (Below.refl wr.heap.size wr)
        have FO_0 := Lib.hid HO.out
        clear hd
        go_upto_region 6 with (fail)
        clear ca cb km
        refine wp_region_held_drew (S := fun wx => wx.cell? ⟨bl, offl + k, none⟩ = some (.int .i64 la) ∧ wx.cell? ⟨bl, offl + iz, none⟩ = some (.int .i64 lb)) (by kernel_rfl) (HSX.out _ (Below.refl _ _).drew) (fun hHeld => ?_)
        obtain ⟨wp1, hwp1⟩ : ∃ w', w' = wr.drew := ⟨_, rfl⟩
        rw [← hwp1] at hHeld ⊢
        have bp1 : Below wr.heap.size wr wp1 := by rw [hwp1]; exact (Below.refl _ _).drew
        clear hwp1
        have FB_p2 := Lib.hid ((FB_0.out).trans ((bp1).mono (FB_0.out).size))
        have FO_p3 := Lib.hid (own_below (FO_0.out) (bp1) (Nat.le_refl _))
        clear FB_0 FO_0
        refine wpAnyH_take (i := 0) (v := ?vp4) rfl (by kernel_rfl) (by kernel_rfl) (by kernel_rfl) (fun _ _ _ h => h) (Or.inl ⟨by rfl, ?yp4⟩) (by assumption) ?_
        case yp4 => (intro w hSw; (try dsimp only at hSw); go_simp; all_goals (with_reducible rfl))
        (try simp only [Act.put, List.setIfInBounds_toArray, List.set_cons_zero, List.set_cons_succ, List.getElem_toArray, List.getElem_cons_succ, List.getElem_cons_zero])
        refine wpAnyH_take (i := 1) (v := ?vp5) rfl (by kernel_rfl) (by kernel_rfl) (by kernel_rfl) (fun _ _ _ h => h) (Or.inl ⟨by rfl, ?yp5⟩) (by assumption) ?_
        case yp5 => (intro w hSw; (try dsimp only at hSw); go_simp; all_goals (with_reducible rfl))
        (try simp only [Act.put, List.setIfInBounds_toArray, List.set_cons_zero, List.set_cons_succ, List.getElem_toArray, List.getElem_cons_succ, List.getElem_cons_zero])
        refine wpAnyH_take (i := 2) (v := ?vp6) rfl (by kernel_rfl) (by kernel_rfl) (by kernel_rfl) (fun _ _ _ h => h) (Or.inl ⟨by rfl, ?yp6⟩) (by assumption) ?_
        case yp6 => (intro w hSw; (try dsimp only at hSw); go_simp; all_goals (with_reducible rfl))
        (try simp only [Act.put, List.setIfInBounds_toArray, List.set_cons_zero, List.set_cons_succ, List.getElem_toArray, List.getElem_cons_succ, List.getElem_cons_zero])
        refine wpAnyH_take (i := 5) (v := ?vp7) rfl (by kernel_rfl) (by kernel_rfl) (by kernel_rfl) (fun _ _ _ h => h) (Or.inl ⟨by rfl, ?yp7⟩) (by assumption) ?_
        case yp7 => (intro w hSw; (try dsimp only at hSw); go_simp; all_goals (with_reducible rfl))
        (try simp only [Act.put, List.setIfInBounds_toArray, List.set_cons_zero, List.set_cons_succ, List.getElem_toArray, List.getElem_cons_succ, List.getElem_cons_zero])
        refine wpAnyH_take (i := 6) (v := ?vp8) rfl (by kernel_rfl) (by kernel_rfl) (by kernel_rfl) (fun _ _ _ h => h) (Or.inl ⟨by rfl, ?yp8⟩) (by assumption) ?_
        case yp8 => (intro w hSw; (try dsimp only at hSw); go_simp; all_goals (with_reducible rfl))
        (try simp only [Act.put, List.setIfInBounds_toArray, List.set_cons_zero, List.set_cons_succ, List.getElem_toArray, List.getElem_cons_succ, List.getElem_cons_zero])
        refine wpAnyH_take (i := 3) (v := ?vp9) rfl (by kernel_rfl) (by kernel_rfl) (by kernel_rfl) (fun _ _ _ h => h) (Or.inl ⟨by rfl, ?yp9⟩) (by assumption) ?_
        case yp9 => (intro w hSw; (try dsimp only at hSw); go_simp; all_goals (with_reducible rfl))
        (try simp only [Act.put, List.setIfInBounds_toArray, List.set_cons_zero, List.set_cons_succ, List.getElem_toArray, List.getElem_cons_succ, List.getElem_cons_zero])
        refine wpAnyH_take (i := 7) (v := ?vp10) rfl (by kernel_rfl) (by kernel_rfl) (by kernel_rfl) (fun _ _ _ h => h) (Or.inl ⟨by rfl, ?yp10⟩) (by assumption) ?_
        case yp10 => (intro w hSw; (try dsimp only at hSw); go_simp; all_goals (with_reducible rfl))
        (try simp only [Act.put, List.setIfInBounds_toArray, List.set_cons_zero, List.set_cons_succ, List.getElem_toArray, List.getElem_cons_succ, List.getElem_cons_zero])
        refine wpAnyH_take (i := 4) (v := ?vp11) rfl (by kernel_rfl) (by kernel_rfl) (by kernel_rfl) (fun _ _ _ h => h) (Or.inl ⟨by rfl, ?yp11⟩) (by assumption) ?_
        case yp11 => (intro w hSw; (try dsimp only at hSw); go_simp; all_goals (with_reducible rfl))
        (try simp only [Act.put, List.setIfInBounds_toArray, List.set_cons_zero, List.set_cons_succ, List.getElem_toArray, List.getElem_cons_succ, List.getElem_cons_zero])
        refine wpAnyH_take (i := 8) (v := ?vp12) rfl (by kernel_rfl) (by kernel_rfl) (by kernel_rfl) (fun _ _ _ h => h) (Or.inl ⟨by rfl, ?yp12⟩) (by assumption) ?_
        case yp12 => (intro w hSw; (try dsimp only at hSw); go_simp; all_goals (with_reducible rfl))
        (try simp only [Act.put, List.setIfInBounds_toArray, List.set_cons_zero, List.set_cons_succ, List.getElem_toArray, List.getElem_cons_succ, List.getElem_cons_zero])
        refine wpAnyH_ready (rs := [9]) (by kernel_rfl) (by simp) ?_
        refine AllReadyH.cons rfl (fun K hK => ?_) ?_
        · go_simp
          refine (HLO.out wp1).mono ?_
          rintro e wp13 ⟨rfl, belp13⟩
          dsimp only
          have FB_p14 := Lib.hid ((FB_p2.out).trans ((belp13).mono (FB_p2.out).size))
          have FO_p15 := Lib.hid (own_below (FO_p3.out) (belp13) (Nat.le_refl _))
          clear FB_p2 FO_p3
          clear belp13
          refine hK.out _ _ (HSX.out _ FB_p14.out) (fun hHeld => ?_)
          clear hK K
          (try simp only [Act.put, List.setIfInBounds_toArray, List.set_cons_zero, List.set_cons_succ, List.getElem_toArray, List.getElem_cons_succ, List.getElem_cons_zero])
          refine wpAnyH_ready (rs := [10]) (by kernel_rfl) (by simp) ?_
          refine AllReadyH.cons rfl (fun K hK => ?_) ?_
          · go_simp
            obtain ⟨wp16, hwp16⟩ : ∃ w', w' = wp13.alloc (.cells #[.int .i64 1, .int .i64 la, .int .i64 lb, .int .i64 0] 71) := ⟨_, rfl⟩
            rw [← hwp16]
            have bp16 : Below wp13.heap.size wp13 wp16 := by rw [hwp16]; exact (Below.refl _ _).alloc (Nat.le_refl _) _
            have gp16 : wp16.heap[wp13.heap.size]? = some (.cells #[.int .i64 1, .int .i64 la, .int .i64 lb, .int .i64 0] 71 (0, 0)) := by rw [hwp16]; exact heap_alloc_new _ _
            clear hwp16
            have FB_p17 := Lib.hid ((FB_p14.out).trans ((bp16).mono (FB_p14.out).size))
            have FO_p18 := Lib.hid (own_below (FO_p15.out) (bp16) (Nat.le_refl _))
            clear FB_p14 FO_p15
            obtain ⟨gap19, hgp19⟩ : ∃ b, wp13.heap.size = b := ⟨_, rfl⟩
            have GB_p19 := Lib.hid gp16
            rw [hgp19] at GB_p19 ⊢
            clear hgp19 gp16 bp16
            refine hK.out _ _ (HSX.out _ FB_p17.out) (fun hHeld => ?_)
            clear hK K
            (try simp only [Act.put, List.setIfInBounds_toArray, List.set_cons_zero, List.set_cons_succ, List.getElem_toArray, List.getElem_cons_succ, List.getElem_cons_zero])
            refine wpAnyH_ready (rs := [11]) (by kernel_rfl) (by simp) ?_
            refine AllReadyH.cons rfl (fun K hK => ?_) ?_
            · have hs8 := FB_p17.out.size
              have HS8 := Lib.hid (show w.heap.size ≤ wp16.heap.size by omega)
              obtain ⟨H8, hH8⟩ : ∃ q, wp16.heap.size = q := ⟨_, rfl⟩
              have HH8 := Lib.hid hH8
              clear hH8
              obtain ⟨q0, q1, q2, q3⟩ := cells4 GB_p19.out
              refine step_append_lies _ rfl _ _ _ rfl _ 71 i0 (.agg #[.int .i64 0, .int .i64 0, .int .i64 0, .int .i64 0]) 4 32 Tryd.underlying29 HI.out HZ0.out HZ1.out HZ2.out rfl (by decide) _ (axU L M k).length ((flL (axU L M k)).map (Value.int .i64)) rfl FO_p18.out ⟨gap19, 0, none⟩ 1 1 [.int .i64 1, .int .i64 la, .int .i64 lb, .int .i64 0] rfl rfl (four_at q0 q1 q2 q3) (by simp [Value.oneCell']) (by decide) (by simp only [maxLen]; omega) (by omega) HS8.out H8 HH8.out ?_
              intro g9 cap9 w9 hown9 hgrow9 hat9 hlt9
              have HB9 := Lib.hid ((HB.out.trans (FB_p17.out.mono HB.out.size)).grown hgrow9 HS8.out (fun q hq => (FO_p18.out.lt q hq).1))
              have HLS := Lib.hid (show (axU L M (k + 1)).length = (axU L M k).length + 1 by rw [HSU.out, List.length_append]; rfl)
              have O9 : Hid (w9.ownsRow w.heap.size 71 4 (.slice (some ⟨g9, 0, none⟩) ((axU L M k).length + 1) cap9) (axU L M (k + 1)).length ((flL (axU L M (k + 1))).map (Value.int .i64))) := Lib.hid (by rw [HLS.out, HSU.out, flL_appw, List.map_append]; exact hown9)
              have HX9 := Lib.hid (And.intro ((World.cell?_of_block (a := ⟨bl, offl + k, none⟩) (hgrow9.block bl (by omega) (fun e => by have := (FO_p18.out.lt bl e.symm).1; omega))).trans (HSX.out _ FB_p17.out).1) ((World.cell?_of_block (a := ⟨bl, offl + iz, none⟩) (hgrow9.block bl (by omega) (fun e => by have := (FO_p18.out.lt bl e.symm).1; omega))).trans (HSX.out _ FB_p17.out).2))
              clear hown9 hgrow9 hat9 hlt9 q0 q1 q2 q3
              refine hK.out _ _ (HX9.out) (fun hHeld => ?_)
              clear hK K
              (try simp only [Act.put, List.setIfInBounds_toArray, List.set_cons_zero, List.set_cons_succ, List.getElem_toArray, List.getElem_cons_succ, List.getElem_cons_zero])
              refine wpAnyH_ready (rs := [12]) (by kernel_rfl) (by simp) ?_
              refine AllReadyH.cons rfl (fun K hK => ?_) ?_
              · go_simp
                refine hK.out _ _ hHeld (fun hHeld => ?_)
                clear hK K
                (try simp only [Act.put, List.setIfInBounds_toArray, List.set_cons_zero, List.set_cons_succ, List.getElem_toArray, List.getElem_cons_succ, List.getElem_cons_zero])
                refine wpAnyH_done (by kernel_rfl) ?_ _
                go_wp2
                go_roundw
                case rel => exact ⟨k + 1, by omega, by go_num, O9.out, HB9.out⟩
                case measure => simp [intOf]; omega
              exact AllReadyH.nil
            exact AllReadyH.nil
          exact AllReadyH.nil
        exact AllReadyH.nil
      · have hdd : decide ((k : Int) < (iz : Int)) = false := decide_eq_false hd
        have hdn : decide (k < iz) = false := decide_eq_false (by omega)
        have HSU := Lib.hid (show axU L M (k + 1) = axU L M k from HNO.out (by simpa using hd))
        clear hd
        go_wp2
        go_roundw
        case rel => exact ⟨k + 1, by omega, by go_num, (by rw [HSU.out]; exact HO.out), HB.out⟩
        case measure => simp [intOf]; omega
    · have hkl : k = M.length := by omega
      subst hkl
      have HG := Lib.hid (givesL_of hown rfl (show axU L M M.length = axW L M from rfl) (own_shape4w hown) hB)
      clear hown hB
      go_wp2
      go_ret
      exact HG.out
set_option maxHeartbeats 500000 in
theorem kindOfJoin_any (x : Int) (w : World) : Calls Tryd.prog 98 #[.int .i64 x] w fun e w' => e = .returned (.int .i64 (if x = 11 then 3 else 4)) ∧ w = w' := by
  have HOP := Lib.hid (fun wx => linkOperator_any 3 wx)
  rw [show opK 3 = 11 from by decide] at HOP
  by_cases h : x = 11
  · rw [if_pos h]
    have hd : (x == 11) = true := by simpa using h
    clear h
    go_enter Tryd.func98, Tryd.ntmps98
    go_wp2_with (fail)
    refine (HOP.out _).mono ?_
    rintro e w' ⟨rfl, rfl⟩
    go_wp2
    go_ret
    exact ⟨rfl, rfl⟩
  · rw [if_neg h]
    have hd : (x == 11) = false := by simpa using h
    clear h
    go_enter Tryd.func98, Tryd.ntmps98
    go_wp2_with (fail)
    refine (HOP.out _).mono ?_
    rintro e w' ⟨rfl, rfl⟩
    go_wp2
    go_ret
    exact ⟨rfl, rfl⟩
set_option maxRecDepth 100000 in
set_option maxHeartbeats 500000 in
theorem joinsAmong_any (A : Option Addr) (n c : Nat) (ws : List (List Int)) (w : World) (h : RdQ w w.heap.size A n ws) (hn : n ≤ 1000) (hp : ∀ k, k < ws.length → 0 < (ws.getD k []).length) (hnx : ∀ k, k < ws.length → hdB ws k = false → k + 1 < ws.length) (hq : ∀ k, (ws.getD k []).length ≤ 1000) :
    Calls Tryd.prog 64 #[.slice A n c] w (GivesL w (joW ws)) := by
  have hl := h.len
  subst hl
  obtain ⟨i0, hi0, hz0, hz1, hz2⟩ := info_parts_link
  have HI := Lib.hid hi0; have HZ0 := Lib.hid hz0; have HZ1 := Lib.hid hz1; have HZ2 := Lib.hid hz2
  have HR := Lib.hid (fun (wx : World) (hx : Below w.heap.size w wx) => show RdQ wx wx.heap.size A ws.length ws from (h.below hx).more hx.size)
  have HP := Lib.hid hp; have HNX := Lib.hid hnx; have HQ := Lib.hid hq
  clear h hp hnx hq hi0 hz0 hz1 hz2
  go_enter Tryd.func64, Tryd.ntmps64
  go_wp2
  go_loopw [3, 10] (fun v i wr => ∃ k : Nat, k ≤ ws.length ∧ i = .int .i64 k ∧ wr.ownsRow w.heap.size 71 4 v (joU ws k).length ((flL (joU ws k)).map (Value.int .i64)) ∧ Below w.heap.size w wr) (fun _ i _ => ws.length - (intOf i).toNat)
  case atStart => exact ⟨0, Nat.zero_le _, rfl, ⟨by simp [joU, fltU, flL], .inl ⟨rfl, rfl⟩⟩, Below.refl _ _⟩
  case round =>
    obtain ⟨k, hk, rfl, hown, hB⟩ := hrel
    by_cases hlt : k < ws.length
    · obtain ⟨b, off, hA, hbb, hcells⟩ := (HR.out _ hB).2 (by omega)
      obtain ⟨A', c', hcell, hcc, hrd⟩ := hcells k hlt
      obtain ⟨bq, offq, hA', hbq, hcq⟩ := hrd.2 (HP.out k hlt)
      have hsym := hcq 0 (HP.out k hlt)
      rw [Nat.add_zero] at hsym
      have hpk := HP.out k hlt
      have HYE := Lib.hid (fun e => fltU_yes (p := fun i => !hdB ws i) (g := joL ws) (k := k) e)
      have HNO := Lib.hid (fun e => fltU_no (p := fun i => !hdB ws i) (g := joL ws) (k := k) e)
      have hln : (joU ws k).length ≤ k := fltU_len _ _ k
      have HO := Lib.hid hown; have HB := Lib.hid hB
      have hD : Hid (hdB ws k = leafB ((ws.getD k []).getD 0 0)) := Lib.hid rfl
      have HJL : Hid (joL ws k = ⟨if (ws.getD k []).getD 0 0 = 11 then 3 else 4, (k : Int) + 1, (k : Int) + 1 + ((ws.getD (k + 1) []).length : Nat), (k : Int)⟩) := Lib.hid rfl
      have HNK := Lib.hid (HNX.out k hlt)
      obtain ⟨z, hz⟩ : ∃ z, (ws.getD k []).getD 0 0 = z := ⟨_, rfl⟩
      rw [hz] at hsym hD HJL
      obtain ⟨nl, hnl⟩ : ∃ nl, (ws.getD k []).length = nl := ⟨_, rfl⟩
      rw [hnl] at hcell hpk
      have hl1 : (0 : Int) < (nl : Int) := by omega
      subst hA'
      have hsz := hB.size
      have HIL := Lib.hid (fun wx => isLeaf_any z wx)
      cases hlf : leafB z with
      | false =>
        have hk1 := HNK.out (hD.out.trans hlf)
        obtain ⟨A2, c2, hcell2, _, _⟩ := hcells (k + 1) hk1
        have hqk := HQ.out (k + 1)
        obtain ⟨n2, hn2⟩ : ∃ n2, (ws.getD (k + 1) []).length = n2 := ⟨_, rfl⟩
        rw [hn2] at hcell2 hqk HJL
        obtain ⟨kk, hkk⟩ : ∃ kk : Int, (if z = 11 then 3 else 4) = kk := ⟨_, rfl⟩
        have hk34 : kk = 3 ∨ kk = 4 := by rw [← hkk]; split <;> simp
        rw [hkk] at HJL
        have HSU := Lib.hid (show joU ws (k + 1) = joU ws k ++ [⟨kk, (k : Int) + 1, (k : Int) + 1 + (n2 : Nat), (k : Int)⟩] from by rw [← HJL.out]; exact HYE.out (by rw [hD.out, hlf]; rfl))
        have HKJ := Lib.hid (fun wx => kindOfJoin_any z wx)
        rw [hkk] at HKJ
        have HLO := Lib.hid (fun wx => show Calls Tryd.prog 97 #[.int .i64 kk, .int .i64 ((k : Int) + 1), .int .i64 ((k : Int) + 1 + (n2 : Nat)), .int .i64 (k : Int)] wx fun e w' => e = .returned (.agg #[.int .i64 kk, .int .i64 ((k : Int) + 1), .int .i64 ((k : Int) + 1 + (n2 : Nat)), .int .i64 (k : Int)]) ∧ Below wx.heap.size wx w' from by
          have := linkOf_any kk ((k : Int) + 1) ((k : Int) + 1 + (n2 : Nat)) (k : Int) wx
          unfold lnk at this
          rwa [if_pos hk34] at this)
        have hwk : IntKind.i64.wrap ((k : Int) + 1) = (k : Int) + 1 := IntWalk.i64_in _ (by omega)
        have hwn : IntKind.i64.wrap ((k : Int) + 1 + (n2 : Int)) = (k : Int) + 1 + (n2 : Int) := IntWalk.i64_in _ (by omega)
        have hi1 : (k : Int) + 1 < (ws.length : Int) := by omega
        rw [hlf] at HIL
        have HKP := Lib.hid hcell2
        have HLOS := Lib.hid hsz
        clear hown hB hcells hrd hcq hz hnl hlf hkk hk34 hn2 hsz
        rw [hA]
        clear hA
        go_wp2_with (fail)
        refine (HIL.out _).mono ?_
        rintro e w3 ⟨rfl, rfl⟩
        go_wp2_with (fail)
        refine (HKJ.out _).mono ?_
        rintro e w3 ⟨rfl, rfl⟩
        go_wp2_with (fail)
        refine (HLO.out _).mono ?_
        rintro e w4 ⟨rfl, bel4⟩
        have HB4 := Lib.hid (HB.out.trans (bel4.mono HB.out.size))
        have HO4 := Lib.hid (own_below HO.out bel4 (Nat.le_refl _))
        have HLO4 := Lib.hid HB4.out.size
        obtain ⟨H4, hH4⟩ : ∃ q, w4.heap.size = q := ⟨_, rfl⟩
        have HH4 := Lib.hid hH4
        clear bel4 hH4 hcell hcell2 hsym
        go_wp2_with (at_builtin; refine wpList_append_lies _ rfl _ _ 29 rfl w.heap.size 71 i0 (.agg #[.int .i64 0, .int .i64 0, .int .i64 0, .int .i64 0]) 4 32 Tryd.underlying29 HI.out HZ0.out HZ1.out HZ2.out rfl (by decide) _ _ _ rfl (HO4.out.alloc _) ⟨w4.heap.size, 0, none⟩ 1 1 [.int .i64 kk, .int .i64 ((k : Int) + 1), .int .i64 ((k : Int) + 1 + (n2 : Nat)), .int .i64 (k : Int)] rfl rfl (four_newW _ _ _ _ _ _) (by simp [Value.oneCell']) (by decide) (by simp only [maxLen]; omega) (by omega) (Nat.le_trans HLO4.out (by simp)) (H4 + 1) (by simp [HH4.out]) ?_)
        intro g5 cap5 w5 hown5 hgrow5 hat5 hlt5
        have HB5 := Lib.hid ((HB4.out.alloc HB4.out.size (.cells #[.int .i64 kk, .int .i64 ((k : Int) + 1), .int .i64 ((k : Int) + 1 + (n2 : Nat)), .int .i64 (k : Int)] 71)).grown hgrow5 (by simp; have := HLO4.out; omega) (fun q hq => (HO4.out.lt q hq).1))
        have HLS := Lib.hid (show (joU ws (k + 1)).length = (joU ws k).length + 1 by rw [HSU.out, List.length_append]; rfl)
        have O5 : Hid (w5.ownsRow w.heap.size 71 4 (.slice (some ⟨g5, 0, none⟩) ((joU ws k).length + 1) cap5) (joU ws (k + 1)).length ((flL (joU ws (k + 1))).map (Value.int .i64))) := Lib.hid (by rw [HLS.out, HSU.out, flL_appw, List.map_append]; exact hown5)
        clear hown5 hgrow5 hat5 hlt5
        go_wp2
        go_roundw
        case rel => exact ⟨k + 1, by omega, by go_num, O5.out, HB5.out⟩
        case measure => simp [intOf]; omega
      | true =>
        have HSU := Lib.hid (show joU ws (k + 1) = joU ws k from HNO.out (by rw [hD.out, hlf]; rfl))
        rw [hlf] at HIL
        clear hown hB hcells hrd hcq hz hnl hlf
        rw [hA]
        clear hA
        go_wp2_with (fail)
        refine (HIL.out _).mono ?_
        rintro e w3 ⟨rfl, rfl⟩
        go_wp2
        go_roundw
        case rel => exact ⟨k + 1, by omega, by go_num, (by rw [HSU.out]; exact HO.out), HB.out⟩
        case measure => simp [intOf]; omega
    · have hkl : k = ws.length := by omega
      subst hkl
      have HG := Lib.hid (givesL_of hown rfl (show joU ws ws.length = joW ws from rfl) (own_shape4w hown) hB)
      clear hown hB
      go_wp2
      go_ret
      exact HG.out
end Go.Proofs.YtfanapddopafiaaDoor
