/- slices.DeleteFunc at arcs. -/
import Derived.Test.YtlcapifgpcimpaaDoorSgD
import Derived.Deep.RegionHeldLaw
import Derived.Deep.DeepCutAuto
import Derived.BigQuiet
namespace Go.Proofs.YtlcapifgpcimpaaDoor
set_option linter.unusedSimpArgs false
set_option linter.unusedVariables false
open Go.ChangeAt Go.ChangeShapes Go.RowKit Go.WideShapes

theorem grown_of_below {w w' : World} (h : Below w.heap.size w w') (o : Option Nat) : w.grownBy w' o := ⟨h.os, h.tape, h.output, h.size, fun k hk _ => h.block k hk⟩
theorem kpA_len (X : List Int) (ar : List Ac) (j : Nat) : (kpA X ar j).length ≤ ar.length := by
  unfold kpA
  exact Nat.le_trans (List.length_filter_le _ _) (by rw [List.length_take]; omega)
theorem own_capA {w : World} {base n c : Nat} {e : TypeId} {A : Option Addr} {xs : List Value} (h : w.ownsRow base e 3 (.slice A n c) n xs) : n ≤ c := by
  rcases h.2 with ⟨hv, rfl⟩ | ⟨g, cap, cur, hv, hb, hh, hn, hc, hs, ht⟩
  · exact Nat.zero_le _
  · injection hv with a1 a2 a3
    subst a3
    exact hn
/-- What DeleteFunc leaves. -/
def GivesD3 (w : World) (lo : Nat) (o : Option Nat) (ar : List Ac) (e : Ending) (w' : World) : Prop :=
  ∃ A c, e = .returned (.slice A ar.length c) ∧ w'.ownsRow lo 59 3 (.slice A ar.length c) ar.length ((flA ar).map (Value.int .i64)) ∧ w.grownBy w' o
set_option maxRecDepth 100000 in
set_option maxHeartbeats 1000000 in
theorem delArc_any (bx : Nat) (XA : Option Addr) (cX : Nat) (X : List Int) (hX : X.length ≤ 1048576) (A : Option Addr) (c : Nat) (ar : List Ac) (w : World) (lo : Nat) (hO : w.ownsRow lo 59 3 (.slice A ar.length c) ar.length ((flA ar).map (Value.int .i64))) (hl : ar.length ≤ 1048576)
    (hfar : ∀ wx : World, w.grownBy wx (Value.slice A ar.length c).ownBlock → OutS wx bx XA cX X) :
    Calls Tryd.prog 83 #[.slice A ar.length c, .func (.func 81) #[] #[.pointer (some ⟨bx, 0, none⟩)]] w (GivesD3 w lo (Value.slice A ar.length c).ownBlock (kpA X ar ar.length)) := by
  have HIX := Lib.hid (indexArc_any bx XA cX X hX A c ar w (hfar w (grown_reflx _ _)) (RdA.of_own hO) hl)
  have HO := Lib.hid hO
  have HFAR := Lib.hid (fun (wx : World) (hx : w.grownBy wx (Value.slice A ar.length c).ownBlock) (a : Ac) => leftOut_any bx XA cX X a wx (hfar wx hx) hX)
  clear hfar hO
  go_enter Tryd.func83, Tryd.ntmps83
  go_wp2_with (fail)
  refine HIX.out.mono ?_
  rintro e w1 ⟨hcase, bel⟩
  have GR1 := Lib.hid (grown_of_below bel (Value.slice A ar.length c).ownBlock)
  have O1 := Lib.hid (own_below HO.out bel (Nat.le_refl _))
  clear bel
  rcases hcase with ⟨rfl, hall⟩ | ⟨k, rfl, hk, hall, hd⟩
  · have HK : Hid (kpA X ar ar.length = ar) := Lib.hid (by rw [kpA_all (Nat.le_refl _) hall, List.take_length])
    clear hall
    go_wp2
    go_ret
    exact ⟨A, c, by rw [HK.out]; rfl, by rw [HK.out]; exact O1.out, GR1.out⟩
  · obtain ⟨g, cap, hv, hlo, hhi⟩ := O1.out.form (by omega)
    have hAg : A = some ⟨g, 0, none⟩ ∧ c = cap := by injection hv with x y z; exact ⟨x, z⟩
    obtain ⟨rfl, rfl⟩ := hAg
    have HST := Lib.hid (FltA.start hk hall hd)
    have hkm : ((k : Int) == -1) = false := by simp <;> omega
    have hcap := own_capA O1.out
    have hw1 : IntKind.i64.wrap ((k : Int) + 1) = (k : Int) + 1 := IntWalk.i64_in _ (by omega)
    clear hall hd hv HIX
    go_wp2
    go_loopw [5, 6] (fun i j wr => ∃ (jn m : Nat) (cur : List Ac), i = .int .i64 m ∧ j = .int .i64 jn ∧ jn ≤ ar.length ∧ FltA X ar cur jn m ∧ wr.ownsRow lo 59 3 (.slice (some ⟨g, 0, none⟩) ar.length c) ar.length ((flA cur).map (Value.int .i64)) ∧ w.grownBy wr (some g)) (fun _ j _ => ar.length - (intOf j).toNat)
    case atStart => exact ⟨k + 1, k, ar, rfl, by go_num, by omega, HST.out, O1.out, GR1.out⟩
    case round =>
      obtain ⟨jn, m, cur, rfl, rfl, hjn, hF, hown, hgr⟩ := hrel
      clear GR1 O1 HST
      have hFl := hF.len; have hFm := hF.lt
      by_cases hlt : jn < ar.length
      · have cl := fun t (ht : t < 3) => hown.cellAt (g := g) (jn * 3 + t) (by omega)
        have hbk := hF.back jn (Nat.le_refl _) hlt
        have hml : (List.map (Value.int .i64) (flA cur)).length = ar.length * 3 := by rw [List.length_map, flA_len, hFl]
        obtain ⟨f0, f1, f2⟩ := flA_at cur jn (by omega)
        rw [hbk] at f0 f1 f2
        have HKP := Lib.hid (fun e => hF.keep hlt e)
        have HDR := Lib.hid (fun e => hF.drop hlt e)
        have gg : ∀ t, t < 3 → (flA cur).getD (jn * 3 + t) 0 = (flA cur).getD (jn * 3 + t) 0 → wr.cell? ⟨g, jn * 3 + t, none⟩ = some (.int .i64 ((flA cur).getD (jn * 3 + t) 0)) := fun t ht _ => by
          rw [cl t ht, List.getElem?_map]
          have h2 : jn * 3 + t < (flA cur).length := by rw [flA_len, hFl]; omega
          simp [List.getD, h2]
        have x0 := gg 0 (by omega) rfl
        have x1 := gg 1 (by omega) rfl
        have x2 := gg 2 (by omega) rfl
        rw [Nat.add_zero] at x0
        rw [f0] at x0; rw [f1] at x1; rw [f2] at x2
        obtain ⟨p, hp⟩ : ∃ p, outB X (ar.getD jn Ac.nil) = p := ⟨_, rfl⟩
        rw [hp] at HKP HDR
        have HP := Lib.hid hp
        obtain ⟨⟨aw, af, at'⟩, ha⟩ : ∃ a, ar.getD jn Ac.nil = a := ⟨_, rfl⟩
        rw [ha] at x0 x1 x2 HKP HP
        dsimp only at x0 x1 x2
        obtain ⟨u1, hu1⟩ : ∃ u, u = wr.alloc (.cells #[.int .i64 aw, .int .i64 af, .int .i64 at'] 59) := ⟨_, rfl⟩
        have bl : Below wr.heap.size wr u1 := by rw [hu1]; exact (Below.refl _ _).alloc (Nat.le_refl _) _
        have gl : u1.heap[wr.heap.size]? = some (.cells #[.int .i64 aw, .int .i64 af, .int .i64 at'] 59 (0, 0)) := by rw [hu1]; exact heap_alloc_new _ _
        have GU := Lib.hid (grown_transx hgr (grown_of_below bl (some g)))
        have OU := Lib.hid (own_below hown bl (Nat.le_refl _))
        have hgw : g < wr.heap.size := (hown.lt g rfl).2
        have HC := Lib.hid (HFAR.out u1 GU.out ⟨aw, af, at'⟩)
        rw [HP.out] at HC
        dsimp only at HC
        obtain ⟨bv, hbv⟩ : ∃ b, wr.heap.size = b := ⟨_, rfl⟩
        have HU1 := Lib.hid hu1
        have HBV := Lib.hid hbv
        have GL := Lib.hid gl
        have hus : bv < u1.heap.size := by rw [← hbv]; exact (Array.getElem?_eq_some_iff.1 gl).1
        rw [hbv] at GL hgw
        have z0 := cell_of_row _ _ 0 _ _ (0, 0) gl
        have z1 := cell_of_row _ _ 1 _ _ (0, 0) gl
        have z2 := cell_of_row _ _ 2 _ _ (0, 0) gl
        rw [hbv] at z0 z1 z2
        simp only [List.getElem?_toArray, List.getElem?_cons_zero, List.getElem?_cons_succ] at z0 z1 z2
        clear cl hbk hml f0 f1 f2 gg hp ha hu1 bl gl hbv hown hgr hF
        go_upto_region 8 with (fail)
        rw [HBV.out, ← HU1.out]
        clear x0 x1 x2
        go_wp2_with (fail)
        refine HC.out.mono ?_
        rintro e u2 ⟨rfl, b2⟩
        have G2 := Lib.hid (grown_transx GU.out (grown_of_below b2 (some g)))
        have O2 := Lib.hid (own_below OU.out b2 (Nat.le_refl _))
        have L2 := Lib.hid ((b2.block bv hus).trans GL.out)
        clear b2 z0 z1 z2
        cases p with
        | true =>
          have S2 := Lib.hid (HDR.out rfl)
          go_wp2
          go_roundw
          case rel => exact ⟨jn + 1, m, cur, rfl, by go_num, by omega, S2.out, O2.out, G2.out⟩
          case measure => simp [intOf]; omega
        | false =>
          have S2 := Lib.hid (HKP.out rfl)
          have z0 := cell_of_row _ _ 0 _ _ (0, 0) L2.out
          have z1 := cell_of_row _ _ 1 _ _ (0, 0) L2.out
          have z2 := cell_of_row _ _ 2 _ _ (0, 0) L2.out
          simp only [List.getElem?_toArray, List.getElem?_cons_zero, List.getElem?_cons_succ] at z0 z1 z2
          have hml : (List.map (Value.int .i64) (flA cur)).length = ar.length * 3 := by rw [List.length_map, flA_len, hFl]
          have cl := fun t (ht : t < 3) => O2.out.cellAt (g := g) (m * 3 + t) (by omega)
          have fr := fun t => O2.out.frozenAt (g := g) (m * 3 + t)
          obtain ⟨d0, e0⟩ : ∃ x, u2.cell? ⟨g, m * 3, none⟩ = some x := ⟨_, (cl 0 (by omega)).trans (List.getElem?_eq_getElem (show m * 3 + 0 < _ by rw [hml]; omega))⟩
          obtain ⟨d1, e1⟩ : ∃ x, u2.cell? ⟨g, m * 3 + 1, none⟩ = some x := ⟨_, (cl 1 (by omega)).trans (List.getElem?_eq_getElem (show m * 3 + 1 < _ by rw [hml]; omega))⟩
          obtain ⟨d2, e2⟩ : ∃ x, u2.cell? ⟨g, m * 3 + 2, none⟩ = some x := ⟨_, (cl 2 (by omega)).trans (List.getElem?_eq_getElem (show m * 3 + 2 < _ by rw [hml]; omega))⟩
          have fr0 : u2.frozen? ⟨g, m * 3, none⟩ = false := fr 0
          have fr1 := fr 1; have fr2 := fr 2
          obtain ⟨own5, gr5⟩ := three_own (o := m * 3) O2.out (.int .i64 aw) (.int .i64 af) (.int .i64 at')
          rw [← flA_set cur m ⟨aw, af, at'⟩ (by omega)] at own5
          have O5 := Lib.hid own5
          have G5 := Lib.hid (grown_transx G2.out gr5)
          have hml2 : (m : Int) < (ar.length : Int) := by omega
          have hwm : IntKind.i64.wrap ((m : Int) + 1) = (m : Int) + 1 := IntWalk.i64_in _ (by omega)
          clear cl fr hml own5 gr5
          go_wp2
          go_roundw
          case rel => exact ⟨jn + 1, m + 1, _, by go_num, by go_num, by omega, S2.out, O5.out, G5.out⟩
          case measure => simp [intOf]; omega
      · have hjl : jn = ar.length := by omega
        subst hjl
        have hmn : m < ar.length := by omega
        have hmc : m ≤ c := by omega
        have hnm : ¬ ar.length = m := by omega
        have hml : (List.map (Value.int .i64) (flA cur)).length = ar.length * 3 := by rw [List.length_map, flA_len, hFl]
        have hcl : ∀ ty o, o = m * 3 → (Builtin.clear_ #[56] ty #[.slice (some ⟨g, o, none⟩) (ar.length - m) (c - m)]).run Tryd.prog wr = .ok (.tuple #[]) (wr.setCells g (m * 3) (List.replicate ((ar.length - m) * 3) (Value.int .i64 0))) := fun ty o ho => by
          subst ho
          refine run_clear_arcs wr ty g (m * 3) (ar.length - m) (c - m) (by omega) (fun j hj => ?_) (fun j _ => hown.frozenAt (g := g) _)
          rw [hown.cellAt (g := g) (m * 3 + j) (by omega), List.getElem?_eq_getElem (by rw [hml]; omega)]
          rfl
        have hcl1 := fun ty => hcl ty (m * 3) rfl
        obtain ⟨xs', o1, o2, o3⟩ := own_setCells3 (List.replicate ((ar.length - m) * 3) (Value.int .i64 0)) (m * 3) wr _ hown
        have o4 := own_short3 o1 (show m ≤ ar.length by omega)
        rw [o2, ← List.map_take, ← flA_take, hF.front] at o4
        have HM := Lib.hid hF.kept
        have O4 := Lib.hid o4
        have G4 := Lib.hid (grown_transx hgr o3)
        clear hcl hown hgr hF o1 o2 o3 o4 hml
        go_wp2
        go_ret
        exact ⟨some ⟨g, 0, none⟩, c, by rw [← HM.out]; rfl, by rw [← HM.out]; exact O4.out, G4.out⟩
end Go.Proofs.YtlcapifgpcimpaaDoor
