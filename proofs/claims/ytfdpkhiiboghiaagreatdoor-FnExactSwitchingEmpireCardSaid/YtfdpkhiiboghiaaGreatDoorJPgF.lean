/- The program's linkFits. Made by mkpgd.py. -/
import Derived.Test.YtfdpkhiiboghiaaGreatDoorJQPgA
import Derived.Test.YtfdpkhiiboghiaaGreatDoorJNetX
import Derived.Test.YtfdpkhiiboghiaaGreatDoorJQPgC
import Derived.Test.YtfdpkhiiboghiaaGreatDoorJQDual
import Derived.BigQuiet
import Derived.Deep.QuietTactic
namespace Go.Proofs.YtfdpkhiiboghiaaGreatDoor
set_option linter.unusedSimpArgs false
set_option linter.unusedVariables false
set_option linter.unusedSimpArgs false
set_option linter.unusedVariables false
open Go.ChangeAt Go.ChangeShapes Go.RowKit Go.WideShapes

set_option linter.unusedSimpArgs false in
set_option maxRecDepth 100000 in
set_option maxHeartbeats 4000000 in
theorem lf_3 (A L C : Option Addr) (cA m d k0 e0 : Nat) (ws : List (List Int)) (w : World) (k z : Int) (ia ib ic : Nat) (hn : ws.length ≤ 48) (hia : ia < ws.length) (hib : ib < ws.length) (hic : ic < ws.length) (r : RdQ w w.heap.size A ws.length ws) (hf : ws.all formN = true) (ht : Arit w) (hu : Dual w) (hz : (lnk k ia ib ic).c = z) (hcz : (((ic : Nat) : Int) == z) = true) (d1 : (k == 1) = false) (d2 : (k == 2) = false) (d3 : (k == 3) = true) :
    Calls Tryz.prog 155 #[.agg #[.slice A ws.length cA, .slice L m d, .slice C k0 e0], .agg #[.int .i64 k, .int .i64 ((ia : Nat) : Int), .int .i64 ((ib : Nat) : Int), .int .i64 ((ic : Nat) : Int)]] w fun e w' => e = .returned (.bool (decide (ws.getD ic [] = opK k :: (ws.getD ia [] ++ ws.getD ib [])))) ∧ Below w.heap.size w w' := by
  have HA := Lib.hid (fun wx => isWire_any A L C ws.length cA m d k0 e0 ((ia : Nat) : Int) wx (by unfold maxLen; omega))
  rw [show inW ws.length ((ia : Nat) : Int) = true from decide_eq_true (by omega)] at HA
  have HBW := Lib.hid (fun wx => isWire_any A L C ws.length cA m d k0 e0 ((ib : Nat) : Int) wx (by unfold maxLen; omega))
  rw [show inW ws.length ((ib : Nat) : Int) = true from decide_eq_true (by omega)] at HBW
  have HCW := Lib.hid (fun wx => isWire_any A L C ws.length cA m d k0 e0 ((ic : Nat) : Int) wx (by unfold maxLen; omega))
  rw [show inW ws.length ((ic : Nat) : Int) = true from decide_eq_true (by omega)] at HCW
  have hlo : ∀ wx, Calls Tryz.prog 158 #[.int .i64 k, .int .i64 ((ia : Nat) : Int), .int .i64 ((ib : Nat) : Int), .int .i64 ((ic : Nat) : Int)] wx fun e w' => e = .returned (.agg #[.int .i64 k, .int .i64 ((ia : Nat) : Int), .int .i64 ((ib : Nat) : Int), .int .i64 (lnk k ia ib ic).c]) ∧ Below wx.heap.size wx w' := fun wx => linkOf_any k ia ib ic wx
  rw [hz] at hlo
  have HLO := Lib.hid hlo
  have nq := fun wx => neq_link k ((ia : Nat) : Int) ((ib : Nat) : Int) ((ic : Nat) : Int) z wx
  have va := formN_valid (all_at (d := []) hf hia)
  have vb := formN_valid (all_at (d := []) hf hib)
  have vc := formN_valid (all_at (d := []) hf hic)
  have la := valid_len va; have lb := valid_len vb; have lc := valid_len vc
  obtain ⟨bw, ow, rfl, hbb, hcells⟩ := r.2 (by omega)
  obtain ⟨Aa, ca, ka, mca, ra⟩ := hcells ia hia
  obtain ⟨Ab, cb, kb, mcb, rb⟩ := hcells ib hib
  obtain ⟨Ac, cc, kc, mcc, rc⟩ := hcells ic hic
  obtain ⟨fa, hfa⟩ : ∃ f, ws.getD ia [] = f := ⟨_, rfl⟩
  obtain ⟨fb, hfb⟩ : ∃ f, ws.getD ib [] = f := ⟨_, rfl⟩
  obtain ⟨fc, hfc⟩ : ∃ f, ws.getD ic [] = f := ⟨_, rfl⟩
  rw [hfa] at ka mca ra la va
  rw [hfb] at kb mcb rb lb
  rw [hfc] at kc mcc rc lc
  (try rw [hfa])
  (try rw [hfb])
  (try rw [hfc])
  obtain ⟨u, hu0⟩ : ∃ u, u = (w.alloc (.cells #[.slice (some ⟨bw, ow, none⟩) ws.length cA, .slice L m d, .slice C k0 e0] 30)).alloc (.cells #[.int .i64 k, .int .i64 ((ia : Nat) : Int), .int .i64 ((ib : Nat) : Int), .int .i64 ((ic : Nat) : Int)] 103) := ⟨_, rfl⟩
  obtain ⟨hbu, hK, hsz⟩ := boxes_any w (.slice (some ⟨bw, ow, none⟩) ws.length cA) (.slice L m d) (.slice C k0 e0) (.int .i64 k) (.int .i64 ((ia : Nat) : Int)) (.int .i64 ((ib : Nat) : Int)) (.int .i64 ((ic : Nat) : Int)) 30 103
  rw [← hu0] at hbu hK hsz
  have HU0 := Lib.hid hu0; have HBU := Lib.hid hbu; have HSX := Lib.hid hK
  have HRW := Lib.hid (fun (wx : World) (hx : Below u.heap.size u wx) => show wx.cell? ⟨bw, ow + ia, none⟩ = some (.slice Aa fa.length ca) ∧ wx.cell? ⟨bw, ow + ib, none⟩ = some (.slice Ab fb.length cb) ∧ wx.cell? ⟨bw, ow + ic, none⟩ = some (.slice Ac fc.length cc) from by
    have hb9 := hbu.trans (hx.mono hbu.size)
    exact ⟨(hb9.cell (p := ⟨bw, ow + ia, none⟩) hbb).trans ka, (hb9.cell (p := ⟨bw, ow + ib, none⟩) hbb).trans kb, (hb9.cell (p := ⟨bw, ow + ic, none⟩) hbb).trans kc⟩)
  have HRA := Lib.hid (fun (wx : World) (hx : Below u.heap.size u wx) => show RdI wx wx.heap.size Aa fa.length fa from (ra.below (hbu.trans (hx.mono hbu.size))).more (Nat.le_trans hbu.size hx.size))
  have HRB := Lib.hid (fun (wx : World) (hx : Below u.heap.size u wx) => show RdI wx wx.heap.size Ab fb.length fb from (rb.below (hbu.trans (hx.mono hbu.size))).more (Nat.le_trans hbu.size hx.size))
  have HRC := Lib.hid (fun (wx : World) (hx : Below u.heap.size u wx) => show RdI wx wx.heap.size Ac fc.length fc from (rc.below (hbu.trans (hx.mono hbu.size))).more (Nat.le_trans hbu.size hx.size))
  have HDU := Lib.hid (fun (wx : World) (hx : Below u.heap.size u wx) => dualOf_impl Aa fa.length ca fa wx (HRA.out wx hx) (ht.below (hbu.trans (hx.mono hbu.size)) ht.lt) (hu.below (hbu.trans (hx.mono hbu.size)) hu.lt) mca)
  have HLA := Lib.hid la; have HLB := Lib.hid lb; have HLC := Lib.hid lc
  have hai : ((ia : Nat) : Int) < (ws.length : Int) := by omega
  have hbi : ((ib : Nat) : Int) < (ws.length : Int) := by omega
  have hci : ((ic : Nat) : Int) < (ws.length : Int) := by omega
  clear hu0 hbu hK hsz hlo hz va vb vc la lb lc hcells ka kb kc ra rb rc hfa hfb hfc mca mcb mcc ht hu hf r hbb
  obtain ⟨J, hJ⟩ : ∃ J, opK k :: (fa ++ fb) = J := ⟨_, rfl⟩
  have HJ1 := Lib.hid (show J.length ≤ 100 by rw [← hJ]; have := HLA.out.2.1; have := HLB.out.2.1; simp; omega)
  rw [hJ]
  have HJ := Lib.hid hJ
  clear hJ
  rw [hcz] at nq
  simp only [Bool.not_true] at nq
  clear hcz
  go_enter Tryz.func155, Tryz.ntmps155
  go_upto_region 1 with (fail)
  rw [← HU0.out]
  have FB_0 := Lib.hid (Below.refl u.heap.size u)
  refine wp_region_held_drew (S := fun wx => wx.cell? ⟨w.heap.size, 0, none⟩ = some (.slice (some ⟨bw, ow, none⟩) ws.length cA) ∧ wx.cell? ⟨w.heap.size, 1, none⟩ = some (.slice L m d) ∧ wx.cell? ⟨w.heap.size, 2, none⟩ = some (.slice C k0 e0) ∧ wx.cell? ⟨w.heap.size + 1, 0, none⟩ = some (.int .i64 k) ∧ wx.cell? ⟨w.heap.size + 1, 1, none⟩ = some (.int .i64 ((ia : Nat) : Int)) ∧ wx.cell? ⟨w.heap.size + 1, 2, none⟩ = some (.int .i64 ((ib : Nat) : Int)) ∧ wx.cell? ⟨w.heap.size + 1, 3, none⟩ = some (.int .i64 ((ic : Nat) : Int))) (by kernel_rfl) (HSX.out _ (Below.refl _ _).drew) (fun hHeld => ?_)
  obtain ⟨wq1, hwq1⟩ : ∃ w', w' = u.drew := ⟨_, rfl⟩
  rw [← hwq1] at hHeld ⊢
  have bq1 : Below u.heap.size u wq1 := by rw [hwq1]; exact (Below.refl _ _).drew
  clear hwq1
  have FB_q2 := Lib.hid ((FB_0.out).trans ((bq1).mono (FB_0.out).size))
  clear FB_0
  refine wpAnyH_take (i := 0) (v := ?vq3) rfl (by kernel_rfl) (by kernel_rfl) (by kernel_rfl) (fun _ _ _ h => h) (Or.inl ⟨by rfl, ?yq3⟩) (by assumption) ?_
  case yq3 => (intro w hSw; (try dsimp only at hSw); go_simp; all_goals (with_reducible rfl))
  (try simp only [Act.put, List.setIfInBounds_toArray, List.set_cons_zero, List.set_cons_succ, List.getElem_toArray, List.getElem_cons_succ, List.getElem_cons_zero])
  refine wpAnyH_take (i := 1) (v := ?vq4) rfl (by kernel_rfl) (by kernel_rfl) (by kernel_rfl) (fun _ _ _ h => h) (Or.inl ⟨by rfl, ?yq4⟩) (by assumption) ?_
  case yq4 => (intro w hSw; (try dsimp only at hSw); go_simp; all_goals (with_reducible rfl))
  (try simp only [Act.put, List.setIfInBounds_toArray, List.set_cons_zero, List.set_cons_succ, List.getElem_toArray, List.getElem_cons_succ, List.getElem_cons_zero])
  refine wpAnyH_take (i := 2) (v := ?vq5) rfl (by kernel_rfl) (by kernel_rfl) (by kernel_rfl) (fun _ _ _ h => h) (Or.inl ⟨by rfl, ?yq5⟩) (by assumption) ?_
  case yq5 => (intro w hSw; (try dsimp only at hSw); go_simp; all_goals (with_reducible rfl))
  (try simp only [Act.put, List.setIfInBounds_toArray, List.set_cons_zero, List.set_cons_succ, List.getElem_toArray, List.getElem_cons_succ, List.getElem_cons_zero])
  refine wpAnyH_ready (rs := [3]) (by kernel_rfl) (by simp) ?_
  refine AllReadyH.cons rfl (fun K hK => ?_) ?_
  · go_simp
    refine (HA.out wq1).mono ?_
    rintro e wq6 ⟨rfl, belq6⟩
    dsimp only
    have FB_q7 := Lib.hid ((FB_q2.out).trans ((belq6).mono (FB_q2.out).size))
    clear FB_q2
    refine hK.out _ _ (HSX.out _ FB_q7.out) (fun hHeld => ?_)
    clear hK K
    (try simp only [Act.put, List.setIfInBounds_toArray, List.set_cons_zero, List.set_cons_succ, List.getElem_toArray, List.getElem_cons_succ, List.getElem_cons_zero])
    refine wpAnyH_take (i := 4) (v := ?vq8) rfl (by kernel_rfl) (by kernel_rfl) (by kernel_rfl) (fun _ _ _ h => h) (Or.inl ⟨by rfl, ?yq8⟩) (by assumption) ?_
    case yq8 => (intro w hSw; (try dsimp only at hSw); go_simp; all_goals (with_reducible rfl))
    (try simp only [Act.put, List.setIfInBounds_toArray, List.set_cons_zero, List.set_cons_succ, List.getElem_toArray, List.getElem_cons_succ, List.getElem_cons_zero])
    refine wpAnyH_take (i := 5) (v := ?vq9) rfl (by kernel_rfl) (by kernel_rfl) (by kernel_rfl) (fun _ _ _ h => h) (Or.inl ⟨by rfl, ?yq9⟩) (by assumption) ?_
    case yq9 => (intro w hSw; (try dsimp only at hSw); go_simp; all_goals (with_reducible rfl))
    (try simp only [Act.put, List.setIfInBounds_toArray, List.set_cons_zero, List.set_cons_succ, List.getElem_toArray, List.getElem_cons_succ, List.getElem_cons_zero])
    refine wpAnyH_take (i := 6) (v := ?vq10) rfl (by kernel_rfl) (by kernel_rfl) (by kernel_rfl) (fun _ _ _ h => h) (Or.inl ⟨by rfl, ?yq10⟩) (by assumption) ?_
    case yq10 => (intro w hSw; (try dsimp only at hSw); go_simp; all_goals (with_reducible rfl))
    (try simp only [Act.put, List.setIfInBounds_toArray, List.set_cons_zero, List.set_cons_succ, List.getElem_toArray, List.getElem_cons_succ, List.getElem_cons_zero])
    refine wpAnyH_take (i := 7) (v := ?vq11) rfl (by kernel_rfl) (by kernel_rfl) (by kernel_rfl) (fun _ _ _ h => h) (Or.inl ⟨by rfl, ?yq11⟩) (by assumption) ?_
    case yq11 => (intro w hSw; (try dsimp only at hSw); go_simp; all_goals (with_reducible rfl))
    (try simp only [Act.put, List.setIfInBounds_toArray, List.set_cons_zero, List.set_cons_succ, List.getElem_toArray, List.getElem_cons_succ, List.getElem_cons_zero])
    refine wpAnyH_take (i := 8) (v := ?vq12) rfl (by kernel_rfl) (by kernel_rfl) (by kernel_rfl) (fun _ _ _ h => h) (Or.inl ⟨by rfl, ?yq12⟩) (by assumption) ?_
    case yq12 => (intro w hSw; (try dsimp only at hSw); go_simp; all_goals (with_reducible rfl))
    (try simp only [Act.put, List.setIfInBounds_toArray, List.set_cons_zero, List.set_cons_succ, List.getElem_toArray, List.getElem_cons_succ, List.getElem_cons_zero])
    refine wpAnyH_ready (rs := [9]) (by kernel_rfl) (by simp) ?_
    refine AllReadyH.cons rfl (fun K hK => ?_) ?_
    · go_simp
      refine (HBW.out wq6).mono ?_
      rintro e wq13 ⟨rfl, belq13⟩
      dsimp only
      have FB_q14 := Lib.hid ((FB_q7.out).trans ((belq13).mono (FB_q7.out).size))
      clear FB_q7
      refine hK.out _ _ (HSX.out _ FB_q14.out) (fun hHeld => ?_)
      clear hK K
      (try simp only [Act.put, List.setIfInBounds_toArray, List.set_cons_zero, List.set_cons_succ, List.getElem_toArray, List.getElem_cons_succ, List.getElem_cons_zero])
      refine wpAnyH_take (i := 10) (v := ?vq15) rfl (by kernel_rfl) (by kernel_rfl) (by kernel_rfl) (fun _ _ _ h => h) (Or.inl ⟨by rfl, ?yq15⟩) (by assumption) ?_
      case yq15 => (intro w hSw; (try dsimp only at hSw); go_simp; all_goals (with_reducible rfl))
      (try simp only [Act.put, List.setIfInBounds_toArray, List.set_cons_zero, List.set_cons_succ, List.getElem_toArray, List.getElem_cons_succ, List.getElem_cons_zero])
      refine wpAnyH_take (i := 11) (v := ?vq16) rfl (by kernel_rfl) (by kernel_rfl) (by kernel_rfl) (fun _ _ _ h => h) (Or.inl ⟨by rfl, ?yq16⟩) (by assumption) ?_
      case yq16 => (intro w hSw; (try dsimp only at hSw); go_simp; all_goals (with_reducible rfl))
      (try simp only [Act.put, List.setIfInBounds_toArray, List.set_cons_zero, List.set_cons_succ, List.getElem_toArray, List.getElem_cons_succ, List.getElem_cons_zero])
      refine wpAnyH_take (i := 12) (v := ?vq17) rfl (by kernel_rfl) (by kernel_rfl) (by kernel_rfl) (fun _ _ _ h => h) (Or.inl ⟨by rfl, ?yq17⟩) (by assumption) ?_
      case yq17 => (intro w hSw; (try dsimp only at hSw); go_simp; all_goals (with_reducible rfl))
      (try simp only [Act.put, List.setIfInBounds_toArray, List.set_cons_zero, List.set_cons_succ, List.getElem_toArray, List.getElem_cons_succ, List.getElem_cons_zero])
      refine wpAnyH_take (i := 13) (v := ?vq18) rfl (by kernel_rfl) (by kernel_rfl) (by kernel_rfl) (fun _ _ _ h => h) (Or.inl ⟨by rfl, ?yq18⟩) (by assumption) ?_
      case yq18 => (intro w hSw; (try dsimp only at hSw); go_simp; all_goals (with_reducible rfl))
      (try simp only [Act.put, List.setIfInBounds_toArray, List.set_cons_zero, List.set_cons_succ, List.getElem_toArray, List.getElem_cons_succ, List.getElem_cons_zero])
      refine wpAnyH_take (i := 14) (v := ?vq19) rfl (by kernel_rfl) (by kernel_rfl) (by kernel_rfl) (fun _ _ _ h => h) (Or.inl ⟨by rfl, ?yq19⟩) (by assumption) ?_
      case yq19 => (intro w hSw; (try dsimp only at hSw); go_simp; all_goals (with_reducible rfl))
      (try simp only [Act.put, List.setIfInBounds_toArray, List.set_cons_zero, List.set_cons_succ, List.getElem_toArray, List.getElem_cons_succ, List.getElem_cons_zero])
      refine wpAnyH_take (i := 15) (v := ?vq20) rfl (by kernel_rfl) (by kernel_rfl) (by kernel_rfl) (fun _ _ _ h => h) (Or.inl ⟨by rfl, ?yq20⟩) (by assumption) ?_
      case yq20 => (intro w hSw; (try dsimp only at hSw); go_simp; all_goals (with_reducible rfl))
      (try simp only [Act.put, List.setIfInBounds_toArray, List.set_cons_zero, List.set_cons_succ, List.getElem_toArray, List.getElem_cons_succ, List.getElem_cons_zero])
      refine wpAnyH_ready (rs := [16]) (by kernel_rfl) (by simp) ?_
      refine AllReadyH.cons rfl (fun K hK => ?_) ?_
      · go_simp
        refine (HCW.out wq13).mono ?_
        rintro e wq21 ⟨rfl, belq21⟩
        dsimp only
        have FB_q22 := Lib.hid ((FB_q14.out).trans ((belq21).mono (FB_q14.out).size))
        clear FB_q14
        refine hK.out _ _ (HSX.out _ FB_q22.out) (fun hHeld => ?_)
        clear hK K
        (try simp only [Act.put, List.setIfInBounds_toArray, List.set_cons_zero, List.set_cons_succ, List.getElem_toArray, List.getElem_cons_succ, List.getElem_cons_zero])
        refine wpAnyH_take (i := 17) (v := ?vq23) rfl (by kernel_rfl) (by kernel_rfl) (by kernel_rfl) (fun _ _ _ h => h) (Or.inl ⟨by rfl, ?yq23⟩) (by assumption) ?_
        case yq23 => (intro w hSw; (try dsimp only at hSw); go_simp; all_goals (with_reducible rfl))
        (try simp only [Act.put, List.setIfInBounds_toArray, List.set_cons_zero, List.set_cons_succ, List.getElem_toArray, List.getElem_cons_succ, List.getElem_cons_zero])
        refine wpAnyH_take (i := 18) (v := ?vq24) rfl (by kernel_rfl) (by kernel_rfl) (by kernel_rfl) (fun _ _ _ h => h) (Or.inl ⟨by rfl, ?yq24⟩) (by assumption) ?_
        case yq24 => (intro w hSw; (try dsimp only at hSw); go_simp; all_goals (with_reducible rfl))
        (try simp only [Act.put, List.setIfInBounds_toArray, List.set_cons_zero, List.set_cons_succ, List.getElem_toArray, List.getElem_cons_succ, List.getElem_cons_zero])
        refine wpAnyH_take (i := 19) (v := ?vq25) rfl (by kernel_rfl) (by kernel_rfl) (by kernel_rfl) (fun _ _ _ h => h) (Or.inl ⟨by rfl, ?yq25⟩) (by assumption) ?_
        case yq25 => (intro w hSw; (try dsimp only at hSw); go_simp; all_goals (with_reducible rfl))
        (try simp only [Act.put, List.setIfInBounds_toArray, List.set_cons_zero, List.set_cons_succ, List.getElem_toArray, List.getElem_cons_succ, List.getElem_cons_zero])
        refine wpAnyH_take (i := 20) (v := ?vq26) rfl (by kernel_rfl) (by kernel_rfl) (by kernel_rfl) (fun _ _ _ h => h) (Or.inl ⟨by rfl, ?yq26⟩) (by assumption) ?_
        case yq26 => (intro w hSw; (try dsimp only at hSw); go_simp; all_goals (with_reducible rfl))
        (try simp only [Act.put, List.setIfInBounds_toArray, List.set_cons_zero, List.set_cons_succ, List.getElem_toArray, List.getElem_cons_succ, List.getElem_cons_zero])
        refine wpAnyH_take (i := 21) (v := ?vq27) rfl (by kernel_rfl) (by kernel_rfl) (by kernel_rfl) (fun _ _ _ h => h) (Or.inl ⟨by rfl, ?yq27⟩) (by assumption) ?_
        case yq27 => (intro w hSw; (try dsimp only at hSw); go_simp; all_goals (with_reducible rfl))
        (try simp only [Act.put, List.setIfInBounds_toArray, List.set_cons_zero, List.set_cons_succ, List.getElem_toArray, List.getElem_cons_succ, List.getElem_cons_zero])
        refine wpAnyH_take (i := 23) (v := ?vq28) rfl (by kernel_rfl) (by kernel_rfl) (by kernel_rfl) (fun _ _ _ h => h) (Or.inl ⟨by rfl, ?yq28⟩) (by assumption) ?_
        case yq28 => (intro w hSw; (try dsimp only at hSw); go_simp; all_goals (with_reducible rfl))
        (try simp only [Act.put, List.setIfInBounds_toArray, List.set_cons_zero, List.set_cons_succ, List.getElem_toArray, List.getElem_cons_succ, List.getElem_cons_zero])
        refine wpAnyH_take (i := 25) (v := ?vq29) rfl (by kernel_rfl) (by kernel_rfl) (by kernel_rfl) (fun _ _ _ h => h) (Or.inl ⟨by rfl, ?yq29⟩) (by assumption) ?_
        case yq29 => (intro w hSw; (try dsimp only at hSw); go_simp; all_goals (with_reducible rfl))
        (try simp only [Act.put, List.setIfInBounds_toArray, List.set_cons_zero, List.set_cons_succ, List.getElem_toArray, List.getElem_cons_succ, List.getElem_cons_zero])
        refine wpAnyH_take (i := 27) (v := ?vq30) rfl (by kernel_rfl) (by kernel_rfl) (by kernel_rfl) (fun _ _ _ h => h) (Or.inl ⟨by rfl, ?yq30⟩) (by assumption) ?_
        case yq30 => (intro w hSw; (try dsimp only at hSw); go_simp; all_goals (with_reducible rfl))
        (try simp only [Act.put, List.setIfInBounds_toArray, List.set_cons_zero, List.set_cons_succ, List.getElem_toArray, List.getElem_cons_succ, List.getElem_cons_zero])
        refine wpAnyH_take (i := 22) (v := ?vq31) rfl (by kernel_rfl) (by kernel_rfl) (by kernel_rfl) (fun _ _ _ h => h) (Or.inl ⟨by rfl, ?yq31⟩) (by assumption) ?_
        case yq31 => (intro w hSw; (try dsimp only at hSw); go_simp; all_goals (with_reducible rfl))
        (try simp only [Act.put, List.setIfInBounds_toArray, List.set_cons_zero, List.set_cons_succ, List.getElem_toArray, List.getElem_cons_succ, List.getElem_cons_zero])
        refine wpAnyH_take (i := 24) (v := ?vq32) rfl (by kernel_rfl) (by kernel_rfl) (by kernel_rfl) (fun _ _ _ h => h) (Or.inl ⟨by rfl, ?yq32⟩) (by assumption) ?_
        case yq32 => (intro w hSw; (try dsimp only at hSw); go_simp; all_goals (with_reducible rfl))
        (try simp only [Act.put, List.setIfInBounds_toArray, List.set_cons_zero, List.set_cons_succ, List.getElem_toArray, List.getElem_cons_succ, List.getElem_cons_zero])
        refine wpAnyH_take (i := 26) (v := ?vq33) rfl (by kernel_rfl) (by kernel_rfl) (by kernel_rfl) (fun _ _ _ h => h) (Or.inl ⟨by rfl, ?yq33⟩) (by assumption) ?_
        case yq33 => (intro w hSw; (try dsimp only at hSw); go_simp; all_goals (with_reducible rfl))
        (try simp only [Act.put, List.setIfInBounds_toArray, List.set_cons_zero, List.set_cons_succ, List.getElem_toArray, List.getElem_cons_succ, List.getElem_cons_zero])
        refine wpAnyH_take (i := 28) (v := ?vq34) rfl (by kernel_rfl) (by kernel_rfl) (by kernel_rfl) (fun _ _ _ h => h) (Or.inl ⟨by rfl, ?yq34⟩) (by assumption) ?_
        case yq34 => (intro w hSw; (try dsimp only at hSw); go_simp; all_goals (with_reducible rfl))
        (try simp only [Act.put, List.setIfInBounds_toArray, List.set_cons_zero, List.set_cons_succ, List.getElem_toArray, List.getElem_cons_succ, List.getElem_cons_zero])
        refine wpAnyH_ready (rs := [29]) (by kernel_rfl) (by simp) ?_
        refine AllReadyH.cons rfl (fun K hK => ?_) ?_
        · go_simp
          refine (HLO.out wq21).mono ?_
          rintro e wq35 ⟨rfl, belq35⟩
          dsimp only
          have FB_q36 := Lib.hid ((FB_q22.out).trans ((belq35).mono (FB_q22.out).size))
          clear FB_q22
          refine hK.out _ _ (HSX.out _ FB_q36.out) (fun hHeld => ?_)
          clear hK K
          (try simp only [Act.put, List.setIfInBounds_toArray, List.set_cons_zero, List.set_cons_succ, List.getElem_toArray, List.getElem_cons_succ, List.getElem_cons_zero])
          refine wpAnyH_take (i := 30) (v := ?vq37) rfl (by kernel_rfl) (by kernel_rfl) (by kernel_rfl) (fun _ _ _ h => h) (Or.inl ⟨by rfl, ?yq37⟩) (by assumption) ?_
          case yq37 => (intro w hSw; (try dsimp only at hSw); go_simp; all_goals (with_reducible rfl))
          (try simp only [Act.put, List.setIfInBounds_toArray, List.set_cons_zero, List.set_cons_succ, List.getElem_toArray, List.getElem_cons_succ, List.getElem_cons_zero])
          refine wpAnyH_take (i := 31) (v := ?vq38) rfl (by kernel_rfl) (by kernel_rfl) (by kernel_rfl) (fun _ _ _ h => h) (Or.inl ⟨by rfl, ?yq38⟩) (by assumption) ?_
          case yq38 => (intro w hSw; (try dsimp only at hSw); go_simp; all_goals (with_reducible rfl))
          (try simp only [Act.put, List.setIfInBounds_toArray, List.set_cons_zero, List.set_cons_succ, List.getElem_toArray, List.getElem_cons_succ, List.getElem_cons_zero])
          refine wpAnyH_done (by kernel_rfl) ?_ _
          clear nq
          obtain ⟨y0, y1, y2, x0, x1, x2, x3⟩ := HSX.out _ FB_q36.out
          obtain ⟨e1, e2, e3⟩ := HRW.out _ FB_q36.out
          go_upto_region 3 with (fail)
          go_quiet (fail)
          have bq := below_drewN (Below.refl wq35.heap.size wq35) nq
          obtain ⟨w1, hw1⟩ : ∃ w1, w1 = wq35.drewN nq := ⟨_, rfl⟩
          rw [← hw1] at bq ⊢
          have FB1 := Lib.hid (FB_q36.out.trans (bq.mono FB_q36.out.size))
          clear bq hw1 y0 y1 y2 x0 x1 x2 x3 e1 e2 e3
          obtain ⟨_, _, _, x0, _, _, _⟩ := HSX.out _ FB1.out
          go_wp2_with (fail)
          refine (linkOperator_any k w1).mono ?_
          rintro e w9 ⟨rfl, rfl⟩
          obtain ⟨w2, hw2⟩ : ∃ w2, w2 = w1.alloc (.cells #[.slice Aa fa.length ca, .slice Ab fb.length cb] 24) := ⟨_, rfl⟩
          have b2 : Below w1.heap.size w1 w2 := by rw [hw2]; exact (Below.refl _ _).alloc (Nat.le_refl _) _
          have g2 : w2.heap[w1.heap.size]? = some (.cells #[.slice Aa fa.length ca, .slice Ab fb.length cb] 24 (0, 0)) := by rw [hw2]; exact heap_alloc_new _ _
          have FB2 := Lib.hid (FB1.out.trans (b2.mono FB1.out.size))
          have HW2 := Lib.hid hw2
          have hfo := formOf_any (opK k) w1.heap.size 2 2 [.slice Aa fa.length ca, .slice Ab fb.length cb] [fa, fb] w2 rfl (by omega) (by omega) (fun i hi => by
            rcases i with _ | _ | i
            · exact cell_of_row _ _ 0 _ _ (0, 0) g2
            · exact cell_of_row _ _ 1 _ _ (0, 0) g2
            · omega) (Array.getElem?_eq_some_iff.1 g2).1 (fun i hi => by
            rcases i with _ | _ | i
            · exact Part.of_rd (HRA.out w2 FB2.out) HLA.out.1
            · exact Part.of_rd (HRB.out w2 FB2.out) HLB.out.1
            · omega) (by have := HLA.out.2.1; have := HLB.out.2.1; simp; omega) (by have := HLA.out.1; simp; omega)
          rw [show [fa, fb].flatten = fa ++ fb by simp] at hfo
          rw [HJ.out] at hfo
          have HFO := Lib.hid hfo
          clear hfo HJ b2 g2 hw2 HSX HRW
          generalize opK k = ok at *
          go_wp2_with (fail)
          rw [← HW2.out]
          clear HW2 x0
          refine HFO.out.mono ?_
          rintro e w3 ⟨AJ, cJ, rfl, oJ, bJ⟩
          have FB3 := Lib.hid (FB2.out.trans (bJ.mono FB2.out.size))
          have HEQ := Lib.hid (eqI_b Ac AJ fc.length J.length cc cJ fc J w3 (HRC.out w3 FB3.out) (RdI.of_own oJ) (by have := HLC.out.2.1; omega) (by have := HJ1.out; omega))
          clear oJ bJ
          go_wp2_with (fail)
          refine HEQ.out.mono ?_
          rintro e w4 ⟨rfl, b4⟩
          have FB4 := Lib.hid (HBU.out.trans ((FB3.out.trans (b4.mono FB3.out.size)).mono HBU.out.size))
          clear b4
          go_wp2
          go_ret
          exact ⟨rfl, FB4.out⟩
        exact AllReadyH.nil
      exact AllReadyH.nil
    exact AllReadyH.nil
  exact AllReadyH.nil
set_option linter.unusedSimpArgs false in
set_option maxRecDepth 100000 in
set_option maxHeartbeats 4000000 in
theorem lf_4 (A L C : Option Addr) (cA m d k0 e0 : Nat) (ws : List (List Int)) (w : World) (k z : Int) (ia ib ic : Nat) (hn : ws.length ≤ 48) (hia : ia < ws.length) (hib : ib < ws.length) (hic : ic < ws.length) (r : RdQ w w.heap.size A ws.length ws) (hf : ws.all formN = true) (ht : Arit w) (hu : Dual w) (hz : (lnk k ia ib ic).c = z) (hcz : (((ic : Nat) : Int) == z) = true) (d1 : (k == 1) = false) (d2 : (k == 2) = false) (d3 : (k == 3) = false) (d4 : (k == 4) = true) :
    Calls Tryz.prog 155 #[.agg #[.slice A ws.length cA, .slice L m d, .slice C k0 e0], .agg #[.int .i64 k, .int .i64 ((ia : Nat) : Int), .int .i64 ((ib : Nat) : Int), .int .i64 ((ic : Nat) : Int)]] w fun e w' => e = .returned (.bool (decide (ws.getD ic [] = opK k :: (ws.getD ia [] ++ ws.getD ib [])))) ∧ Below w.heap.size w w' := by
  have HA := Lib.hid (fun wx => isWire_any A L C ws.length cA m d k0 e0 ((ia : Nat) : Int) wx (by unfold maxLen; omega))
  rw [show inW ws.length ((ia : Nat) : Int) = true from decide_eq_true (by omega)] at HA
  have HBW := Lib.hid (fun wx => isWire_any A L C ws.length cA m d k0 e0 ((ib : Nat) : Int) wx (by unfold maxLen; omega))
  rw [show inW ws.length ((ib : Nat) : Int) = true from decide_eq_true (by omega)] at HBW
  have HCW := Lib.hid (fun wx => isWire_any A L C ws.length cA m d k0 e0 ((ic : Nat) : Int) wx (by unfold maxLen; omega))
  rw [show inW ws.length ((ic : Nat) : Int) = true from decide_eq_true (by omega)] at HCW
  have hlo : ∀ wx, Calls Tryz.prog 158 #[.int .i64 k, .int .i64 ((ia : Nat) : Int), .int .i64 ((ib : Nat) : Int), .int .i64 ((ic : Nat) : Int)] wx fun e w' => e = .returned (.agg #[.int .i64 k, .int .i64 ((ia : Nat) : Int), .int .i64 ((ib : Nat) : Int), .int .i64 (lnk k ia ib ic).c]) ∧ Below wx.heap.size wx w' := fun wx => linkOf_any k ia ib ic wx
  rw [hz] at hlo
  have HLO := Lib.hid hlo
  have nq := fun wx => neq_link k ((ia : Nat) : Int) ((ib : Nat) : Int) ((ic : Nat) : Int) z wx
  have va := formN_valid (all_at (d := []) hf hia)
  have vb := formN_valid (all_at (d := []) hf hib)
  have vc := formN_valid (all_at (d := []) hf hic)
  have la := valid_len va; have lb := valid_len vb; have lc := valid_len vc
  obtain ⟨bw, ow, rfl, hbb, hcells⟩ := r.2 (by omega)
  obtain ⟨Aa, ca, ka, mca, ra⟩ := hcells ia hia
  obtain ⟨Ab, cb, kb, mcb, rb⟩ := hcells ib hib
  obtain ⟨Ac, cc, kc, mcc, rc⟩ := hcells ic hic
  obtain ⟨fa, hfa⟩ : ∃ f, ws.getD ia [] = f := ⟨_, rfl⟩
  obtain ⟨fb, hfb⟩ : ∃ f, ws.getD ib [] = f := ⟨_, rfl⟩
  obtain ⟨fc, hfc⟩ : ∃ f, ws.getD ic [] = f := ⟨_, rfl⟩
  rw [hfa] at ka mca ra la va
  rw [hfb] at kb mcb rb lb
  rw [hfc] at kc mcc rc lc
  (try rw [hfa])
  (try rw [hfb])
  (try rw [hfc])
  obtain ⟨u, hu0⟩ : ∃ u, u = (w.alloc (.cells #[.slice (some ⟨bw, ow, none⟩) ws.length cA, .slice L m d, .slice C k0 e0] 30)).alloc (.cells #[.int .i64 k, .int .i64 ((ia : Nat) : Int), .int .i64 ((ib : Nat) : Int), .int .i64 ((ic : Nat) : Int)] 103) := ⟨_, rfl⟩
  obtain ⟨hbu, hK, hsz⟩ := boxes_any w (.slice (some ⟨bw, ow, none⟩) ws.length cA) (.slice L m d) (.slice C k0 e0) (.int .i64 k) (.int .i64 ((ia : Nat) : Int)) (.int .i64 ((ib : Nat) : Int)) (.int .i64 ((ic : Nat) : Int)) 30 103
  rw [← hu0] at hbu hK hsz
  have HU0 := Lib.hid hu0; have HBU := Lib.hid hbu; have HSX := Lib.hid hK
  have HRW := Lib.hid (fun (wx : World) (hx : Below u.heap.size u wx) => show wx.cell? ⟨bw, ow + ia, none⟩ = some (.slice Aa fa.length ca) ∧ wx.cell? ⟨bw, ow + ib, none⟩ = some (.slice Ab fb.length cb) ∧ wx.cell? ⟨bw, ow + ic, none⟩ = some (.slice Ac fc.length cc) from by
    have hb9 := hbu.trans (hx.mono hbu.size)
    exact ⟨(hb9.cell (p := ⟨bw, ow + ia, none⟩) hbb).trans ka, (hb9.cell (p := ⟨bw, ow + ib, none⟩) hbb).trans kb, (hb9.cell (p := ⟨bw, ow + ic, none⟩) hbb).trans kc⟩)
  have HRA := Lib.hid (fun (wx : World) (hx : Below u.heap.size u wx) => show RdI wx wx.heap.size Aa fa.length fa from (ra.below (hbu.trans (hx.mono hbu.size))).more (Nat.le_trans hbu.size hx.size))
  have HRB := Lib.hid (fun (wx : World) (hx : Below u.heap.size u wx) => show RdI wx wx.heap.size Ab fb.length fb from (rb.below (hbu.trans (hx.mono hbu.size))).more (Nat.le_trans hbu.size hx.size))
  have HRC := Lib.hid (fun (wx : World) (hx : Below u.heap.size u wx) => show RdI wx wx.heap.size Ac fc.length fc from (rc.below (hbu.trans (hx.mono hbu.size))).more (Nat.le_trans hbu.size hx.size))
  have HDU := Lib.hid (fun (wx : World) (hx : Below u.heap.size u wx) => dualOf_impl Aa fa.length ca fa wx (HRA.out wx hx) (ht.below (hbu.trans (hx.mono hbu.size)) ht.lt) (hu.below (hbu.trans (hx.mono hbu.size)) hu.lt) mca)
  have HLA := Lib.hid la; have HLB := Lib.hid lb; have HLC := Lib.hid lc
  have hai : ((ia : Nat) : Int) < (ws.length : Int) := by omega
  have hbi : ((ib : Nat) : Int) < (ws.length : Int) := by omega
  have hci : ((ic : Nat) : Int) < (ws.length : Int) := by omega
  clear hu0 hbu hK hsz hlo hz va vb vc la lb lc hcells ka kb kc ra rb rc hfa hfb hfc mca mcb mcc ht hu hf r hbb
  obtain ⟨J, hJ⟩ : ∃ J, opK k :: (fa ++ fb) = J := ⟨_, rfl⟩
  have HJ1 := Lib.hid (show J.length ≤ 100 by rw [← hJ]; have := HLA.out.2.1; have := HLB.out.2.1; simp; omega)
  rw [hJ]
  have HJ := Lib.hid hJ
  clear hJ
  rw [hcz] at nq
  simp only [Bool.not_true] at nq
  clear hcz
  go_enter Tryz.func155, Tryz.ntmps155
  go_upto_region 1 with (fail)
  rw [← HU0.out]
  have FB_0 := Lib.hid (Below.refl u.heap.size u)
  refine wp_region_held_drew (S := fun wx => wx.cell? ⟨w.heap.size, 0, none⟩ = some (.slice (some ⟨bw, ow, none⟩) ws.length cA) ∧ wx.cell? ⟨w.heap.size, 1, none⟩ = some (.slice L m d) ∧ wx.cell? ⟨w.heap.size, 2, none⟩ = some (.slice C k0 e0) ∧ wx.cell? ⟨w.heap.size + 1, 0, none⟩ = some (.int .i64 k) ∧ wx.cell? ⟨w.heap.size + 1, 1, none⟩ = some (.int .i64 ((ia : Nat) : Int)) ∧ wx.cell? ⟨w.heap.size + 1, 2, none⟩ = some (.int .i64 ((ib : Nat) : Int)) ∧ wx.cell? ⟨w.heap.size + 1, 3, none⟩ = some (.int .i64 ((ic : Nat) : Int))) (by kernel_rfl) (HSX.out _ (Below.refl _ _).drew) (fun hHeld => ?_)
  obtain ⟨wq1, hwq1⟩ : ∃ w', w' = u.drew := ⟨_, rfl⟩
  rw [← hwq1] at hHeld ⊢
  have bq1 : Below u.heap.size u wq1 := by rw [hwq1]; exact (Below.refl _ _).drew
  clear hwq1
  have FB_q2 := Lib.hid ((FB_0.out).trans ((bq1).mono (FB_0.out).size))
  clear FB_0
  refine wpAnyH_take (i := 0) (v := ?vq3) rfl (by kernel_rfl) (by kernel_rfl) (by kernel_rfl) (fun _ _ _ h => h) (Or.inl ⟨by rfl, ?yq3⟩) (by assumption) ?_
  case yq3 => (intro w hSw; (try dsimp only at hSw); go_simp; all_goals (with_reducible rfl))
  (try simp only [Act.put, List.setIfInBounds_toArray, List.set_cons_zero, List.set_cons_succ, List.getElem_toArray, List.getElem_cons_succ, List.getElem_cons_zero])
  refine wpAnyH_take (i := 1) (v := ?vq4) rfl (by kernel_rfl) (by kernel_rfl) (by kernel_rfl) (fun _ _ _ h => h) (Or.inl ⟨by rfl, ?yq4⟩) (by assumption) ?_
  case yq4 => (intro w hSw; (try dsimp only at hSw); go_simp; all_goals (with_reducible rfl))
  (try simp only [Act.put, List.setIfInBounds_toArray, List.set_cons_zero, List.set_cons_succ, List.getElem_toArray, List.getElem_cons_succ, List.getElem_cons_zero])
  refine wpAnyH_take (i := 2) (v := ?vq5) rfl (by kernel_rfl) (by kernel_rfl) (by kernel_rfl) (fun _ _ _ h => h) (Or.inl ⟨by rfl, ?yq5⟩) (by assumption) ?_
  case yq5 => (intro w hSw; (try dsimp only at hSw); go_simp; all_goals (with_reducible rfl))
  (try simp only [Act.put, List.setIfInBounds_toArray, List.set_cons_zero, List.set_cons_succ, List.getElem_toArray, List.getElem_cons_succ, List.getElem_cons_zero])
  refine wpAnyH_ready (rs := [3]) (by kernel_rfl) (by simp) ?_
  refine AllReadyH.cons rfl (fun K hK => ?_) ?_
  · go_simp
    refine (HA.out wq1).mono ?_
    rintro e wq6 ⟨rfl, belq6⟩
    dsimp only
    have FB_q7 := Lib.hid ((FB_q2.out).trans ((belq6).mono (FB_q2.out).size))
    clear FB_q2
    refine hK.out _ _ (HSX.out _ FB_q7.out) (fun hHeld => ?_)
    clear hK K
    (try simp only [Act.put, List.setIfInBounds_toArray, List.set_cons_zero, List.set_cons_succ, List.getElem_toArray, List.getElem_cons_succ, List.getElem_cons_zero])
    refine wpAnyH_take (i := 4) (v := ?vq8) rfl (by kernel_rfl) (by kernel_rfl) (by kernel_rfl) (fun _ _ _ h => h) (Or.inl ⟨by rfl, ?yq8⟩) (by assumption) ?_
    case yq8 => (intro w hSw; (try dsimp only at hSw); go_simp; all_goals (with_reducible rfl))
    (try simp only [Act.put, List.setIfInBounds_toArray, List.set_cons_zero, List.set_cons_succ, List.getElem_toArray, List.getElem_cons_succ, List.getElem_cons_zero])
    refine wpAnyH_take (i := 5) (v := ?vq9) rfl (by kernel_rfl) (by kernel_rfl) (by kernel_rfl) (fun _ _ _ h => h) (Or.inl ⟨by rfl, ?yq9⟩) (by assumption) ?_
    case yq9 => (intro w hSw; (try dsimp only at hSw); go_simp; all_goals (with_reducible rfl))
    (try simp only [Act.put, List.setIfInBounds_toArray, List.set_cons_zero, List.set_cons_succ, List.getElem_toArray, List.getElem_cons_succ, List.getElem_cons_zero])
    refine wpAnyH_take (i := 6) (v := ?vq10) rfl (by kernel_rfl) (by kernel_rfl) (by kernel_rfl) (fun _ _ _ h => h) (Or.inl ⟨by rfl, ?yq10⟩) (by assumption) ?_
    case yq10 => (intro w hSw; (try dsimp only at hSw); go_simp; all_goals (with_reducible rfl))
    (try simp only [Act.put, List.setIfInBounds_toArray, List.set_cons_zero, List.set_cons_succ, List.getElem_toArray, List.getElem_cons_succ, List.getElem_cons_zero])
    refine wpAnyH_take (i := 7) (v := ?vq11) rfl (by kernel_rfl) (by kernel_rfl) (by kernel_rfl) (fun _ _ _ h => h) (Or.inl ⟨by rfl, ?yq11⟩) (by assumption) ?_
    case yq11 => (intro w hSw; (try dsimp only at hSw); go_simp; all_goals (with_reducible rfl))
    (try simp only [Act.put, List.setIfInBounds_toArray, List.set_cons_zero, List.set_cons_succ, List.getElem_toArray, List.getElem_cons_succ, List.getElem_cons_zero])
    refine wpAnyH_take (i := 8) (v := ?vq12) rfl (by kernel_rfl) (by kernel_rfl) (by kernel_rfl) (fun _ _ _ h => h) (Or.inl ⟨by rfl, ?yq12⟩) (by assumption) ?_
    case yq12 => (intro w hSw; (try dsimp only at hSw); go_simp; all_goals (with_reducible rfl))
    (try simp only [Act.put, List.setIfInBounds_toArray, List.set_cons_zero, List.set_cons_succ, List.getElem_toArray, List.getElem_cons_succ, List.getElem_cons_zero])
    refine wpAnyH_ready (rs := [9]) (by kernel_rfl) (by simp) ?_
    refine AllReadyH.cons rfl (fun K hK => ?_) ?_
    · go_simp
      refine (HBW.out wq6).mono ?_
      rintro e wq13 ⟨rfl, belq13⟩
      dsimp only
      have FB_q14 := Lib.hid ((FB_q7.out).trans ((belq13).mono (FB_q7.out).size))
      clear FB_q7
      refine hK.out _ _ (HSX.out _ FB_q14.out) (fun hHeld => ?_)
      clear hK K
      (try simp only [Act.put, List.setIfInBounds_toArray, List.set_cons_zero, List.set_cons_succ, List.getElem_toArray, List.getElem_cons_succ, List.getElem_cons_zero])
      refine wpAnyH_take (i := 10) (v := ?vq15) rfl (by kernel_rfl) (by kernel_rfl) (by kernel_rfl) (fun _ _ _ h => h) (Or.inl ⟨by rfl, ?yq15⟩) (by assumption) ?_
      case yq15 => (intro w hSw; (try dsimp only at hSw); go_simp; all_goals (with_reducible rfl))
      (try simp only [Act.put, List.setIfInBounds_toArray, List.set_cons_zero, List.set_cons_succ, List.getElem_toArray, List.getElem_cons_succ, List.getElem_cons_zero])
      refine wpAnyH_take (i := 11) (v := ?vq16) rfl (by kernel_rfl) (by kernel_rfl) (by kernel_rfl) (fun _ _ _ h => h) (Or.inl ⟨by rfl, ?yq16⟩) (by assumption) ?_
      case yq16 => (intro w hSw; (try dsimp only at hSw); go_simp; all_goals (with_reducible rfl))
      (try simp only [Act.put, List.setIfInBounds_toArray, List.set_cons_zero, List.set_cons_succ, List.getElem_toArray, List.getElem_cons_succ, List.getElem_cons_zero])
      refine wpAnyH_take (i := 12) (v := ?vq17) rfl (by kernel_rfl) (by kernel_rfl) (by kernel_rfl) (fun _ _ _ h => h) (Or.inl ⟨by rfl, ?yq17⟩) (by assumption) ?_
      case yq17 => (intro w hSw; (try dsimp only at hSw); go_simp; all_goals (with_reducible rfl))
      (try simp only [Act.put, List.setIfInBounds_toArray, List.set_cons_zero, List.set_cons_succ, List.getElem_toArray, List.getElem_cons_succ, List.getElem_cons_zero])
      refine wpAnyH_take (i := 13) (v := ?vq18) rfl (by kernel_rfl) (by kernel_rfl) (by kernel_rfl) (fun _ _ _ h => h) (Or.inl ⟨by rfl, ?yq18⟩) (by assumption) ?_
      case yq18 => (intro w hSw; (try dsimp only at hSw); go_simp; all_goals (with_reducible rfl))
      (try simp only [Act.put, List.setIfInBounds_toArray, List.set_cons_zero, List.set_cons_succ, List.getElem_toArray, List.getElem_cons_succ, List.getElem_cons_zero])
      refine wpAnyH_take (i := 14) (v := ?vq19) rfl (by kernel_rfl) (by kernel_rfl) (by kernel_rfl) (fun _ _ _ h => h) (Or.inl ⟨by rfl, ?yq19⟩) (by assumption) ?_
      case yq19 => (intro w hSw; (try dsimp only at hSw); go_simp; all_goals (with_reducible rfl))
      (try simp only [Act.put, List.setIfInBounds_toArray, List.set_cons_zero, List.set_cons_succ, List.getElem_toArray, List.getElem_cons_succ, List.getElem_cons_zero])
      refine wpAnyH_take (i := 15) (v := ?vq20) rfl (by kernel_rfl) (by kernel_rfl) (by kernel_rfl) (fun _ _ _ h => h) (Or.inl ⟨by rfl, ?yq20⟩) (by assumption) ?_
      case yq20 => (intro w hSw; (try dsimp only at hSw); go_simp; all_goals (with_reducible rfl))
      (try simp only [Act.put, List.setIfInBounds_toArray, List.set_cons_zero, List.set_cons_succ, List.getElem_toArray, List.getElem_cons_succ, List.getElem_cons_zero])
      refine wpAnyH_ready (rs := [16]) (by kernel_rfl) (by simp) ?_
      refine AllReadyH.cons rfl (fun K hK => ?_) ?_
      · go_simp
        refine (HCW.out wq13).mono ?_
        rintro e wq21 ⟨rfl, belq21⟩
        dsimp only
        have FB_q22 := Lib.hid ((FB_q14.out).trans ((belq21).mono (FB_q14.out).size))
        clear FB_q14
        refine hK.out _ _ (HSX.out _ FB_q22.out) (fun hHeld => ?_)
        clear hK K
        (try simp only [Act.put, List.setIfInBounds_toArray, List.set_cons_zero, List.set_cons_succ, List.getElem_toArray, List.getElem_cons_succ, List.getElem_cons_zero])
        refine wpAnyH_take (i := 17) (v := ?vq23) rfl (by kernel_rfl) (by kernel_rfl) (by kernel_rfl) (fun _ _ _ h => h) (Or.inl ⟨by rfl, ?yq23⟩) (by assumption) ?_
        case yq23 => (intro w hSw; (try dsimp only at hSw); go_simp; all_goals (with_reducible rfl))
        (try simp only [Act.put, List.setIfInBounds_toArray, List.set_cons_zero, List.set_cons_succ, List.getElem_toArray, List.getElem_cons_succ, List.getElem_cons_zero])
        refine wpAnyH_take (i := 18) (v := ?vq24) rfl (by kernel_rfl) (by kernel_rfl) (by kernel_rfl) (fun _ _ _ h => h) (Or.inl ⟨by rfl, ?yq24⟩) (by assumption) ?_
        case yq24 => (intro w hSw; (try dsimp only at hSw); go_simp; all_goals (with_reducible rfl))
        (try simp only [Act.put, List.setIfInBounds_toArray, List.set_cons_zero, List.set_cons_succ, List.getElem_toArray, List.getElem_cons_succ, List.getElem_cons_zero])
        refine wpAnyH_take (i := 19) (v := ?vq25) rfl (by kernel_rfl) (by kernel_rfl) (by kernel_rfl) (fun _ _ _ h => h) (Or.inl ⟨by rfl, ?yq25⟩) (by assumption) ?_
        case yq25 => (intro w hSw; (try dsimp only at hSw); go_simp; all_goals (with_reducible rfl))
        (try simp only [Act.put, List.setIfInBounds_toArray, List.set_cons_zero, List.set_cons_succ, List.getElem_toArray, List.getElem_cons_succ, List.getElem_cons_zero])
        refine wpAnyH_take (i := 20) (v := ?vq26) rfl (by kernel_rfl) (by kernel_rfl) (by kernel_rfl) (fun _ _ _ h => h) (Or.inl ⟨by rfl, ?yq26⟩) (by assumption) ?_
        case yq26 => (intro w hSw; (try dsimp only at hSw); go_simp; all_goals (with_reducible rfl))
        (try simp only [Act.put, List.setIfInBounds_toArray, List.set_cons_zero, List.set_cons_succ, List.getElem_toArray, List.getElem_cons_succ, List.getElem_cons_zero])
        refine wpAnyH_take (i := 21) (v := ?vq27) rfl (by kernel_rfl) (by kernel_rfl) (by kernel_rfl) (fun _ _ _ h => h) (Or.inl ⟨by rfl, ?yq27⟩) (by assumption) ?_
        case yq27 => (intro w hSw; (try dsimp only at hSw); go_simp; all_goals (with_reducible rfl))
        (try simp only [Act.put, List.setIfInBounds_toArray, List.set_cons_zero, List.set_cons_succ, List.getElem_toArray, List.getElem_cons_succ, List.getElem_cons_zero])
        refine wpAnyH_take (i := 23) (v := ?vq28) rfl (by kernel_rfl) (by kernel_rfl) (by kernel_rfl) (fun _ _ _ h => h) (Or.inl ⟨by rfl, ?yq28⟩) (by assumption) ?_
        case yq28 => (intro w hSw; (try dsimp only at hSw); go_simp; all_goals (with_reducible rfl))
        (try simp only [Act.put, List.setIfInBounds_toArray, List.set_cons_zero, List.set_cons_succ, List.getElem_toArray, List.getElem_cons_succ, List.getElem_cons_zero])
        refine wpAnyH_take (i := 25) (v := ?vq29) rfl (by kernel_rfl) (by kernel_rfl) (by kernel_rfl) (fun _ _ _ h => h) (Or.inl ⟨by rfl, ?yq29⟩) (by assumption) ?_
        case yq29 => (intro w hSw; (try dsimp only at hSw); go_simp; all_goals (with_reducible rfl))
        (try simp only [Act.put, List.setIfInBounds_toArray, List.set_cons_zero, List.set_cons_succ, List.getElem_toArray, List.getElem_cons_succ, List.getElem_cons_zero])
        refine wpAnyH_take (i := 27) (v := ?vq30) rfl (by kernel_rfl) (by kernel_rfl) (by kernel_rfl) (fun _ _ _ h => h) (Or.inl ⟨by rfl, ?yq30⟩) (by assumption) ?_
        case yq30 => (intro w hSw; (try dsimp only at hSw); go_simp; all_goals (with_reducible rfl))
        (try simp only [Act.put, List.setIfInBounds_toArray, List.set_cons_zero, List.set_cons_succ, List.getElem_toArray, List.getElem_cons_succ, List.getElem_cons_zero])
        refine wpAnyH_take (i := 22) (v := ?vq31) rfl (by kernel_rfl) (by kernel_rfl) (by kernel_rfl) (fun _ _ _ h => h) (Or.inl ⟨by rfl, ?yq31⟩) (by assumption) ?_
        case yq31 => (intro w hSw; (try dsimp only at hSw); go_simp; all_goals (with_reducible rfl))
        (try simp only [Act.put, List.setIfInBounds_toArray, List.set_cons_zero, List.set_cons_succ, List.getElem_toArray, List.getElem_cons_succ, List.getElem_cons_zero])
        refine wpAnyH_take (i := 24) (v := ?vq32) rfl (by kernel_rfl) (by kernel_rfl) (by kernel_rfl) (fun _ _ _ h => h) (Or.inl ⟨by rfl, ?yq32⟩) (by assumption) ?_
        case yq32 => (intro w hSw; (try dsimp only at hSw); go_simp; all_goals (with_reducible rfl))
        (try simp only [Act.put, List.setIfInBounds_toArray, List.set_cons_zero, List.set_cons_succ, List.getElem_toArray, List.getElem_cons_succ, List.getElem_cons_zero])
        refine wpAnyH_take (i := 26) (v := ?vq33) rfl (by kernel_rfl) (by kernel_rfl) (by kernel_rfl) (fun _ _ _ h => h) (Or.inl ⟨by rfl, ?yq33⟩) (by assumption) ?_
        case yq33 => (intro w hSw; (try dsimp only at hSw); go_simp; all_goals (with_reducible rfl))
        (try simp only [Act.put, List.setIfInBounds_toArray, List.set_cons_zero, List.set_cons_succ, List.getElem_toArray, List.getElem_cons_succ, List.getElem_cons_zero])
        refine wpAnyH_take (i := 28) (v := ?vq34) rfl (by kernel_rfl) (by kernel_rfl) (by kernel_rfl) (fun _ _ _ h => h) (Or.inl ⟨by rfl, ?yq34⟩) (by assumption) ?_
        case yq34 => (intro w hSw; (try dsimp only at hSw); go_simp; all_goals (with_reducible rfl))
        (try simp only [Act.put, List.setIfInBounds_toArray, List.set_cons_zero, List.set_cons_succ, List.getElem_toArray, List.getElem_cons_succ, List.getElem_cons_zero])
        refine wpAnyH_ready (rs := [29]) (by kernel_rfl) (by simp) ?_
        refine AllReadyH.cons rfl (fun K hK => ?_) ?_
        · go_simp
          refine (HLO.out wq21).mono ?_
          rintro e wq35 ⟨rfl, belq35⟩
          dsimp only
          have FB_q36 := Lib.hid ((FB_q22.out).trans ((belq35).mono (FB_q22.out).size))
          clear FB_q22
          refine hK.out _ _ (HSX.out _ FB_q36.out) (fun hHeld => ?_)
          clear hK K
          (try simp only [Act.put, List.setIfInBounds_toArray, List.set_cons_zero, List.set_cons_succ, List.getElem_toArray, List.getElem_cons_succ, List.getElem_cons_zero])
          refine wpAnyH_take (i := 30) (v := ?vq37) rfl (by kernel_rfl) (by kernel_rfl) (by kernel_rfl) (fun _ _ _ h => h) (Or.inl ⟨by rfl, ?yq37⟩) (by assumption) ?_
          case yq37 => (intro w hSw; (try dsimp only at hSw); go_simp; all_goals (with_reducible rfl))
          (try simp only [Act.put, List.setIfInBounds_toArray, List.set_cons_zero, List.set_cons_succ, List.getElem_toArray, List.getElem_cons_succ, List.getElem_cons_zero])
          refine wpAnyH_take (i := 31) (v := ?vq38) rfl (by kernel_rfl) (by kernel_rfl) (by kernel_rfl) (fun _ _ _ h => h) (Or.inl ⟨by rfl, ?yq38⟩) (by assumption) ?_
          case yq38 => (intro w hSw; (try dsimp only at hSw); go_simp; all_goals (with_reducible rfl))
          (try simp only [Act.put, List.setIfInBounds_toArray, List.set_cons_zero, List.set_cons_succ, List.getElem_toArray, List.getElem_cons_succ, List.getElem_cons_zero])
          refine wpAnyH_done (by kernel_rfl) ?_ _
          clear nq
          obtain ⟨y0, y1, y2, x0, x1, x2, x3⟩ := HSX.out _ FB_q36.out
          obtain ⟨e1, e2, e3⟩ := HRW.out _ FB_q36.out
          go_upto_region 3 with (fail)
          go_quiet (fail)
          have bq := below_drewN (Below.refl wq35.heap.size wq35) nq
          obtain ⟨w1, hw1⟩ : ∃ w1, w1 = wq35.drewN nq := ⟨_, rfl⟩
          rw [← hw1] at bq ⊢
          have FB1 := Lib.hid (FB_q36.out.trans (bq.mono FB_q36.out.size))
          clear bq hw1 y0 y1 y2 x0 x1 x2 x3 e1 e2 e3
          obtain ⟨_, _, _, x0, _, _, _⟩ := HSX.out _ FB1.out
          go_wp2_with (fail)
          refine (linkOperator_any k w1).mono ?_
          rintro e w9 ⟨rfl, rfl⟩
          obtain ⟨w2, hw2⟩ : ∃ w2, w2 = w1.alloc (.cells #[.slice Aa fa.length ca, .slice Ab fb.length cb] 24) := ⟨_, rfl⟩
          have b2 : Below w1.heap.size w1 w2 := by rw [hw2]; exact (Below.refl _ _).alloc (Nat.le_refl _) _
          have g2 : w2.heap[w1.heap.size]? = some (.cells #[.slice Aa fa.length ca, .slice Ab fb.length cb] 24 (0, 0)) := by rw [hw2]; exact heap_alloc_new _ _
          have FB2 := Lib.hid (FB1.out.trans (b2.mono FB1.out.size))
          have HW2 := Lib.hid hw2
          have hfo := formOf_any (opK k) w1.heap.size 2 2 [.slice Aa fa.length ca, .slice Ab fb.length cb] [fa, fb] w2 rfl (by omega) (by omega) (fun i hi => by
            rcases i with _ | _ | i
            · exact cell_of_row _ _ 0 _ _ (0, 0) g2
            · exact cell_of_row _ _ 1 _ _ (0, 0) g2
            · omega) (Array.getElem?_eq_some_iff.1 g2).1 (fun i hi => by
            rcases i with _ | _ | i
            · exact Part.of_rd (HRA.out w2 FB2.out) HLA.out.1
            · exact Part.of_rd (HRB.out w2 FB2.out) HLB.out.1
            · omega) (by have := HLA.out.2.1; have := HLB.out.2.1; simp; omega) (by have := HLA.out.1; simp; omega)
          rw [show [fa, fb].flatten = fa ++ fb by simp] at hfo
          rw [HJ.out] at hfo
          have HFO := Lib.hid hfo
          clear hfo HJ b2 g2 hw2 HSX HRW
          generalize opK k = ok at *
          go_wp2_with (fail)
          rw [← HW2.out]
          clear HW2 x0
          refine HFO.out.mono ?_
          rintro e w3 ⟨AJ, cJ, rfl, oJ, bJ⟩
          have FB3 := Lib.hid (FB2.out.trans (bJ.mono FB2.out.size))
          have HEQ := Lib.hid (eqI_b Ac AJ fc.length J.length cc cJ fc J w3 (HRC.out w3 FB3.out) (RdI.of_own oJ) (by have := HLC.out.2.1; omega) (by have := HJ1.out; omega))
          clear oJ bJ
          go_wp2_with (fail)
          refine HEQ.out.mono ?_
          rintro e w4 ⟨rfl, b4⟩
          have FB4 := Lib.hid (HBU.out.trans ((FB3.out.trans (b4.mono FB3.out.size)).mono HBU.out.size))
          clear b4
          go_wp2
          go_ret
          exact ⟨rfl, FB4.out⟩
        exact AllReadyH.nil
      exact AllReadyH.nil
    exact AllReadyH.nil
  exact AllReadyH.nil
end Go.Proofs.YtfdpkhiiboghiaaGreatDoor
