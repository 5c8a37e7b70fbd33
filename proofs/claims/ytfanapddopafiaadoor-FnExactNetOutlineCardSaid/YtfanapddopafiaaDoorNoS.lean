/- The model's NetOutline. Made by mknos.py. -/
import Derived.Test.YtfanapddopafiaaDoorNoM
import Derived.Test.YtfanapddopafiaaDoorTrT
import Derived.Deep.RegionHeldLaw
import Derived.Deep.DeepCutAuto
namespace Go.Proofs.YtfanapddopafiaaDoor
set_option linter.unusedSimpArgs false
set_option linter.unusedVariables false
open Go.ChangeAt Go.ChangeShapes Go.RowKit Go.WideShapes

/-- The text so far. -/
noncomputable def acT (L : List UInt8) : ByteArray := ⟨L.toArray⟩
theorem acT_size (L : List UInt8) : (acT L).size = L.length := ba_sz L
theorem acT_line (L : List UInt8) (s : ByteArray) : acT L ++ s ++ ⟨#[10]⟩ = acT (L ++ (s.data.toList ++ [10])) := ba_line L s
set_option maxRecDepth 100000 in
set_option maxHeartbeats 500000 in
theorem sNetOutline_any (h : NH) (N : Nt) (w : World) (r : RdN w w.heap.size h N) (hn : N.w.length ≤ 1048576) (hl : N.l.length ≤ 1048576) (hc : N.c.length ≤ 1048576) :
    Calls Tryd.prog 29 #[.agg #[.slice h.A N.w.length h.c, .slice h.L N.l.length h.d, .slice h.C N.c.length h.e]] w fun e w' => e = .returned (.string (noT N)) ∧ Below w.heap.size w w' := by
  obtain ⟨w0, hw0⟩ : ∃ w0, w0 = w.alloc (.cells #[.slice h.A N.w.length h.c, .slice h.L N.l.length h.d, .slice h.C N.c.length h.e] 31) := ⟨_, rfl⟩
  obtain ⟨hb, hh, hsz⟩ := box3_any w (.slice h.A N.w.length h.c) (.slice h.L N.l.length h.d) (.slice h.C N.c.length h.e) 31
  rw [← hw0] at hb hh hsz
  have HK := Lib.hid (fun (wx : World) (hx : Below w0.heap.size w0 wx) => three_cells ((hx.block w.heap.size (by omega)).trans hh))
  have HR := Lib.hid (fun (wx : World) (hx : Below w0.heap.size w0 wx) => show RdN wx wx.heap.size h N from ((r.below (hb.trans (hx.mono hb.size))).more (Nat.le_trans hb.size hx.size)))
  have HV := Lib.hid (fun (wx : World) (hx : Below w0.heap.size w0 wx) => sValidNet_any h N wx ((r.below (hb.trans (hx.mono hb.size))).more (Nat.le_trans hb.size hx.size)) hn hl hc)
  have HB0 := Lib.hid hb
  clear hb hh hsz r
  cases hv : valN N with
  | false =>
    have HE := Lib.hid (noT_no hv)
    rw [hv] at HV
    clear hv
    go_enter Tryd.func29, Tryd.ntmps29
    go_upto_region 1 with (fail)
    rw [← hw0]
    clear hw0
    go_wp2
    go_loopw [3, 4] (fun s i wx => i = .int .i64 0 ∧ s = .string ⟨#[]⟩ ∧ Below w0.heap.size w0 wx) (fun _ _ _ => 0)
    case atStart => exact ⟨rfl, rfl, Below.refl _ _⟩
    case round =>
      obtain ⟨rfl, rfl, hB⟩ := hrel
      obtain ⟨y0, y1, y2⟩ := HK.out _ hB
      have key : ∀ wy : World, Below w0.heap.size w0 wy → True := fun _ _ => trivial
      clear key
      by_cases h0 : 0 < N.c.length
      · have hd : decide ((0 : Int) < (N.c.length : Int)) = true := decide_eq_true (by omega)
        have HB := Lib.hid hB
        clear hB
        go_wp2_with (fail)
        refine (HV.out _ HB.out).mono ?_
        rintro e w1 ⟨rfl, bel⟩
        have HB1 := Lib.hid (HB.out.trans (bel.mono HB.out.size))
        clear bel y0 y1 y2
        go_wp2
        rename World => wr0
        go_loopw [3, 5] (fun s i wx => i = .int .i64 0 ∧ s = .string ⟨#[]⟩ ∧ Below w0.heap.size w0 wx) (fun _ _ _ => 0)
        case atStart => exact ⟨rfl, rfl, HB1.out⟩
        case round =>
          clear HB1
          obtain ⟨rfl, rfl, hB⟩ := hrel
          obtain ⟨y0, y1, y2⟩ := HK.out _ hB
          by_cases h3 : 0 < N.l.length
          · have hd3 : decide ((0 : Int) < (N.l.length : Int)) = true := decide_eq_true (by omega)
            have HB := Lib.hid hB
            clear hB
            go_wp2_with (fail)
            refine (HV.out _ HB.out).mono ?_
            rintro e w2 ⟨rfl, bel⟩
            have HG := Lib.hid (HB0.out.trans ((HB.out.trans (bel.mono HB.out.size)).mono HB0.out.size))
            clear bel y0 y1 y2
            go_wp2
            go_ret
            exact ⟨ret_sA HE.out.symm, HG.out⟩
          · have hd3 : decide ((0 : Int) < (N.l.length : Int)) = false := decide_eq_false (by omega)
            have HG := Lib.hid (HB0.out.trans (hB.mono HB0.out.size))
            clear hB
            go_wp2
            go_ret
            exact ⟨ret_sA HE.out.symm, HG.out⟩
      · have hd : decide ((0 : Int) < (N.c.length : Int)) = false := decide_eq_false (by omega)
        have HB1 := Lib.hid hB
        clear hB
        go_upto_region 6 with (fail)
        clear y0 y1 y2
        go_wp2
        rename World => wr0
        go_loopw [3, 5] (fun s i wx => i = .int .i64 0 ∧ s = .string ⟨#[]⟩ ∧ Below w0.heap.size w0 wx) (fun _ _ _ => 0)
        case atStart => exact ⟨rfl, rfl, HB1.out⟩
        case round =>
          clear HB1
          obtain ⟨rfl, rfl, hB⟩ := hrel
          obtain ⟨y0, y1, y2⟩ := HK.out _ hB
          by_cases h3 : 0 < N.l.length
          · have hd3 : decide ((0 : Int) < (N.l.length : Int)) = true := decide_eq_true (by omega)
            have HB := Lib.hid hB
            clear hB
            go_wp2_with (fail)
            refine (HV.out _ HB.out).mono ?_
            rintro e w2 ⟨rfl, bel⟩
            have HG := Lib.hid (HB0.out.trans ((HB.out.trans (bel.mono HB.out.size)).mono HB0.out.size))
            clear bel y0 y1 y2
            go_wp2
            go_ret
            exact ⟨ret_sA HE.out.symm, HG.out⟩
          · have hd3 : decide ((0 : Int) < (N.l.length : Int)) = false := decide_eq_false (by omega)
            have HG := Lib.hid (HB0.out.trans (hB.mono HB0.out.size))
            clear hB
            go_wp2
            go_ret
            exact ⟨ret_sA HE.out.symm, HG.out⟩
  | true =>
    have HE := Lib.hid (noT_yes hv)
    have HVT := Lib.hid hv
    have hcl := valN_conc_le hv
    obtain ⟨hs1, hs2⟩ := valN_size hv
    rw [hv] at HV
    clear hv
    go_enter Tryd.func29, Tryd.ntmps29
    go_upto_region 1 with (fail)
    rw [← hw0]
    clear hw0
    go_wp2
    go_loopw [3, 4] (fun s i wx => ∃ k : Nat, k ≤ N.c.length ∧ i = .int .i64 k ∧ s = .string (acT (cosN N k)) ∧ Below w0.heap.size w0 wx) (fun _ i _ => N.c.length - (intOf i).toNat)
    case atStart => exact ⟨0, Nat.zero_le _, rfl, (by simp [acT, cosN]), Below.refl _ _⟩
    case round =>
      obtain ⟨k, hk, rfl, rfl, hB⟩ := hrel
      obtain ⟨y0, y1, y2⟩ := HK.out _ hB
      by_cases hlt : k < N.c.length
      · have HB := Lib.hid hB
        have hin := all_at (d := 0) (valN_concl HVT.out) hlt
        have HSU := Lib.hid (cosN_succ (N := N) hlt)
        have hl1 := cosN_len HVT.out k (by omega)
        have HAC := Lib.hid (acT_line (cosN N k) (coT N (N.c.getD k 0)))
        rw [show (coT N (N.c.getD k 0)).data.toList ++ [10] = coN N (N.c.getD k 0) from rfl, ← HSU.out] at HAC
        have htz := trT_some HVT.out (N.c.getD k 0)
        have HCA : Hid (∀ wx, Below w0.heap.size w0 wx → ∃ bc offc, h.C = some ⟨bc, offc, none⟩ ∧ wx.cell? ⟨bc, offc + k, none⟩ = some (.int .i64 (N.c.getD k 0))) := Lib.hid fun wx hx => by
          obtain ⟨bc, offc, hC, hbc, hcc⟩ := (HR.out _ hx).2.2.2 (by omega)
          exact ⟨bc, offc, hC, hcc k hlt⟩
        obtain ⟨z, hz⟩ : ∃ z, N.c.getD k 0 = z := ⟨_, rfl⟩
        rw [hz] at hin HAC HCA htz
        have HT := Lib.hid (fun (wx : World) (hx : Below w0.heap.size w0 wx) => sTree_any N HVT.out h _ z (Nat.le_refl _) hin wx (HR.out wx hx))
        have hza := acT_size (cosN N k)
        have hzc : coW.size = 6 := rfl
        have HCT : Hid (coW ++ trT dcN N z = coT N z) := Lib.hid rfl
        have hzn : (⟨#[10]⟩ : ByteArray).size = 1 := rfl
        rw [← HCT.out, ← ByteArray.append_assoc] at HAC
        generalize acT (cosN N k) = A0 at *
        generalize hA4 : acT (cosN N (k + 1)) = A4 at *
        have HA4 := Lib.hid hA4
        clear hA4
        generalize trT dcN N z = TZ at *
        have a1 : ∀ w : World, (Op.stringOp .add A0 ⟨#[99, 111, 110, 99, 108, 32]⟩).run Tryd.prog w = .ok (.string (A0 ++ coW)) w := fun w => run_string_add_sum _ _ _ (by show A0.size + coW.size ≤ _; omega)
        have s1 : (A0 ++ coW).size = A0.size + 6 := by rw [ByteArray.size_append, hzc]
        have a2 : ∀ w : World, (Op.stringOp .add (A0 ++ coW) TZ).run Tryd.prog w = .ok (.string (A0 ++ coW ++ TZ)) w := fun w => run_string_add_sum _ _ _ (by omega)
        have s2 : (A0 ++ coW ++ TZ).size = A0.size + 6 + TZ.size := by rw [ByteArray.size_append, s1]
        have a3 : ∀ w : World, (Op.stringOp .add (A0 ++ coW ++ TZ) ⟨#[10]⟩).run Tryd.prog w = .ok (.string A4) w := fun w => by rw [← HAC.out]; exact run_string_add_sum _ _ _ (by omega)
        generalize A0 ++ coW ++ TZ = A2 at *
        generalize A0 ++ coW = A1 at *
        clear hB hz hl1 htz hza hzc hzn s1 s2
        go_wp2_with (fail)
        refine (HV.out _ HB.out).mono ?_
        rintro e w1 ⟨rfl, bel⟩
        have HB1 := Lib.hid (HB.out.trans (bel.mono HB.out.size))
        clear bel y0 y1 y2
        obtain ⟨bc, offc, hC, _⟩ := HCA.out _ HB1.out
        have HCC := Lib.hid hC
        rw [hC] at HT
        have HSX : Hid (∀ wx : World, Below w0.heap.size w0 wx → wx.cell? ⟨w.heap.size, 0, none⟩ = some (.slice h.A N.w.length h.c) ∧ wx.cell? ⟨w.heap.size, 1, none⟩ = some (.slice h.L N.l.length h.d) ∧ wx.cell? ⟨w.heap.size, 2, none⟩ = some (.slice (some ⟨bc, offc, none⟩) N.c.length h.e) ∧ wx.cell? ⟨bc, offc + k, none⟩ = some (.int .i64 z)) := Lib.hid fun wx hx => by
          obtain ⟨n0, n1, n2⟩ := HK.out wx hx
          obtain ⟨bc', offc', hC', hcz'⟩ := HCA.out _ hx
          rw [HCC.out] at n2 hC'
          injection hC' with hC'; injection hC' with e1 e2
          subst e1; subst e2
          exact ⟨n0, n1, n2, hcz'⟩
        have FB_0 := Lib.hid HB1.out
        clear hC
        go_upto_region 5 with (fail)
        refine wp_region_held_drew (S := fun wx => wx.cell? ⟨w.heap.size, 0, none⟩ = some (.slice h.A N.w.length h.c) ∧ wx.cell? ⟨w.heap.size, 1, none⟩ = some (.slice h.L N.l.length h.d) ∧ wx.cell? ⟨w.heap.size, 2, none⟩ = some (.slice (some ⟨bc, offc, none⟩) N.c.length h.e) ∧ wx.cell? ⟨bc, offc + k, none⟩ = some (.int .i64 z)) (by kernel_rfl) (HSX.out _ HB1.out.drew) (fun hHeld => ?_)
        obtain ⟨wp1, hwp1⟩ : ∃ w', w' = w1.drew := ⟨_, rfl⟩
        rw [← hwp1] at hHeld ⊢
        have bp1 : Below w1.heap.size w1 wp1 := by rw [hwp1]; exact (Below.refl _ _).drew
        clear hwp1
        have FB_p2 := Lib.hid ((FB_0.out).trans ((bp1).mono (FB_0.out).size))
        clear FB_0
        refine wpAnyH_take (i := 0) (v := ?vp3) rfl (by kernel_rfl) (by kernel_rfl) (by kernel_rfl) (fun _ _ _ h => h) (Or.inl ⟨by rfl, ?yp3⟩) (by assumption) ?_
        case yp3 => (intro w hSw; (try dsimp only at hSw); go_simp; all_goals (with_reducible rfl))
        (try simp only [Act.put, List.setIfInBounds_toArray, List.set_cons_zero, List.set_cons_succ, List.getElem_toArray, List.getElem_cons_succ, List.getElem_cons_zero])
        refine wpAnyH_take (i := 2) (v := ?vp4) rfl (by kernel_rfl) (by kernel_rfl) (by kernel_rfl) (fun _ _ _ h => h) (Or.inl ⟨by rfl, ?yp4⟩) (by assumption) ?_
        case yp4 => (intro w hSw; (try dsimp only at hSw); go_simp; all_goals (with_reducible rfl))
        (try simp only [Act.put, List.setIfInBounds_toArray, List.set_cons_zero, List.set_cons_succ, List.getElem_toArray, List.getElem_cons_succ, List.getElem_cons_zero])
        refine wpAnyH_take (i := 3) (v := ?vp5) rfl (by kernel_rfl) (by kernel_rfl) (by kernel_rfl) (fun _ _ _ h => h) (Or.inl ⟨by rfl, ?yp5⟩) (by assumption) ?_
        case yp5 => (intro w hSw; (try dsimp only at hSw); go_simp; all_goals (with_reducible rfl))
        (try simp only [Act.put, List.setIfInBounds_toArray, List.set_cons_zero, List.set_cons_succ, List.getElem_toArray, List.getElem_cons_succ, List.getElem_cons_zero])
        refine wpAnyH_take (i := 5) (v := ?vp6) rfl (by kernel_rfl) (by kernel_rfl) (by kernel_rfl) (fun _ _ _ h => h) (Or.inl ⟨by rfl, ?yp6⟩) (by assumption) ?_
        case yp6 => (intro w hSw; (try dsimp only at hSw); go_simp; all_goals (with_reducible rfl))
        (try simp only [Act.put, List.setIfInBounds_toArray, List.set_cons_zero, List.set_cons_succ, List.getElem_toArray, List.getElem_cons_succ, List.getElem_cons_zero])
        refine wpAnyH_take (i := 1) (v := ?vp7) rfl (by kernel_rfl) (by kernel_rfl) (by kernel_rfl) (fun _ _ _ h => h) (Or.inl ⟨by rfl, ?yp7⟩) (by assumption) ?_
        case yp7 => (intro w hSw; (try dsimp only at hSw); go_simp; all_goals (with_reducible rfl))
        (try simp only [Act.put, List.setIfInBounds_toArray, List.set_cons_zero, List.set_cons_succ, List.getElem_toArray, List.getElem_cons_succ, List.getElem_cons_zero])
        refine wpAnyH_take (i := 4) (v := ?vp8) rfl (by kernel_rfl) (by kernel_rfl) (by kernel_rfl) (fun _ _ _ h => h) (Or.inl ⟨by rfl, ?yp8⟩) (by assumption) ?_
        case yp8 => (intro w hSw; (try dsimp only at hSw); go_simp; all_goals (with_reducible rfl))
        (try simp only [Act.put, List.setIfInBounds_toArray, List.set_cons_zero, List.set_cons_succ, List.getElem_toArray, List.getElem_cons_succ, List.getElem_cons_zero])
        refine wpAnyH_take (i := 6) (v := ?vp9) rfl (by kernel_rfl) (by kernel_rfl) (by kernel_rfl) (fun _ _ _ h => h) (Or.inl ⟨by rfl, ?yp9⟩) (by assumption) ?_
        case yp9 => (intro w hSw; (try dsimp only at hSw); go_simp; all_goals (with_reducible rfl))
        (try simp only [Act.put, List.setIfInBounds_toArray, List.set_cons_zero, List.set_cons_succ, List.getElem_toArray, List.getElem_cons_succ, List.getElem_cons_zero])
        refine wpAnyH_take (i := 7) (v := ?vp10) rfl (by kernel_rfl) (by kernel_rfl) (by kernel_rfl) (fun _ _ _ h => h) (Or.inl ⟨by rfl, ?yp10⟩) (by assumption) ?_
        case yp10 => (intro w hSw; (try dsimp only at hSw); go_simp; all_goals (with_reducible rfl))
        (try simp only [Act.put, List.setIfInBounds_toArray, List.set_cons_zero, List.set_cons_succ, List.getElem_toArray, List.getElem_cons_succ, List.getElem_cons_zero])
        refine wpAnyH_ready (rs := [8]) (by kernel_rfl) (by simp) ?_
        refine AllReadyH.cons rfl (fun K hK => ?_) ?_
        · go_simp
          refine (HT.out wp1 FB_p2.out).mono ?_
          rintro e wp11 ⟨rfl, belp11⟩
          dsimp only
          have FB_p12 := Lib.hid ((FB_p2.out).trans ((belp11).mono (FB_p2.out).size))
          clear FB_p2
          clear belp11
          refine hK.out _ _ (HSX.out _ FB_p12.out) (fun hHeld => ?_)
          clear hK K
          (try simp only [Act.put, List.setIfInBounds_toArray, List.set_cons_zero, List.set_cons_succ, List.getElem_toArray, List.getElem_cons_succ, List.getElem_cons_zero])
          refine wpAnyH_take (i := 9) (v := ?vp13) rfl (by kernel_rfl) (by kernel_rfl) (by kernel_rfl) (fun _ _ _ h => h) (Or.inl ⟨by rfl, ?yp13⟩) (by assumption) ?_
          case yp13 => (intro w hSw; (try dsimp only at hSw); go_simp; all_goals (with_reducible rfl))
          (try simp only [Act.put, List.setIfInBounds_toArray, List.set_cons_zero, List.set_cons_succ, List.getElem_toArray, List.getElem_cons_succ, List.getElem_cons_zero])
          refine wpAnyH_take (i := 10) (v := ?vp14) rfl (by kernel_rfl) (by kernel_rfl) (by kernel_rfl) (fun _ _ _ h => h) (Or.inl ⟨by rfl, ?yp14⟩) (by assumption) ?_
          case yp14 => (intro w hSw; (try dsimp only at hSw); go_simp; all_goals (with_reducible rfl))
          (try simp only [Act.put, List.setIfInBounds_toArray, List.set_cons_zero, List.set_cons_succ, List.getElem_toArray, List.getElem_cons_succ, List.getElem_cons_zero])
          refine wpAnyH_ready (rs := [11]) (by kernel_rfl) (by simp) ?_
          refine AllReadyH.cons rfl (fun K hK => ?_) ?_
          · go_simp
            refine hK.out _ _ hHeld (fun hHeld => ?_)
            clear hK K
            (try simp only [Act.put, List.setIfInBounds_toArray, List.set_cons_zero, List.set_cons_succ, List.getElem_toArray, List.getElem_cons_succ, List.getElem_cons_zero])
            refine wpAnyH_done (by kernel_rfl) ?_ _
            have HBZ := Lib.hid FB_p12.out
            go_wp2
            go_roundw
            case rel => exact ⟨k + 1, by omega, by go_num, (by rw [HA4.out]), HBZ.out⟩
            case measure => simp [intOf]; omega
          exact AllReadyH.nil
        exact AllReadyH.nil
      · have hkl : k = N.c.length := by omega
        subst hkl
        have HB := Lib.hid hB
        rw [← cusN_zero]
        clear hB
        go_upto_region 6 with (fail)
        clear y0 y1 y2
        go_wp2
        rename World => wr0
        go_loopw [3, 5] (fun s i wx => ∃ k : Nat, k ≤ N.l.length ∧ i = .int .i64 k ∧ s = .string (acT (cusN N k)) ∧ Below w0.heap.size w0 wx) (fun _ i _ => N.l.length - (intOf i).toNat)
        case atStart => exact ⟨0, Nat.zero_le _, rfl, rfl, HB.out⟩
        case round =>
          clear HB
          obtain ⟨k, hk, rfl, rfl, hB⟩ := hrel
          obtain ⟨y0, y1, y2⟩ := HK.out _ hB
          by_cases hlt : k < N.l.length
          · have HB := Lib.hid hB
            have hfit := link_fits HVT.out hlt
            have HSU := Lib.hid (cusN_succ (N := N) hlt)
            have hl1 := cusN_len HVT.out k (by omega)
            have HYE := Lib.hid (fun e => cuN_yes (N := N) (l := N.l.getD k Lk.nil) e)
            have HNT := Lib.hid (fun e => cuN_not (N := N) (l := N.l.getD k Lk.nil) e)
            have HAC := Lib.hid (acT_line (cusN N k) (cuT N (N.l.getD k Lk.nil)))
            have hta := trT_some HVT.out (N.l.getD k Lk.nil).a
            have htb := trT_some HVT.out (N.l.getD k Lk.nil).b
            have hia := (fitsN_yes hfit).1
            have hib := (fitsN_yes hfit).2.1
            have HLA : Hid (∀ wx, Below w0.heap.size w0 wx → ∃ b off, h.L = some ⟨b, off, none⟩ ∧ wx.cell? ⟨b, off + k * 4, none⟩ = some (.int .i64 (N.l.getD k Lk.nil).k) ∧ wx.cell? ⟨b, off + k * 4 + 1, none⟩ = some (.int .i64 (N.l.getD k Lk.nil).a) ∧ wx.cell? ⟨b, off + k * 4 + 2, none⟩ = some (.int .i64 (N.l.getD k Lk.nil).b)) := Lib.hid fun wx hx => by
              obtain ⟨b, off, hA, hbb, hcells⟩ := (HR.out _ hx).2.1.at (by omega)
              obtain ⟨x0, x1, x2, _⟩ := hcells k hlt
              exact ⟨b, off, hA, x0, x1, x2⟩
            obtain ⟨⟨lk, la, lb, lc⟩, hl⟩ : ∃ l, N.l.getD k Lk.nil = l := ⟨_, rfl⟩
            rw [hl] at HSU HYE HNT HAC hta htb hia hib HLA
            dsimp only at HYE HNT hta htb hia hib HLA
            have HTA := Lib.hid (fun (wx : World) (hx : Below w0.heap.size w0 wx) => sTree_any N HVT.out h _ la (Nat.le_refl _) hia wx (HR.out wx hx))
            have HTB := Lib.hid (fun (wx : World) (hx : Below w0.heap.size w0 wx) => sTree_any N HVT.out h _ lb (Nat.le_refl _) hib wx (HR.out wx hx))
            have hza := acT_size (cusN N k)
            clear hB hl hfit hia hib
            go_wp2_with (fail)
            refine (HV.out _ HB.out).mono ?_
            rintro e w1 ⟨rfl, bel⟩
            have HB1 := Lib.hid (HB.out.trans (bel.mono HB.out.size))
            clear bel y0 y1 y2
            obtain ⟨y0, y1, y2⟩ := HK.out _ HB1.out
            obtain ⟨b, off, hA, x0, _, _⟩ := HLA.out _ HB1.out
            have HAA := Lib.hid hA
            rw [hA] at HTA HTB y1
            clear hA
            by_cases h2 : lk = 2
            · have hyes := HYE.out h2
              rw [hyes] at HSU
              rw [← HSU.out] at HAC
              have HCT : Hid (cuW ++ (trT dcN N la ++ ⟨#[32]⟩ ++ trT dcN N lb) = cuT N ⟨lk, la, lb, lc⟩) := Lib.hid rfl
              rw [← HCT.out] at HAC
              have hzc : cuW.size = 4 := rfl
              have hzn : (⟨#[10]⟩ : ByteArray).size = 1 := rfl
              have hzs : (⟨#[32]⟩ : ByteArray).size = 1 := rfl
              have HAC2 : Hid (acT (cusN N k) ++ cuW ++ trT dcN N la ++ ⟨#[32]⟩ ++ trT dcN N lb ++ ⟨#[10]⟩ = acT (cusN N (k + 1))) := Lib.hid (by rw [← HAC.out]; simp only [ByteArray.append_assoc])
              have HS2 := Lib.hid h2
              clear HAC HCT hyes HSU HYE HNT
              generalize acT (cusN N k) = A0 at *
              generalize hA4 : acT (cusN N (k + 1)) = A6 at *
              have HA4 := Lib.hid hA4
              clear hA4
              generalize trT dcN N la = TA at *
              generalize trT dcN N lb = TB at *
              have a1 : ∀ w : World, (Op.stringOp .add A0 ⟨#[99, 117, 116, 32]⟩).run Tryd.prog w = .ok (.string (A0 ++ cuW)) w := fun w => run_string_add_sum _ _ _ (by show A0.size + cuW.size ≤ _; omega)
              have s1 : (A0 ++ cuW).size = A0.size + 4 := by rw [ByteArray.size_append, hzc]
              have a2 : ∀ w : World, (Op.stringOp .add (A0 ++ cuW) TA).run Tryd.prog w = .ok (.string (A0 ++ cuW ++ TA)) w := fun w => run_string_add_sum _ _ _ (by omega)
              have s2 : (A0 ++ cuW ++ TA).size = A0.size + 4 + TA.size := by rw [ByteArray.size_append, s1]
              have a3 : ∀ w : World, (Op.stringOp .add (A0 ++ cuW ++ TA) ⟨#[32]⟩).run Tryd.prog w = .ok (.string (A0 ++ cuW ++ TA ++ ⟨#[32]⟩)) w := fun w => run_string_add_sum _ _ _ (by omega)
              have s3 : (A0 ++ cuW ++ TA ++ (⟨#[32]⟩ : ByteArray)).size = A0.size + 4 + TA.size + 1 := by rw [ByteArray.size_append, s2, hzs]
              have a4 : ∀ w : World, (Op.stringOp .add (A0 ++ cuW ++ TA ++ ⟨#[32]⟩) TB).run Tryd.prog w = .ok (.string (A0 ++ cuW ++ TA ++ ⟨#[32]⟩ ++ TB)) w := fun w => run_string_add_sum _ _ _ (by omega)
              have s4 : (A0 ++ cuW ++ TA ++ (⟨#[32]⟩ : ByteArray) ++ TB).size = A0.size + 4 + TA.size + 1 + TB.size := by rw [ByteArray.size_append, s3]
              have a5 : ∀ w : World, (Op.stringOp .add (A0 ++ cuW ++ TA ++ ⟨#[32]⟩ ++ TB) ⟨#[10]⟩).run Tryd.prog w = .ok (.string A6) w := fun w => by rw [← HAC2.out]; exact run_string_add_sum _ _ _ (by omega)
              generalize A0 ++ cuW ++ TA ++ (⟨#[32]⟩ : ByteArray) ++ TB = A4 at *
              generalize A0 ++ cuW ++ TA ++ (⟨#[32]⟩ : ByteArray) = A3 at *
              generalize A0 ++ cuW ++ TA = A2 at *
              generalize A0 ++ cuW = A1 at *
              have HSX : Hid (∀ wx : World, Below w0.heap.size w0 wx → wx.cell? ⟨w.heap.size, 0, none⟩ = some (.slice h.A N.w.length h.c) ∧ wx.cell? ⟨w.heap.size, 1, none⟩ = some (.slice (some ⟨b, off, none⟩) N.l.length h.d) ∧ wx.cell? ⟨w.heap.size, 2, none⟩ = some (.slice h.C N.c.length h.e) ∧ wx.cell? ⟨b, off + k * 4 + 1, none⟩ = some (.int .i64 la) ∧ wx.cell? ⟨b, off + k * 4 + 2, none⟩ = some (.int .i64 lb)) := Lib.hid fun wx hx => by
                obtain ⟨n0, n1, n2⟩ := HK.out wx hx
                obtain ⟨b', off', hA', x0', x1', x2'⟩ := HLA.out _ hx
                rw [HAA.out] at n1 hA'
                injection hA' with hA'; injection hA' with e1 e2
                subst e1; subst e2
                exact ⟨n0, n1, n2, x1', x2'⟩
              have FB_0 := Lib.hid HB1.out
              subst h2
              clear hza hzc hzn hzs s1 s2 s3 s4 hta htb hl1
              go_upto_region 10 with (fail)
              clear x0 y0 y1 y2
              refine wp_region_held_drew (S := fun wx => wx.cell? ⟨w.heap.size, 0, none⟩ = some (.slice h.A N.w.length h.c) ∧ wx.cell? ⟨w.heap.size, 1, none⟩ = some (.slice (some ⟨b, off, none⟩) N.l.length h.d) ∧ wx.cell? ⟨w.heap.size, 2, none⟩ = some (.slice h.C N.c.length h.e) ∧ wx.cell? ⟨b, off + k * 4 + 1, none⟩ = some (.int .i64 la) ∧ wx.cell? ⟨b, off + k * 4 + 2, none⟩ = some (.int .i64 lb)) (by kernel_rfl) (HSX.out _ HB1.out.drew) (fun hHeld => ?_)
              obtain ⟨wq1, hwq1⟩ : ∃ w', w' = w1.drew := ⟨_, rfl⟩
              rw [← hwq1] at hHeld ⊢
              have bq1 : Below w1.heap.size w1 wq1 := by rw [hwq1]; exact (Below.refl _ _).drew
              clear hwq1
              have FB_q2 := Lib.hid ((FB_0.out).trans ((bq1).mono (FB_0.out).size))
              clear FB_0
              refine wpAnyH_take (i := 0) (v := ?vq3) rfl (by kernel_rfl) (by kernel_rfl) (by kernel_rfl) (fun _ _ _ h => h) (Or.inl ⟨by rfl, ?yq3⟩) (by assumption) ?_
              case yq3 => (intro w hSw; (try dsimp only at hSw); go_simp; all_goals (with_reducible rfl))
              (try simp only [Act.put, List.setIfInBounds_toArray, List.set_cons_zero, List.set_cons_succ, List.getElem_toArray, List.getElem_cons_succ, List.getElem_cons_zero])
              refine wpAnyH_take (i := 2) (v := ?vq4) rfl (by kernel_rfl) (by kernel_rfl) (by kernel_rfl) (fun _ _ _ h => h) (Or.inl ⟨by rfl, ?yq4⟩) (by assumption) ?_
              case yq4 => (intro w hSw; (try dsimp only at hSw); go_simp; all_goals (with_reducible rfl))
              (try simp only [Act.put, List.setIfInBounds_toArray, List.set_cons_zero, List.set_cons_succ, List.getElem_toArray, List.getElem_cons_succ, List.getElem_cons_zero])
              refine wpAnyH_take (i := 3) (v := ?vq5) rfl (by kernel_rfl) (by kernel_rfl) (by kernel_rfl) (fun _ _ _ h => h) (Or.inl ⟨by rfl, ?yq5⟩) (by assumption) ?_
              case yq5 => (intro w hSw; (try dsimp only at hSw); go_simp; all_goals (with_reducible rfl))
              (try simp only [Act.put, List.setIfInBounds_toArray, List.set_cons_zero, List.set_cons_succ, List.getElem_toArray, List.getElem_cons_succ, List.getElem_cons_zero])
              refine wpAnyH_take (i := 5) (v := ?vq6) rfl (by kernel_rfl) (by kernel_rfl) (by kernel_rfl) (fun _ _ _ h => h) (Or.inl ⟨by rfl, ?yq6⟩) (by assumption) ?_
              case yq6 => (intro w hSw; (try dsimp only at hSw); go_simp; all_goals (with_reducible rfl))
              (try simp only [Act.put, List.setIfInBounds_toArray, List.set_cons_zero, List.set_cons_succ, List.getElem_toArray, List.getElem_cons_succ, List.getElem_cons_zero])
              refine wpAnyH_take (i := 12) (v := ?vq7) rfl (by kernel_rfl) (by kernel_rfl) (by kernel_rfl) (fun _ _ _ h => h) (Or.inl ⟨by rfl, ?yq7⟩) (by assumption) ?_
              case yq7 => (intro w hSw; (try dsimp only at hSw); go_simp; all_goals (with_reducible rfl))
              (try simp only [Act.put, List.setIfInBounds_toArray, List.set_cons_zero, List.set_cons_succ, List.getElem_toArray, List.getElem_cons_succ, List.getElem_cons_zero])
              refine wpAnyH_take (i := 13) (v := ?vq8) rfl (by kernel_rfl) (by kernel_rfl) (by kernel_rfl) (fun _ _ _ h => h) (Or.inl ⟨by rfl, ?yq8⟩) (by assumption) ?_
              case yq8 => (intro w hSw; (try dsimp only at hSw); go_simp; all_goals (with_reducible rfl))
              (try simp only [Act.put, List.setIfInBounds_toArray, List.set_cons_zero, List.set_cons_succ, List.getElem_toArray, List.getElem_cons_succ, List.getElem_cons_zero])
              refine wpAnyH_take (i := 15) (v := ?vq9) rfl (by kernel_rfl) (by kernel_rfl) (by kernel_rfl) (fun _ _ _ h => h) (Or.inl ⟨by rfl, ?yq9⟩) (by assumption) ?_
              case yq9 => (intro w hSw; (try dsimp only at hSw); go_simp; all_goals (with_reducible rfl))
              (try simp only [Act.put, List.setIfInBounds_toArray, List.set_cons_zero, List.set_cons_succ, List.getElem_toArray, List.getElem_cons_succ, List.getElem_cons_zero])
              refine wpAnyH_take (i := 1) (v := ?vq10) rfl (by kernel_rfl) (by kernel_rfl) (by kernel_rfl) (fun _ _ _ h => h) (Or.inl ⟨by rfl, ?yq10⟩) (by assumption) ?_
              case yq10 => (intro w hSw; (try dsimp only at hSw); go_simp; all_goals (with_reducible rfl))
              (try simp only [Act.put, List.setIfInBounds_toArray, List.set_cons_zero, List.set_cons_succ, List.getElem_toArray, List.getElem_cons_succ, List.getElem_cons_zero])
              refine wpAnyH_take (i := 4) (v := ?vq11) rfl (by kernel_rfl) (by kernel_rfl) (by kernel_rfl) (fun _ _ _ h => h) (Or.inl ⟨by rfl, ?yq11⟩) (by assumption) ?_
              case yq11 => (intro w hSw; (try dsimp only at hSw); go_simp; all_goals (with_reducible rfl))
              (try simp only [Act.put, List.setIfInBounds_toArray, List.set_cons_zero, List.set_cons_succ, List.getElem_toArray, List.getElem_cons_succ, List.getElem_cons_zero])
              refine wpAnyH_take (i := 14) (v := ?vq12) rfl (by kernel_rfl) (by kernel_rfl) (by kernel_rfl) (fun _ _ _ h => h) (Or.inl ⟨by rfl, ?yq12⟩) (by assumption) ?_
              case yq12 => (intro w hSw; (try dsimp only at hSw); go_simp; all_goals (with_reducible rfl))
              (try simp only [Act.put, List.setIfInBounds_toArray, List.set_cons_zero, List.set_cons_succ, List.getElem_toArray, List.getElem_cons_succ, List.getElem_cons_zero])
              refine wpAnyH_take (i := 6) (v := ?vq13) rfl (by kernel_rfl) (by kernel_rfl) (by kernel_rfl) (fun _ _ _ h => h) (Or.inl ⟨by rfl, ?yq13⟩) (by assumption) ?_
              case yq13 => (intro w hSw; (try dsimp only at hSw); go_simp; all_goals (with_reducible rfl))
              (try simp only [Act.put, List.setIfInBounds_toArray, List.set_cons_zero, List.set_cons_succ, List.getElem_toArray, List.getElem_cons_succ, List.getElem_cons_zero])
              refine wpAnyH_take (i := 16) (v := ?vq14) rfl (by kernel_rfl) (by kernel_rfl) (by kernel_rfl) (fun _ _ _ h => h) (Or.inl ⟨by rfl, ?yq14⟩) (by assumption) ?_
              case yq14 => (intro w hSw; (try dsimp only at hSw); go_simp; all_goals (with_reducible rfl))
              (try simp only [Act.put, List.setIfInBounds_toArray, List.set_cons_zero, List.set_cons_succ, List.getElem_toArray, List.getElem_cons_succ, List.getElem_cons_zero])
              refine wpAnyH_take (i := 7) (v := ?vq15) rfl (by kernel_rfl) (by kernel_rfl) (by kernel_rfl) (fun _ _ _ h => h) (Or.inl ⟨by rfl, ?yq15⟩) (by assumption) ?_
              case yq15 => (intro w hSw; (try dsimp only at hSw); go_simp; all_goals (with_reducible rfl))
              (try simp only [Act.put, List.setIfInBounds_toArray, List.set_cons_zero, List.set_cons_succ, List.getElem_toArray, List.getElem_cons_succ, List.getElem_cons_zero])
              refine wpAnyH_take (i := 17) (v := ?vq16) rfl (by kernel_rfl) (by kernel_rfl) (by kernel_rfl) (fun _ _ _ h => h) (Or.inl ⟨by rfl, ?yq16⟩) (by assumption) ?_
              case yq16 => (intro w hSw; (try dsimp only at hSw); go_simp; all_goals (with_reducible rfl))
              (try simp only [Act.put, List.setIfInBounds_toArray, List.set_cons_zero, List.set_cons_succ, List.getElem_toArray, List.getElem_cons_succ, List.getElem_cons_zero])
              refine wpAnyH_take (i := 8) (v := ?vq17) rfl (by kernel_rfl) (by kernel_rfl) (by kernel_rfl) (fun _ _ _ h => h) (Or.inl ⟨by rfl, ?yq17⟩) (by assumption) ?_
              case yq17 => (intro w hSw; (try dsimp only at hSw); go_simp; all_goals (with_reducible rfl))
              (try simp only [Act.put, List.setIfInBounds_toArray, List.set_cons_zero, List.set_cons_succ, List.getElem_toArray, List.getElem_cons_succ, List.getElem_cons_zero])
              refine wpAnyH_take (i := 18) (v := ?vq18) rfl (by kernel_rfl) (by kernel_rfl) (by kernel_rfl) (fun _ _ _ h => h) (Or.inl ⟨by rfl, ?yq18⟩) (by assumption) ?_
              case yq18 => (intro w hSw; (try dsimp only at hSw); go_simp; all_goals (with_reducible rfl))
              (try simp only [Act.put, List.setIfInBounds_toArray, List.set_cons_zero, List.set_cons_succ, List.getElem_toArray, List.getElem_cons_succ, List.getElem_cons_zero])
              refine wpAnyH_ready (rs := [9]) (by kernel_rfl) (by simp) ?_
              refine AllReadyH.cons rfl (fun K hK => ?_) ?_
              · go_simp
                refine (HTA.out wq1 FB_q2.out).mono ?_
                rintro e wq19 ⟨rfl, belq19⟩
                dsimp only
                have FB_q20 := Lib.hid ((FB_q2.out).trans ((belq19).mono (FB_q2.out).size))
                clear FB_q2
                clear belq19
                refine hK.out _ _ (HSX.out _ FB_q20.out) (fun hHeld => ?_)
                clear hK K
                (try simp only [Act.put, List.setIfInBounds_toArray, List.set_cons_zero, List.set_cons_succ, List.getElem_toArray, List.getElem_cons_succ, List.getElem_cons_zero])
                refine wpAnyH_take (i := 10) (v := ?vq21) rfl (by kernel_rfl) (by kernel_rfl) (by kernel_rfl) (fun _ _ _ h => h) (Or.inl ⟨by rfl, ?yq21⟩) (by assumption) ?_
                case yq21 => (intro w hSw; (try dsimp only at hSw); go_simp; all_goals (with_reducible rfl))
                (try simp only [Act.put, List.setIfInBounds_toArray, List.set_cons_zero, List.set_cons_succ, List.getElem_toArray, List.getElem_cons_succ, List.getElem_cons_zero])
                refine wpAnyH_take (i := 11) (v := ?vq22) rfl (by kernel_rfl) (by kernel_rfl) (by kernel_rfl) (fun _ _ _ h => h) (Or.inl ⟨by rfl, ?yq22⟩) (by assumption) ?_
                case yq22 => (intro w hSw; (try dsimp only at hSw); go_simp; all_goals (with_reducible rfl))
                (try simp only [Act.put, List.setIfInBounds_toArray, List.set_cons_zero, List.set_cons_succ, List.getElem_toArray, List.getElem_cons_succ, List.getElem_cons_zero])
                refine wpAnyH_ready (rs := [19]) (by kernel_rfl) (by simp) ?_
                refine AllReadyH.cons rfl (fun K hK => ?_) ?_
                · go_simp
                  refine (HTB.out wq19 FB_q20.out).mono ?_
                  rintro e wq23 ⟨rfl, belq23⟩
                  dsimp only
                  have FB_q24 := Lib.hid ((FB_q20.out).trans ((belq23).mono (FB_q20.out).size))
                  clear FB_q20
                  clear belq23
                  refine hK.out _ _ (HSX.out _ FB_q24.out) (fun hHeld => ?_)
                  clear hK K
                  (try simp only [Act.put, List.setIfInBounds_toArray, List.set_cons_zero, List.set_cons_succ, List.getElem_toArray, List.getElem_cons_succ, List.getElem_cons_zero])
                  refine wpAnyH_take (i := 20) (v := ?vq25) rfl (by kernel_rfl) (by kernel_rfl) (by kernel_rfl) (fun _ _ _ h => h) (Or.inl ⟨by rfl, ?yq25⟩) (by assumption) ?_
                  case yq25 => (intro w hSw; (try dsimp only at hSw); go_simp; all_goals (with_reducible rfl))
                  (try simp only [Act.put, List.setIfInBounds_toArray, List.set_cons_zero, List.set_cons_succ, List.getElem_toArray, List.getElem_cons_succ, List.getElem_cons_zero])
                  refine wpAnyH_take (i := 21) (v := ?vq26) rfl (by kernel_rfl) (by kernel_rfl) (by kernel_rfl) (fun _ _ _ h => h) (Or.inl ⟨by rfl, ?yq26⟩) (by assumption) ?_
                  case yq26 => (intro w hSw; (try dsimp only at hSw); go_simp; all_goals (with_reducible rfl))
                  (try simp only [Act.put, List.setIfInBounds_toArray, List.set_cons_zero, List.set_cons_succ, List.getElem_toArray, List.getElem_cons_succ, List.getElem_cons_zero])
                  refine wpAnyH_ready (rs := [22]) (by kernel_rfl) (by simp) ?_
                  refine AllReadyH.cons rfl (fun K hK => ?_) ?_
                  · go_simp
                    refine hK.out _ _ hHeld (fun hHeld => ?_)
                    clear hK K
                    (try simp only [Act.put, List.setIfInBounds_toArray, List.set_cons_zero, List.set_cons_succ, List.getElem_toArray, List.getElem_cons_succ, List.getElem_cons_zero])
                    refine wpAnyH_done (by kernel_rfl) ?_ _
                    have HBZ := Lib.hid FB_q24.out
                    go_wp2
                    go_roundw
                    case rel => exact ⟨k + 1, by omega, by go_num, (by rw [HA4.out]), HBZ.out⟩
                    case measure => simp [intOf]; omega
                  exact AllReadyH.nil
                exact AllReadyH.nil
              exact AllReadyH.nil
            · have hd : (lk == 2) = false := by simpa using h2
              have HSU2 : Hid (acT (cusN N (k + 1)) = acT (cusN N k)) := Lib.hid (by rw [HSU.out, HNT.out h2, List.append_nil])
              clear h2
              go_wp2
              go_roundw
              case rel => exact ⟨k + 1, by omega, by go_num, (by rw [HSU2.out]), HB1.out⟩
              case measure => simp [intOf]; omega
          · have hkl : k = N.l.length := by omega
            subst hkl
            have HG := Lib.hid (HB0.out.trans (hB.mono HB0.out.size))
            have HEE : Hid (noT N = acT (cusN N N.l.length)) := Lib.hid HE.out
            clear hB
            go_wp2
            go_ret
            exact ⟨ret_sA HEE.out.symm, HG.out⟩
end Go.Proofs.YtfanapddopafiaaDoor
