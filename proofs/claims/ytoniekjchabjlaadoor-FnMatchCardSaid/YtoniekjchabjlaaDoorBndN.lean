/- The program's MatchForm. -/
import Derived.Test.YtoniekjchabjlaaDoorBndL
namespace Go.Proofs.YtoniekjchabjlaaDoor
open Go.ChangeAt Go.ChangeShapes Go.RowKit Go.WideShapes

theorem part_rd {w : World} {lim b off n c : Nat} {zs : List Int} (h : Part w lim (.slice (some ⟨b, off, none⟩) n c) zs) (hn : zs.length = n) : RdI w lim (some ⟨b, off, none⟩) n zs := by
  obtain ⟨b1, off1, c1, e, hb1, _, hc1⟩ := h
  injection e with e1 e2 e3
  injection e1 with e1
  injection e1 with e4 e5
  subst e4; subst e5; subst hn
  exact ⟨rfl, fun _ => ⟨b, off, rfl, hb1, hc1⟩⟩
theorem givesTB_mk {w w' : World} {V V' : List (List Int)} {b b' : Bool} {hs : Nat → Option Addr × Nat} {A : Option Addr} {c n : Nat} (h1 : V.length = n) (own : OwnT w' w.heap.size w'.heap.size (.slice A n c) hs V) (bel : Below w.heap.size w w') (hV : V = V') (hb : b = b') :
    GivesTB w V' b' (.returned (.tuple #[.slice A n c, .bool b])) w' := by
  subst hV; subst hb; subst h1
  exact ⟨hs, A, c, rfl, own, bel⟩

set_option linter.unusedSimpArgs false in
set_option maxRecDepth 100000 in
set_option maxHeartbeats 16000000 in
theorem match_impl (A : Option Addr) (n c : Nat) (p : List Int) (B : Option Addr) (m d : Nat) (f : List Int) (w : World) (h : RdI w w.heap.size A n p) (h' : RdI w w.heap.size B m f) (hnc : n ≤ c) (hmd : m ≤ d) (ht : Arit w) (hu : Dual w) :
    Calls Tryd.prog 20 #[.slice A n c, .slice B m d] w (GivesTB w (mtL p f) (mtB p f)) := by
  have hl := h.len
  subst hl
  have hl' := h'.len
  subst hl'
  have HP := Lib.hid (validForm_impl A _ c p w h ht hnc)
  have HF := Lib.hid (validForm_impl B _ d f w h' ht hmd)
  cases hvp : validB p with
  | false =>
    have hs := mtB_no1 (f := f) hvp
    rw [mtL_no hs, hs]
    rw [hvp] at HP
    clear h h' hs
    go_enter Tryd.func20, Tryd.ntmps20
    go_wp2
    go_step3
    go_wp2_with (go_at_call 47; refine HP.out.mono ?_; rintro e w' ⟨rfl, rfl⟩)
    (try rw [Exit.noGoto_ret])
    go_ret2
    exact givesTB_nil _ _ (Below.refl _ _)
  | true =>
    rw [hvp] at HP
    cases hvf : validB f with
    | false =>
      have hs := mtB_no2 (p := p) hvf
      rw [mtL_no hs, hs]
      rw [hvf] at HF
      clear h h' hs
      go_enter Tryd.func20, Tryd.ntmps20
      go_wp2
      go_step3
      go_wp2_with (fail)
      refine HP.out.mono ?_
      rintro e w' ⟨rfl, rfl⟩
      go_wp2_with (go_at_call 47; refine HF.out.mono ?_; rintro e w' ⟨rfl, rfl⟩)
      (try rw [Exit.noGoto_ret])
      go_ret2
      exact givesTB_nil _ _ (Below.refl _ _)
    | true =>
      rw [hvf] at HF
      have hlp := valid_len hvp
      have hlf := valid_len hvf
      obtain ⟨bp, op, rfl, hbp, hcp⟩ := h.2 (by omega)
      obtain ⟨bf, of_, rfl, hbf, hcf⟩ := h'.2 (by omega)
      have HCP := Lib.hid hcp; have HCF := Lib.hid hcf
      have HFN := Lib.hid (And.intro (fun hh : mtR f p mt0 = none => mtB_none hh) (fun s (hh : mtR f p mt0 = some s) => mtB_some hvp hvf hh))
      have HSEG := Lib.hid (fun (a E : Nat) (h1 : fe f a = E) (h2 : a < E) (h3 : E ≤ f.length) => seg_valid h1 h2 h3 hlf.2.1)
      have HFE := Lib.hid (fun (a : Nat) (ha : a < f.length) => fe_someM hvf ha)
      have HN0 := Lib.hid (need_zero hvp hvf)
      have H' := Lib.hid h'
      have hp24 := hlp.2.1; have hf24 := hlf.2.1
      obtain ⟨w0, hw0⟩ : ∃ w0, w0 = w.alloc (.cells #[Value.slice none 0 0, Value.slice none 0 0, Value.slice none 0 0, Value.slice none 0 0, Value.slice none 0 0, Value.slice none 0 0, Value.slice none 0 0, Value.slice none 0 0] 62) := ⟨_, rfl⟩
      have hb0 : Below w.heap.size w w0 := by rw [hw0]; exact (Below.refl _ _).alloc (Nat.le_refl _) _
      have hg0 : w0.heap[w.heap.size]? = some (.cells #[Value.slice none 0 0, Value.slice none 0 0, Value.slice none 0 0, Value.slice none 0 0, Value.slice none 0 0, Value.slice none 0 0, Value.slice none 0 0, Value.slice none 0 0] 62 (0, 0)) := by rw [hw0]; exact heap_alloc_new _ _
      have HW0 := Lib.hid hw0; have HB0 := Lib.hid hb0; have HG0 := Lib.hid hg0
      clear h h' hcp hcf hvp hvf hlp hlf hw0 hb0 hg0
      go_enter Tryd.func20, Tryd.ntmps20
      go_wp2
      go_step3
      go_wp2_with (fail)
      refine HP.out.mono ?_
      rintro e w' ⟨rfl, rfl⟩
      go_wp2_with (fail)
      refine HF.out.mono ?_
      rintro e w' ⟨rfl, rfl⟩
      go_upto_region 4 with (fail)
      rw [← HW0.out]
      go_wp2
      go_step3
      go_wp2
      go_loopw [7, 23] (fun a i wr => ∃ (k at_ : Nat) (hs : Nat → Option Addr × Nat) (out : List (List Int)), k ≤ p.length ∧ i = .int .i64 k ∧ a = .int .i64 (at_ : Int) ∧ wr.heap[w.heap.size]? = some (.cells (rowV hs out).toArray 62 (0, 0)) ∧ PartsO wr w.heap.size wr.heap.size hs out ∧ Below w.heap.size w wr ∧
        mtR f (p.take k) mt0 = some (at_, out) ∧ out.length = 8 ∧ at_ ≤ f.length ∧ (∀ q ∈ out, q.length ≤ 24) ∧ SameNeed p f k at_) (fun _ i _ => p.length - (intOf i).toNat)
      case atStart => exact ⟨0, 0, fun _ => (none, 0), List.replicate 8 [], by omega, rfl, rfl, HG0.out, PartsO.zero _ _ _, HB0.out, rfl, rfl, Nat.zero_le _, fun q hq => by rw [(List.mem_replicate.1 hq).2]; exact Nat.zero_le _, HN0.out⟩
      case round =>
        obtain ⟨k, at_, hs, out, hk, rfl, rfl, hgr, hpr, hb, hist, hol, hat, hsm, hneed⟩ := hrel
        have hsz := hb.size
        have HGR := Lib.hid hgr; have HPR := Lib.hid hpr; have HB := Lib.hid hb; have HOL := Lib.hid hol; have HSM := Lib.hid hsm
        clear hgr hpr hb hol hsm
        by_cases hlt : k < p.length
        · have hcx := (HB.out.cell (p := ⟨bp, op + k, none⟩) hbp).trans (HCP.out k hlt)
          have ha := need_lt hneed hlt
          have hal : decide ((at_ : Int) < (f.length : Int)) = true := decide_eq_true (by omega)
          have hai : (at_ : Int) < (f.length : Int) := by omega
          have hcy := (HB.out.cell (p := ⟨bf, of_ + at_, none⟩) hbf).trans (HCF.out at_ ha)
          have HST := Lib.hid (mt_step hlt hist)
          have HFL := Lib.hid (fun hh => mt_fail hlt hist hh)
          have HOP := Lib.hid (fun (he : f.getD at_ 0 = p.getD k 0) => need_op hneed hlt he)
          have HLF := Lib.hid (fun (hl : leafB (p.getD k 0) = true) (E : Nat) (hE : fe f at_ = E) => need_leaf hneed hlt hl hE)
          clear hist hneed
          generalize p.getD k 0 = x at *
          cases hleaf : leafB x with
          | false =>
            have HY : Hid (f.getD at_ 0 = f.getD at_ 0) := Lib.hid rfl
            generalize hy : f.getD at_ 0 = y at *
            by_cases hxy : y = x
            · have hne : (x == y) = true := by rw [hxy]; simp
              have HH := Lib.hid (HST.out.trans (mtS_op hleaf ha (hy.trans hxy)))
              have HND := Lib.hid (HOP.out hxy)
              have hwa : IntKind.i64.wrap ((at_ : Int) + 1) = (at_ : Int) + 1 := IntWalk.i64_in _ (by omega)
              clear hy hxy
              go_wp2_with (go_at_call 56; refine (isLeaf_any x _).mono ?_; rintro e w' ⟨rfl, rfl⟩; rw [hleaf])
              go_roundw
              case rel => exact ⟨k + 1, at_ + 1, hs, out, by omega, by go_num, by go_num, HGR.out, HPR.out, HB.out, HH.out, HOL.out, by omega, HSM.out, HND.out⟩
              case measure => simp [intOf]; omega
            · have hne : (x == y) = false := by simp; exact fun e => hxy e.symm
              have HNO := Lib.hid (HFN.out.1 (HFL.out (mtS_opn hleaf (fun hh => hxy (hy.symm.trans hh.2)))))
              clear hy hxy
              go_wp2_with (go_at_call 56; refine (isLeaf_any x _).mono ?_; rintro e w' ⟨rfl, rfl⟩; rw [hleaf])
              (try rw [Exit.noGoto_ret])
              go_ret2
              rw [mtL_no HNO.out, HNO.out]
              exact givesTB_nil _ _ HB.out
          | true =>
            have hrd := (H'.out.below HB.out).more hsz
            have hE := formEnd_impl (some ⟨bf, of_, none⟩) f.length d f at_ wr hrd (ht.below HB.out ht.lt) hmd
            obtain ⟨hfe1, hfe2⟩ := HFE.out at_ ha
            obtain ⟨E, hEE⟩ : ∃ E : Nat, fe f at_ = E := ⟨(fe f at_).toNat, by omega⟩
            rw [feI_small hf24, hEE] at hE
            rw [hEE] at hfe1 hfe2
            have haE : at_ < E := by omega
            have hEl : E ≤ f.length := by omega
            have hPv := HSEG.out at_ E hEE haE hEl
            have hcu : cutM f at_ = (f.drop at_).take (E - at_) := by unfold cutM; rw [hEE]; rfl
            have hPl : ((f.drop at_).take (E - at_)).length = E - at_ := by rw [List.length_take, List.length_drop]; omega
            have hPt := part_rd (part_cut (c := d - at_) hbf HCF.out haE hEl) hPl
            have hdS : ¬ d = at_ := by omega
            have hSE : at_ ≤ E := by omega
            have hEd : E ≤ d := by omega
            obtain ⟨j, hj⟩ : ∃ j : Nat, j = x.natAbs - 1 := ⟨_, rfl⟩
            have hlr := leaf_range hleaf
            have hj8 : j < 8 := by omega
            have hel : elt out x = out.getD j [] := by unfold elt; rw [hj]
            have HYES := Lib.hid (fun he => HST.out.trans (mtS_yes hleaf hEE he))
            have HNOT := Lib.hid (fun h0 he => HFN.out.1 (HFL.out (mtS_not hleaf hEE h0 he)))
            rw [hel, ← hj] at HYES
            rw [hel] at HNOT
            have hMT : mtP f x at_ = if x < 0 then dualL ((f.drop at_).take (E - at_)) else (f.drop at_).take (E - at_) := by unfold mtP; rw [hcu]
            have hP24 : ((f.drop at_).take (E - at_)).length ≤ 24 := by omega
            have HND := Lib.hid (HLF.out hleaf E hEE)
            obtain ⟨D, hD⟩ : ∃ D, mtP f x at_ = D := ⟨_, rfl⟩
            rw [hD] at HYES HNOT hMT
            have HD24 : Hid (D.length ≤ 24) := Lib.hid (by rw [hMT]; split <;> first | exact dualL_len _ | exact hP24)
            have HWT := Lib.hid (fun (wx : World) (bx : Below wr.heap.size wr wx) => with_any hs out x j (some ⟨bf, of_ + at_, none⟩) (E - at_) (d - at_) ((f.drop at_).take (E - at_)) D wx w.heap.size ((HPR.out.below bx).more (Nat.le_refl _) bx.size) HOL.out hleaf hj ((hPt.below (HB.out.trans (bx.mono hsz))).more (Nat.le_trans hsz bx.size)) (by omega) hPv hMT HSM.out (Nat.le_trans hsz bx.size) (ht.below (HB.out.trans (bx.mono hsz)) ht.lt) (hu.below (HB.out.trans (bx.mono hsz)) hu.lt))
            have HFEND := Lib.hid hE
            have HL8 : Hid ((rowV hs out).length = 8) := Lib.hid (by rw [rowV_len, HOL.out])
            have hgsz : w.heap.size < wr.heap.size := (Array.getElem?_eq_some_iff.1 HGR.out).1
            have HSX : Hid (∀ wx, Below wr.heap.size wr wx → wx.rangeAt w.heap.size 0 (rowV hs out)) := Lib.hid fun wx bx k v hk => by
              rw [Nat.zero_add]
              exact (cell_of_row _ _ k _ _ _ ((bx.block _ hgsz).trans HGR.out)).trans (by rw [List.getElem?_toArray]; exact hk)
            have K0 := Lib.hid (HSX.out wr (Below.refl _ _))
            clear hE hfe1 hfe2 hcu hel hMT hrd hPt HPR HST HOP HLF
            generalize (f.drop at_).take (E - at_) = P at *
            go_upto_region 10 with (first
              | (go_at_call 56; refine (isLeaf_any x _).mono ?_; rintro e w' ⟨rfl, rfl⟩; rw [hleaf])
              | (go_at_call 57; refine HFEND.out.mono ?_; rintro e w' ⟨rfl, rfl⟩))
            refine wp_region_held_drew (S := fun wx => wx.rangeAt w.heap.size 0 (rowV hs out)) (by kernel_rfl) K0.out (fun hHeld => ?_)
            refine wpAnyH_take (i := 0) (v := .agg (rowV hs out).toArray) rfl (by kernel_rfl) (by kernel_rfl) (by kernel_rfl) (fun _ _ _ h => h) (yieldsIf_load_mid (by rfl) _ _ rfl _ _ rfl _ _ (fun wx h => h) Tryd.underlying62 rfl (by rw [HL8.out]; exact size_bnd)) (by assumption) ?_
            (try simp only [Act.put, List.setIfInBounds_toArray, List.set_cons_zero, List.set_cons_succ])
            refine wpAnyH_take (i := 1) (v := ?va1) rfl (by kernel_rfl) (by kernel_rfl) (by kernel_rfl) (fun _ _ _ h => h) (Or.inl ⟨by rfl, ?ya1⟩) (by assumption) ?_
            case ya1 => (intro w hSw; (try dsimp only at hSw); go_simp; all_goals (with_reducible rfl))
            (try simp only [Act.put, List.setIfInBounds_toArray, List.set_cons_zero, List.set_cons_succ])
            refine wpAnyH_take (i := 2) (v := ?va2) rfl (by kernel_rfl) (by kernel_rfl) (by kernel_rfl) (fun _ _ _ h => h) (Or.inl ⟨by rfl, ?ya2⟩) (by assumption) ?_
            case ya2 => (intro w hSw; (try dsimp only at hSw); go_simp; all_goals (with_reducible rfl))
            (try simp only [Act.put, List.setIfInBounds_toArray, List.set_cons_zero, List.set_cons_succ])
            refine wpAnyH_take (i := 3) (v := ?va3) rfl (by kernel_rfl) (by kernel_rfl) (by kernel_rfl) (fun _ _ _ h => h) (Or.inl ⟨by rfl, ?ya3⟩) (by assumption) ?_
            case ya3 => (intro w hSw; (try dsimp only at hSw); go_simp; all_goals (with_reducible rfl))
            (try simp only [Act.put, List.setIfInBounds_toArray, List.set_cons_zero, List.set_cons_succ])
            refine wpAnyH_take (i := 4) (v := ?va4) rfl (by kernel_rfl) (by kernel_rfl) (by kernel_rfl) (fun _ _ _ h => h) (Or.inl ⟨by rfl, ?ya4⟩) (by assumption) ?_
            case ya4 => (intro w hSw; (try dsimp only at hSw); go_simp; all_goals (with_reducible rfl))
            (try simp only [Act.put, List.setIfInBounds_toArray, List.set_cons_zero, List.set_cons_succ])
            refine wpAnyH_take (i := 5) (v := ?va5) rfl (by kernel_rfl) (by kernel_rfl) (by kernel_rfl) (fun _ _ _ h => h) (Or.inl ⟨by rfl, ?ya5⟩) (by assumption) ?_
            case ya5 => (intro w hSw; (try dsimp only at hSw); go_simp; all_goals (with_reducible rfl))
            (try simp only [Act.put, List.setIfInBounds_toArray, List.set_cons_zero, List.set_cons_succ])
            refine wpAnyH_ready (rs := [6, 10]) (by kernel_rfl) (by simp) ?_
            refine AllReadyH.cons rfl (fun K hK => ?_) ?_
            · go_simp
              refine (HWT.out _ ((Below.refl _ _).drew)).mono ?_
              rintro e w5 ⟨hs', out', b, rfl, p5, bel5, l8, hyes, hno⟩
              dsimp only
              have hb5 : Below wr.heap.size wr w5 := ((Below.refl wr.heap.size wr).drew).trans (bel5.mono (by simp))
              have HP5 := Lib.hid p5; have HB5 := Lib.hid hb5; have HL8' := Lib.hid l8; have HY := Lib.hid hyes; have HNN := Lib.hid hno
              have HR8 : Hid ((rowV hs' out').length = 8) := Lib.hid (by rw [rowV_len, l8])
              have HONE : Hid ((rowV hs' out').toArray.all (·.oneCell') = true) := Lib.hid (by rw [Array.all_eq_true_iff_forall_mem]; intro v hv; exact rowV_one hs' out' v (by simpa using hv))
              clear p5 hb5 l8 hyes hno
              refine hK.out _ _ (HSX.out _ HB5.out) (fun hHeld => ?_)
              clear hK K
              (try simp only [Act.put, List.setIfInBounds_toArray, List.set_cons_zero, List.set_cons_succ])
              refine wpAnyH_take (i := 7) (v := ?vb1) rfl (by kernel_rfl) (by kernel_rfl) (by kernel_rfl) (fun _ _ _ h => h) (Or.inl ⟨by rfl, ?yb1⟩) (by assumption) ?_
              case yb1 => (intro w hSw; (try dsimp only at hSw); go_simp; all_goals (with_reducible rfl))
              (try simp only [Act.put, List.setIfInBounds_toArray, List.set_cons_zero, List.set_cons_succ])
              refine wpAnyH_take (i := 8) (v := ?vb2) rfl (by kernel_rfl) (by kernel_rfl) (by kernel_rfl) (fun _ _ _ h => h) (Or.inl ⟨by rfl, ?yb2⟩) (by assumption) ?_
              case yb2 => (intro w hSw; (try dsimp only at hSw); go_simp; all_goals (with_reducible rfl))
              (try simp only [Act.put, List.setIfInBounds_toArray, List.set_cons_zero, List.set_cons_succ])
              refine wpAnyH_take (i := 9) (v := ?vb99) rfl (by kernel_rfl) (by kernel_rfl) (by kernel_rfl) (fun _ _ _ h => h) (Or.inl ⟨by rfl, ?yb99⟩) (by assumption) ?_
              case yb99 => (intro w hSw; (try dsimp only at hSw); go_simp; all_goals (with_reducible rfl))
              (try simp only [Act.put, List.setIfInBounds_toArray, List.set_cons_zero, List.set_cons_succ])
              have hs5 := HB5.out.size
              obtain ⟨w6, hw6⟩ : ∃ w6, w6 = w5.alloc (.cells #[Value.slice none 0 0, Value.slice none 0 0, Value.slice none 0 0, Value.slice none 0 0, Value.slice none 0 0, Value.slice none 0 0, Value.slice none 0 0, Value.slice none 0 0] 62) := ⟨_, rfl⟩
              have b6 : Below wr.heap.size wr w6 := by rw [hw6]; exact HB5.out.alloc hs5 _
              have b56 : Below w5.heap.size w5 w6 := by rw [hw6]; exact (Below.refl _ _).alloc (Nat.le_refl _) _
              have g11 : w6.heap[w5.heap.size]? = some (.cells #[Value.slice none 0 0, Value.slice none 0 0, Value.slice none 0 0, Value.slice none 0 0, Value.slice none 0 0, Value.slice none 0 0, Value.slice none 0 0, Value.slice none 0 0] 62 (0, 0)) := by rw [hw6]; exact heap_alloc_new _ _
              have HW6 := Lib.hid hw6; have HB6 := Lib.hid b6; have HG11 := Lib.hid g11; have HP6 := Lib.hid ((HP5.out.below b56).more (Nat.le_refl _) b56.size)
              clear hw6 b6 b56 g11
              refine wpAnyH_ready (rs := [10]) (by kernel_rfl) (by simp) ?_
              refine AllReadyH.cons rfl (fun K hK => ?_) ?_
              · go_simp
                rw [← HW6.out]
                refine hK.out _ _ (HSX.out _ HB6.out) (fun hHeld => ?_)
                clear hK K
                (try simp only [Act.put, List.setIfInBounds_toArray, List.set_cons_zero, List.set_cons_succ])
                refine wpAnyH_ready (rs := [11]) (by kernel_rfl) (by simp) ?_
                refine AllReadyH.cons rfl (fun K hK => ?_) ?_
                · rw [if_pos (by rfl)]
                  refine wp_store_row _ _ _ rfl w5.heap.size (rowV hs' out').toArray rfl rfl _ _ HG11.out (by rw [List.size_toArray, HR8.out]; exact size_bnd) (by simp [HR8.out]) HONE.out ?_
                  obtain ⟨w7, hw7⟩ : ∃ w7, w7 = w6.setRow w5.heap.size (rowV hs' out').toArray := ⟨_, rfl⟩
                  have g117 := setRow_heap w6 w5.heap.size _ (rowV hs' out').toArray _ _ HG11.out
                  have g67 : w7.heap[w.heap.size]? = _ := (by rw [hw7]; exact setRow_other _ _ _ _ (by omega) : w7.heap[w.heap.size]? = w6.heap[w.heap.size]?).trans ((HB6.out.block _ hgsz).trans HGR.out)
                  have b7 : Below wr.heap.size wr w7 := by rw [hw7]; exact below_setRow HB6.out (by omega) _
                  have p7 : PartsO w7 w.heap.size w7.heap.size hs' out' := by
                    have e : w7.heap.size = w6.heap.size := by rw [hw7]; simp [World.setRow]
                    rw [e, hw7]
                    exact HP6.out.setRow HG11.out _
                  rw [← hw7] at g117 ⊢
                  have HG117 := Lib.hid g117; have HG67 := Lib.hid g67; have HB7 := Lib.hid b7; have HP7 := Lib.hid p7
                  clear hw7 g117 g67 b7 p7
                  refine hK.out _ _ (HSX.out _ HB7.out) (fun hHeld => ?_)
                  clear hK K
                  (try simp only [Act.put, List.setIfInBounds_toArray, List.set_cons_zero, List.set_cons_succ])
                  refine wpAnyH_ready (rs := [12]) (by kernel_rfl) (by simp) ?_
                  refine AllReadyH.cons rfl (fun K hK => ?_) ?_
                  · go_simp
                    refine hK.out _ _ (HSX.out _ HB7.out) (fun hHeld => ?_)
                    clear hK K
                    (try simp only [Act.put, List.setIfInBounds_toArray, List.set_cons_zero, List.set_cons_succ])
                    refine wpAnyH_done (by kernel_rfl) ?_ _
                    have HBW7 := Lib.hid (HB.out.trans (HB7.out.mono hsz))
                    cases b with
                    | false =>
                      obtain ⟨n1, n2⟩ := HNN.out rfl
                      have HNO := Lib.hid (HNOT.out n1 n2)
                      clear n1 n2
                      go_wp2
                      (try rw [Exit.noGoto_ret])
                      go_ret2
                      rw [mtL_no HNO.out, HNO.out]
                      exact givesTB_nil _ _ HBW7.out
                    | true =>
                      obtain ⟨y1, y2⟩ := HY.out rfl
                      have hh := HYES.out y1
                      rw [← y2] at hh
                      have hsm8 := set_small (j := j) HSM.out HD24.out
                      rw [← y2] at hsm8
                      have HH := Lib.hid hh; have HSM8 := Lib.hid hsm8
                      obtain ⟨w8, hw8⟩ : ∃ w8, w8 = w7.setRow w.heap.size (rowV hs' out').toArray := ⟨_, rfl⟩
                      have g8 := setRow_heap w7 w.heap.size _ (rowV hs' out').toArray _ _ HG67.out
                      have p8 : PartsO w8 w.heap.size w8.heap.size hs' out' := by
                        have e : w8.heap.size = w7.heap.size := by rw [hw8]; simp [World.setRow]
                        rw [e, hw8]
                        exact HP7.out.setRow HG67.out _
                      have b8 : Below w.heap.size w w8 := by rw [hw8]; exact below_setRow HBW7.out (Nat.le_refl _) _
                      rw [← hw8] at g8
                      have HW8 := Lib.hid hw8; have HG8 := Lib.hid g8; have HP8 := Lib.hid p8; have HB8 := Lib.hid b8
                      clear y1 y2 hh hsm8 hw8 g8 p8 b8
                      go_wp2_with (first
                        | (refine wpList_load_row rfl _ _ rfl w5.heap.size rfl _ _ _ _ HG117.out Tryd.underlying62 rfl (by rw [List.size_toArray, HR8.out]; exact size_bnd) ?_)
                        | (refine wpList_store_row rfl _ _ _ rfl w.heap.size (rowV hs' out').toArray rfl rfl _ _ HG67.out (by rw [List.size_toArray, HR8.out]; exact size_bnd) (by simp [HR8.out, HL8.out]) HONE.out ?_; rw [← HW8.out]))
                      go_roundw
                      case rel => exact ⟨k + 1, E, hs', out', by omega, by go_num, by go_num, HG8.out, HP8.out, HB8.out, HH.out, HL8'.out, hEl, HSM8.out, HND.out⟩
                      case measure => simp [intOf]; omega
                  · exact AllReadyH.nil
                · exact AllReadyH.nil
              · exact AllReadyH.nil
            refine AllReadyH.cons rfl (fun K hK => ?_) ?_
            · go_simp
              obtain ⟨w4, hw4⟩ : ∃ w4, w4 = (wr.alloc (.cells #[Value.slice none 0 0, Value.slice none 0 0, Value.slice none 0 0, Value.slice none 0 0, Value.slice none 0 0, Value.slice none 0 0, Value.slice none 0 0, Value.slice none 0 0] 62)).drew := ⟨_, rfl⟩
              have hb4 : Below wr.heap.size wr w4 := by rw [hw4]; exact ((Below.refl _ _).alloc (Nat.le_refl _) _).drew
              have g4 : w4.heap[wr.heap.size]? = some (.cells #[Value.slice none 0 0, Value.slice none 0 0, Value.slice none 0 0, Value.slice none 0 0, Value.slice none 0 0, Value.slice none 0 0, Value.slice none 0 0, Value.slice none 0 0] 62 (0, 0)) := by rw [hw4]; exact heap_alloc_new _ _
              have hs4 : w4.heap.size = wr.heap.size + 1 := by rw [hw4]; simp
              rw [← hw4]
              have HB4 := Lib.hid hb4; have HG4 := Lib.hid g4; have HS4 := Lib.hid hs4
              clear hw4 hb4 g4 hs4
              refine hK.out _ _ (HSX.out _ HB4.out) (fun hHeld => ?_)
              clear hK K
              (try simp only [Act.put, List.setIfInBounds_toArray, List.set_cons_zero, List.set_cons_succ])
              refine wpAnyH_ready (rs := [6]) (by kernel_rfl) (by simp) ?_
              refine AllReadyH.cons rfl (fun K hK => ?_) ?_
              · go_simp
                refine (HWT.out _ HB4.out).mono ?_
                rintro e w5 ⟨hs', out', b, rfl, p5, bel5, l8, hyes, hno⟩
                dsimp only
                have hb5 : Below wr.heap.size wr w5 := HB4.out.trans (bel5.mono (by have := HS4.out; omega))
                have HP5 := Lib.hid p5; have HB5 := Lib.hid hb5; have HL8' := Lib.hid l8; have HY := Lib.hid hyes; have HNN := Lib.hid hno
                have HR8 : Hid ((rowV hs' out').length = 8) := Lib.hid (by rw [rowV_len, l8])
                have HONE : Hid ((rowV hs' out').toArray.all (·.oneCell') = true) := Lib.hid (by rw [Array.all_eq_true_iff_forall_mem]; intro v hv; exact rowV_one hs' out' v (by simpa using hv))
                have HG11 : Hid (w5.heap[wr.heap.size]? = _) := Lib.hid ((bel5.block wr.heap.size (by have := HS4.out; omega)).trans HG4.out)
                clear p5 hb5 l8 hyes hno
                refine hK.out _ _ (HSX.out _ HB5.out) (fun hHeld => ?_)
                clear hK K
                (try simp only [Act.put, List.setIfInBounds_toArray, List.set_cons_zero, List.set_cons_succ])
                refine wpAnyH_take (i := 7) (v := ?vc201) rfl (by kernel_rfl) (by kernel_rfl) (by kernel_rfl) (fun _ _ _ h => h) (Or.inl ⟨by rfl, ?yc201⟩) (by assumption) ?_
                case yc201 => (intro w hSw; (try dsimp only at hSw); go_simp; all_goals (with_reducible rfl))
                (try simp only [Act.put, List.setIfInBounds_toArray, List.set_cons_zero, List.set_cons_succ])
                refine wpAnyH_take (i := 8) (v := ?vc202) rfl (by kernel_rfl) (by kernel_rfl) (by kernel_rfl) (fun _ _ _ h => h) (Or.inl ⟨by rfl, ?yc202⟩) (by assumption) ?_
                case yc202 => (intro w hSw; (try dsimp only at hSw); go_simp; all_goals (with_reducible rfl))
                (try simp only [Act.put, List.setIfInBounds_toArray, List.set_cons_zero, List.set_cons_succ])
                refine wpAnyH_take (i := 9) (v := ?vc203) rfl (by kernel_rfl) (by kernel_rfl) (by kernel_rfl) (fun _ _ _ h => h) (Or.inl ⟨by rfl, ?yc203⟩) (by assumption) ?_
                case yc203 => (intro w hSw; (try dsimp only at hSw); go_simp; all_goals (with_reducible rfl))
                (try simp only [Act.put, List.setIfInBounds_toArray, List.set_cons_zero, List.set_cons_succ])
                have HB6 := HB5; have HP6 := HP5
                refine wpAnyH_ready (rs := [11]) (by kernel_rfl) (by simp) ?_
                refine AllReadyH.cons rfl (fun K hK => ?_) ?_
                · rw [if_pos (by rfl)]
                  refine wp_store_row _ _ _ rfl wr.heap.size (rowV hs' out').toArray rfl rfl _ _ HG11.out (by rw [List.size_toArray, HR8.out]; exact size_bnd) (by simp [HR8.out]) HONE.out ?_
                  obtain ⟨w7, hw7⟩ : ∃ w7, w7 = w5.setRow wr.heap.size (rowV hs' out').toArray := ⟨_, rfl⟩
                  have g117 := setRow_heap w5 wr.heap.size _ (rowV hs' out').toArray _ _ HG11.out
                  have g67 : w7.heap[w.heap.size]? = _ := (by rw [hw7]; exact setRow_other _ _ _ _ (by omega) : w7.heap[w.heap.size]? = w5.heap[w.heap.size]?).trans ((HB6.out.block _ hgsz).trans HGR.out)
                  have b7 : Below wr.heap.size wr w7 := by rw [hw7]; exact below_setRow HB6.out (by omega) _
                  have p7 : PartsO w7 w.heap.size w7.heap.size hs' out' := by
                    have e : w7.heap.size = w5.heap.size := by rw [hw7]; simp [World.setRow]
                    rw [e, hw7]
                    exact HP6.out.setRow HG11.out _
                  rw [← hw7] at g117 ⊢
                  have HG117 := Lib.hid g117; have HG67 := Lib.hid g67; have HB7 := Lib.hid b7; have HP7 := Lib.hid p7
                  clear hw7 g117 g67 b7 p7
                  refine hK.out _ _ (HSX.out _ HB7.out) (fun hHeld => ?_)
                  clear hK K
                  (try simp only [Act.put, List.setIfInBounds_toArray, List.set_cons_zero, List.set_cons_succ])
                  refine wpAnyH_ready (rs := [12]) (by kernel_rfl) (by simp) ?_
                  refine AllReadyH.cons rfl (fun K hK => ?_) ?_
                  · go_simp
                    refine hK.out _ _ (HSX.out _ HB7.out) (fun hHeld => ?_)
                    clear hK K
                    (try simp only [Act.put, List.setIfInBounds_toArray, List.set_cons_zero, List.set_cons_succ])
                    refine wpAnyH_done (by kernel_rfl) ?_ _
                    have HBW7 := Lib.hid (HB.out.trans (HB7.out.mono hsz))
                    cases b with
                    | false =>
                      obtain ⟨n1, n2⟩ := HNN.out rfl
                      have HNO := Lib.hid (HNOT.out n1 n2)
                      clear n1 n2
                      go_wp2
                      (try rw [Exit.noGoto_ret])
                      go_ret2
                      rw [mtL_no HNO.out, HNO.out]
                      exact givesTB_nil _ _ HBW7.out
                    | true =>
                      obtain ⟨y1, y2⟩ := HY.out rfl
                      have hh := HYES.out y1
                      rw [← y2] at hh
                      have hsm8 := set_small (j := j) HSM.out HD24.out
                      rw [← y2] at hsm8
                      have HH := Lib.hid hh; have HSM8 := Lib.hid hsm8
                      obtain ⟨w8, hw8⟩ : ∃ w8, w8 = w7.setRow w.heap.size (rowV hs' out').toArray := ⟨_, rfl⟩
                      have g8 := setRow_heap w7 w.heap.size _ (rowV hs' out').toArray _ _ HG67.out
                      have p8 : PartsO w8 w.heap.size w8.heap.size hs' out' := by
                        have e : w8.heap.size = w7.heap.size := by rw [hw8]; simp [World.setRow]
                        rw [e, hw8]
                        exact HP7.out.setRow HG67.out _
                      have b8 : Below w.heap.size w w8 := by rw [hw8]; exact below_setRow HBW7.out (Nat.le_refl _) _
                      rw [← hw8] at g8
                      have HW8 := Lib.hid hw8; have HG8 := Lib.hid g8; have HP8 := Lib.hid p8; have HB8 := Lib.hid b8
                      clear y1 y2 hh hsm8 hw8 g8 p8 b8
                      go_wp2_with (first
                        | (refine wpList_load_row rfl _ _ rfl wr.heap.size rfl _ _ _ _ HG117.out Tryd.underlying62 rfl (by rw [List.size_toArray, HR8.out]; exact size_bnd) ?_)
                        | (refine wpList_store_row rfl _ _ _ rfl w.heap.size (rowV hs' out').toArray rfl rfl _ _ HG67.out (by rw [List.size_toArray, HR8.out]; exact size_bnd) (by simp [HR8.out, HL8.out]) HONE.out ?_; rw [← HW8.out]))
                      go_roundw
                      case rel => exact ⟨k + 1, E, hs', out', by omega, by go_num, by go_num, HG8.out, HP8.out, HB8.out, HH.out, HL8'.out, hEl, HSM8.out, HND.out⟩
                      case measure => simp [intOf]; omega
                  · exact AllReadyH.nil
                · exact AllReadyH.nil
              · exact AllReadyH.nil
            exact AllReadyH.nil
        · have hkl : k = p.length := by omega
          subst hkl
          rw [List.take_of_length_le (Nat.le_refl _)] at hist
          have HIS := Lib.hid hist
          have hmt := HFN.out.2 _ hist
          by_cases hend : at_ = f.length
          · have hd0 : decide ((at_ : Int) < (f.length : Int)) = false := decide_eq_false (by omega)
            have h1 : mtB p f = true := by rw [hmt]; exact decide_eq_true hend
            have HN := Lib.hid (And.intro (mtL_yes h1 hist) h1)
            have HOW : Hid (OwnT wr w.heap.size wr.heap.size (.slice (some ⟨w.heap.size, 0, none⟩) 8 8) hs out) := Lib.hid ⟨⟨by simp [rowV_len], .inr ⟨w.heap.size, 8, (rowV hs out).toArray, by rw [HOL.out], Nat.le_refl _, HGR.out, by rw [HOL.out]; exact Nat.le_refl _, by decide, by simp [rowV_len, HOL.out], by simp only [List.toList_toArray, Nat.mul_one]; rw [← rowV_len hs out]; exact List.take_length⟩⟩, HPR.out, fun k e => by
              have e : w.heap.size = k := by simpa [Value.ownBlock] using e
              subst e
              exact (Array.getElem?_eq_some_iff.1 HGR.out).1⟩
            clear hist hmt h1 hneed
            go_wp2
            (try rw [Exit.noGoto_ret])
            go_ret2
            exact givesTB_mk HOL.out HOW.out HB.out HN.out.1.symm HN.out.2.symm
          · have hd0 : decide ((at_ : Int) < (f.length : Int)) = true := decide_eq_true (by omega)
            have h1 : mtB p f = false := by rw [hmt]; exact decide_eq_false hend
            have HN := Lib.hid (And.intro (mtL_no h1) h1)
            clear hist hmt h1 hneed
            go_wp2
            (try rw [Exit.noGoto_ret])
            go_ret2
            rw [HN.out.1, HN.out.2]
            exact givesTB_nil _ _ HB.out
end Go.Proofs.YtoniekjchabjlaaDoor
