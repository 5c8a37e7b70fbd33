/- The program's NetOutline: its lines written through the interface, and the whole. Made by mknop.py. -/
import Derived.Test.YtfanapddopafiaaDoorNoM
import Derived.Test.YtfanapddopafiaaDoorLineC
import Derived.Test.YtfanapddopafiaaDoorQPgJ
import Derived.Deep.RegionHeldLaw
import Derived.Deep.DeepCutAuto
namespace Go.Proofs.YtfanapddopafiaaDoor
set_option linter.unusedSimpArgs false
set_option linter.unusedVariables false
open Go.ChangeAt Go.ChangeShapes Go.RowKit Go.WideShapes

theorem heldO_below {B b : Nat} {bs : List Value} {w w' : World} (h : Held B b bs w) (hb : Below w.heap.size w w') : Held B b bs w' := by
  have k : ∀ p, Lib.BuilderAt 115 5 B b p bs w → Lib.BuilderAt 115 5 B b p bs w' := fun p h => by
    have hlt := h.lt
    obtain ⟨hB, v, hbk, hown, hne⟩ := h
    exact ⟨hB, v, (hb.block b hlt).trans hbk, own_below hown hb (Nat.le_refl _), hne⟩
  rcases h with h | h
  · exact .inl (k _ h)
  · exact .inr (k _ h)
theorem held_lt {B b : Nat} {bs : List Value} {w : World} (h : Held B b bs w) : b < w.heap.size := by
  rcases h with h | h
  · exact h.lt
  · exact h.lt
theorem mO_line (a : Addr) (w : World) : (method 277 116 (.pointer (some a)) "loop.example/g00872/impl.line").run Tryd.prog w = .ok (165, .pointer (some a)) w := by kernel_rfl
theorem nO_line (a : Addr) (w : World) : (nilAhead 277 116 (.pointer (some a)) "loop.example/g00872/impl.line").run Tryd.prog w = .ok (some false) w := by kernel_rfl
theorem cw_cut : lwB 2 ++ (⟨#[32]⟩ : ByteArray) = cuW := by
  apply ba_ext
  simp [lwB, lwTab, cuW]
set_option maxRecDepth 100000 in
set_option maxHeartbeats 500000 in
theorem no_lines (h : NH) (N : Nt) (b bl B : Nat) (w : World) (r : RdN w B h N) (hv : valN N = true) (hw : LWords w) (hwB : 0 < B)
    (hbx : w.heap[bl]? = some (.cells #[.slice h.A N.w.length h.c, .slice h.L N.l.length h.d, .slice h.C N.c.length h.e] 31 (0, 0))) (hbl : bl < B) (hfr : w.heap[b]? = some (.cells #[.pointer none, .slice none 0 0] 115 (0, 0))) (hB : B ≤ b) :
    Calls Tryd.prog 69 #[.iface 116 (.pointer (some ⟨b, 0, none⟩)), .pointer (some ⟨bl, 0, none⟩)] w fun e w' => e = .returned (.tuple #[]) ∧ (noL N = [] → w'.heap[b]? = some (.cells #[.pointer none, .slice none 0 0] 115 (0, 0))) ∧ Held B b (Lib.byteCells (noL N)) w' ∧ Below B w w' := by
  obtain ⟨hs1, hs2⟩ := valN_size hv
  have hcl := valN_conc_le hv
  have hbw : b < w.heap.size := (Array.getElem?_eq_some_iff.1 hfr).1
  have H0 : Hid (Held B b (Lib.byteCells (cosN N 0)) w) := Lib.hid (.inl ⟨hB, _, hfr, ⟨by simp [cosN, Lib.byteCells], .inl ⟨rfl, by simp [cosN, Lib.byteCells]⟩⟩, by simp [Value.ownBlock]⟩)
  have HFR := Lib.hid hfr
  have HR := Lib.hid (fun (wx : World) (hx : Below B w wx) => show RdN wx B h N from r.below hx)
  have HW := Lib.hid (fun (wx : World) (hx : Below B w wx) => hw.below hx hwB)
  have HK := Lib.hid (fun (wx : World) (hx : Below B w wx) => three_cells ((hx.block bl hbl).trans hbx))
  have HVT := Lib.hid hv
  have hm := mO_line ⟨b, 0, none⟩
  have hn := nO_line ⟨b, 0, none⟩
  have hmf : ∀ (fn : Fn) (first cap : Array Value) (w : World), (Instr.makeFunc fn first cap).run Tryd.prog w = .ok (.func fn first cap) w := fun _ _ _ _ => rfl
  have hBw : B ≤ w.heap.size := by omega
  have HBW := Lib.hid hBw
  have HTA := Lib.hid (fun (wx : World) (hx : Below B w wx) (gx : Nat) (X : List Int) (n : Nat) (hX : RdI wx wx.heap.size (some ⟨gx, 0, none⟩) n X) (h2 : n ≤ 2) => treesAbove_any h N wx ((r.below hx).more (Nat.le_trans hBw hx.size)) ⟨#[32]⟩ (some ⟨gx, 0, none⟩) n n X hX h2 (by decide) (fun y _ => trT_some hv y) (fun y _ w r => treeAbove_any N hv h _ y (Nat.le_refl _) w r))
  clear r hw hfr hbx hv
  obtain ⟨y0, y1, y2⟩ := HK.out w (Below.refl _ _)
  go_enter Tryd.func69, Tryd.ntmps69
  go_wp2
  clear y0 y1 y2
  go_loopw [10] (fun i wr => ∃ k : Nat, k ≤ N.c.length ∧ i = .int .i64 k ∧ (cosN N k = [] → wr.heap[b]? = some (.cells #[.pointer none, .slice none 0 0] 115 (0, 0))) ∧ Held B b (Lib.byteCells (cosN N k)) wr ∧ Below B w wr) (fun i _ => N.c.length - (intOf i).toNat)
  case atStart => exact ⟨0, Nat.zero_le _, rfl, fun _ => HFR.out, H0.out, Below.refl _ _⟩
  case round =>
    obtain ⟨k, hk, rfl, hE, hH, hBl⟩ := hrel
    have HB := Lib.hid hBl
    have hsz := hBl.size
    by_cases hlt : k < N.c.length
    · obtain ⟨bc, offc, hC, hbc, hcc⟩ := (HR.out wr hBl).2.2.2 (by omega)
      have kc := hcc k hlt
      have HSU := Lib.hid (cosN_succ (N := N) hlt)
      have hl1 := cosN_len HVT.out k (by omega)
      have hl2 : (Lib.byteCells (cosN N k)).length ≤ 48336 := by rw [Lib.byteCells_length]; omega
      have HNE := Lib.hid (coN_ne N (N.c.getD k 0) (cosN N k))
      rw [← HSU.out] at HNE
      have hca := cells_appN (cosN N k) (coT N (N.c.getD k 0))
      rw [show (coT N (N.c.getD k 0)).data.toList ++ [10] = coN N (N.c.getD k 0) from rfl, ← HSU.out] at hca
      have HCA := Lib.hid hca
      have hcs := coT_size HVT.out (N.c.getD k 0)
      have htz := trT_some HVT.out (N.c.getD k 0)
      obtain ⟨z, hz⟩ : ∃ z, N.c.getD k 0 = z := ⟨_, rfl⟩
      rw [hz] at kc HCA hcs htz
      have a1 : ∀ w : World, (Op.stringOp .add ⟨#[99, 111, 110, 99, 108, 32]⟩ (trT dcN N z)).run Tryd.prog w = .ok (.string (coT N z)) w := fun w => run_string_add_sum _ _ _ (by show coW.size + _ ≤ _; have : coW.size = 6 := rfl; omega)
      have HT1 := Lib.hid (fun (wx : World) (hx : Below B w wx) (gx : Nat) (hg : wx.heap[gx]? = some (.cells #[.int .i64 z] 2 (0, 0))) => HTA.out wx hx gx [z] 1 (rd_one hg) (by decide))
      rw [show ([z].map (trT dcN N)) = [trT dcN N z] from rfl, jnX_one] at HT1
      generalize trT dcN N z = TZ at *
      generalize coT N z = WT at *
      have HSX : Hid (∀ wx : World, Below B w wx → wx.cell? ⟨bl, 0, none⟩ = some (.slice h.A N.w.length h.c) ∧ wx.cell? ⟨bl, 1, none⟩ = some (.slice h.L N.l.length h.d) ∧ wx.cell? ⟨bl, 2, none⟩ = some (.slice h.C N.c.length h.e)) := Lib.hid fun wx hx => HK.out wx hx
      have FB_0 := Lib.hid hBl
      have FH_0 := Lib.hid hH
      clear hBl hcc hH hca hz hE hl1 htz
      rw [hC]
      clear hC
      go_upto_region 3 with (fail)
      clear kc
      refine wp_region_held_drew (S := fun wx => wx.cell? ⟨bl, 0, none⟩ = some (.slice h.A N.w.length h.c) ∧ wx.cell? ⟨bl, 1, none⟩ = some (.slice h.L N.l.length h.d) ∧ wx.cell? ⟨bl, 2, none⟩ = some (.slice h.C N.c.length h.e)) (by kernel_rfl) (HSX.out _ FB_0.out.drew) (fun hHeld => ?_)
      obtain ⟨wp1, hwp1⟩ : ∃ w', w' = wr.drew := ⟨_, rfl⟩
      rw [← hwp1] at hHeld ⊢
      have bp1 : Below wr.heap.size wr wp1 := by rw [hwp1]; exact (Below.refl _ _).drew
      clear hwp1
      have FB_p2 := Lib.hid ((FB_0.out).trans ((bp1).mono (Nat.le_trans HBW.out (FB_0.out).size)))
      have FH_p3 := Lib.hid (heldO_below (FH_0.out) (bp1))
      clear FB_0 FH_0
      refine wpAnyH_take (i := 0) (v := ?vp4) rfl (by kernel_rfl) (by kernel_rfl) (by kernel_rfl) (fun _ _ _ h => h) (Or.inl ⟨by rfl, ?yp4⟩) (by assumption) ?_
      case yp4 => (intro w hSw; (try dsimp only at hSw); go_simp; all_goals (with_reducible rfl))
      (try simp only [Act.put, List.setIfInBounds_toArray, List.set_cons_zero, List.set_cons_succ, List.getElem_toArray, List.getElem_cons_succ, List.getElem_cons_zero])
      refine wpAnyH_take (i := 1) (v := ?vp5) rfl (by kernel_rfl) (by kernel_rfl) (by kernel_rfl) (fun _ _ _ h => h) (Or.inl ⟨by rfl, ?yp5⟩) (by assumption) ?_
      case yp5 => (intro w hSw; (try dsimp only at hSw); go_simp; all_goals (with_reducible rfl))
      (try simp only [Act.put, List.setIfInBounds_toArray, List.set_cons_zero, List.set_cons_succ, List.getElem_toArray, List.getElem_cons_succ, List.getElem_cons_zero])
      refine wpAnyH_take (i := 2) (v := ?vp6) rfl (by kernel_rfl) (by kernel_rfl) (by kernel_rfl) (fun _ _ _ h => h) (Or.inl ⟨by rfl, ?yp6⟩) (by assumption) ?_
      case yp6 => (intro w hSw; (try dsimp only at hSw); go_simp; all_goals (with_reducible rfl))
      (try simp only [Act.put, List.setIfInBounds_toArray, List.set_cons_zero, List.set_cons_succ, List.getElem_toArray, List.getElem_cons_succ, List.getElem_cons_zero])
      refine wpAnyH_take (i := 6) (v := ?vp7) rfl (by kernel_rfl) (by kernel_rfl) (by kernel_rfl) (fun _ _ _ h => h) (Or.inl ⟨by rfl, ?yp7⟩) (by assumption) ?_
      case yp7 => (intro w hSw; (try dsimp only at hSw); go_simp; all_goals (with_reducible rfl))
      (try simp only [Act.put, List.setIfInBounds_toArray, List.set_cons_zero, List.set_cons_succ, List.getElem_toArray, List.getElem_cons_succ, List.getElem_cons_zero])
      refine wpAnyH_take (i := 7) (v := ?vp8) rfl (by kernel_rfl) (by kernel_rfl) (by kernel_rfl) (fun _ _ _ h => h) (Or.inl ⟨by rfl, ?yp8⟩) (by assumption) ?_
      case yp8 => (intro w hSw; (try dsimp only at hSw); go_simp; all_goals (with_reducible rfl))
      (try simp only [Act.put, List.setIfInBounds_toArray, List.set_cons_zero, List.set_cons_succ, List.getElem_toArray, List.getElem_cons_succ, List.getElem_cons_zero])
      refine wpAnyH_take (i := 8) (v := ?vp9) rfl (by kernel_rfl) (by kernel_rfl) (by kernel_rfl) (fun _ _ _ h => h) (Or.inl ⟨by rfl, ?yp9⟩) (by assumption) ?_
      case yp9 => (intro w hSw; (try dsimp only at hSw); go_simp; all_goals (with_reducible rfl))
      (try simp only [Act.put, List.setIfInBounds_toArray, List.set_cons_zero, List.set_cons_succ, List.getElem_toArray, List.getElem_cons_succ, List.getElem_cons_zero])
      refine wpAnyH_ready (rs := [3]) (by kernel_rfl) (by simp) ?_
      refine AllReadyH.cons rfl (fun K hK => ?_) ?_
      · go_simp
        obtain ⟨wp10, hwp10⟩ : ∃ w', w' = wp1.alloc (.cells #[.int .i64 z] 2) := ⟨_, rfl⟩
        rw [← hwp10]
        have bp10 : Below wp1.heap.size wp1 wp10 := by rw [hwp10]; exact (Below.refl _ _).alloc (Nat.le_refl _) _
        have gp10 : wp10.heap[wp1.heap.size]? = some (.cells #[.int .i64 z] 2 (0, 0)) := by rw [hwp10]; exact heap_alloc_new _ _
        clear hwp10
        have FB_p11 := Lib.hid ((FB_p2.out).trans ((bp10).mono (Nat.le_trans HBW.out (FB_p2.out).size)))
        have FH_p12 := Lib.hid (heldO_below (FH_p3.out) (bp10))
        clear FB_p2 FH_p3
        obtain ⟨gap13, hgp13⟩ : ∃ b, wp1.heap.size = b := ⟨_, rfl⟩
        have GB_p13 := Lib.hid gp10
        rw [hgp13] at GB_p13 ⊢
        clear hgp13 gp10 bp10
        refine hK.out _ _ (HSX.out _ FB_p11.out) (fun hHeld => ?_)
        clear hK K
        (try simp only [Act.put, List.setIfInBounds_toArray, List.set_cons_zero, List.set_cons_succ, List.getElem_toArray, List.getElem_cons_succ, List.getElem_cons_zero])
        refine wpAnyH_ready (rs := [4]) (by kernel_rfl) (by simp) ?_
        refine AllReadyH.cons rfl (fun K hK => ?_) ?_
        · go_simp
          refine (HT1.out wp10 FB_p11.out gap13 GB_p13.out).mono ?_
          rintro e wp14 ⟨rfl, belp14⟩
          dsimp only
          have FB_p15 := Lib.hid ((FB_p11.out).trans ((belp14).mono (Nat.le_trans HBW.out (FB_p11.out).size)))
          have FH_p16 := Lib.hid (heldO_below (FH_p12.out) (belp14))
          have GB_p17 := Lib.hid (((belp14).block _ (Array.getElem?_eq_some_iff.1 (GB_p13.out)).1).trans (GB_p13.out))
          clear FB_p11 FH_p12 GB_p13
          clear belp14
          refine hK.out _ _ (HSX.out _ FB_p15.out) (fun hHeld => ?_)
          clear hK K
          (try simp only [Act.put, List.setIfInBounds_toArray, List.set_cons_zero, List.set_cons_succ, List.getElem_toArray, List.getElem_cons_succ, List.getElem_cons_zero])
          refine wpAnyH_take (i := 5) (v := ?vp18) rfl (by kernel_rfl) (by kernel_rfl) (by kernel_rfl) (fun _ _ _ h => h) (Or.inl ⟨by rfl, ?yp18⟩) (by assumption) ?_
          case yp18 => (intro w hSw; (try dsimp only at hSw); go_simp; all_goals (with_reducible rfl))
          (try simp only [Act.put, List.setIfInBounds_toArray, List.set_cons_zero, List.set_cons_succ, List.getElem_toArray, List.getElem_cons_succ, List.getElem_cons_zero])
          refine wpAnyH_ready (rs := [9]) (by kernel_rfl) (by simp) ?_
          refine AllReadyH.cons rfl (fun K hK => ?_) ?_
          · go_simp
            refine (line_any WT FH_p16.out (by omega) (Nat.le_trans HBW.out FB_p15.out.size)).mono ?_
            rintro e w9 ⟨rfl, h9, bel9⟩
            dsimp only
            have H9 := Lib.hid h9
            have HB9 := Lib.hid (FB_p15.out.trans bel9)
            clear h9 bel9
            refine hK.out _ _ (HSX.out _ HB9.out) (fun hHeld => ?_)
            clear hK K
            (try simp only [Act.put, List.setIfInBounds_toArray, List.set_cons_zero, List.set_cons_succ, List.getElem_toArray, List.getElem_cons_succ, List.getElem_cons_zero])
            refine wpAnyH_done (by kernel_rfl) ?_ _
            go_wp2
            go_roundw
            case rel => exact ⟨k + 1, by omega, by go_num, fun e => absurd e HNE.out, (by rw [← HCA.out]; exact H9.out), HB9.out⟩
            case measure => simp [intOf]; omega
          exact AllReadyH.nil
        exact AllReadyH.nil
      exact AllReadyH.nil
    · have hkl : k = N.c.length := by omega
      subst hkl
      have HE0 : Hid (cusN N 0 = [] → wr.heap[b]? = some (.cells #[.pointer none, .slice none 0 0] 115 (0, 0))) := Lib.hid (by rw [cusN_zero]; exact hE)
      have HH0 : Hid (Held B b (Lib.byteCells (cusN N 0)) wr) := Lib.hid (by rw [cusN_zero]; exact hH)
      obtain ⟨y0, y1, y2⟩ := HK.out wr HB.out
      clear hH hBl H0 hE
      go_wp2
      clear y0 y1 y2
      rename World => wr0
      go_loopw [28] (fun i wx => ∃ k : Nat, k ≤ N.l.length ∧ i = .int .i64 k ∧ (cusN N k = [] → wx.heap[b]? = some (.cells #[.pointer none, .slice none 0 0] 115 (0, 0))) ∧ Held B b (Lib.byteCells (cusN N k)) wx ∧ Below B w wx) (fun i _ => N.l.length - (intOf i).toNat)
      case atStart => exact ⟨0, Nat.zero_le _, rfl, HE0.out, HH0.out, HB.out⟩
      case round =>
        clear HH0 HB hsz HE0
        obtain ⟨k, hk, rfl, hE, hH, hBl⟩ := hrel
        have hsz := hBl.size
        by_cases hlt : k < N.l.length
        · obtain ⟨b2, off, hA, hbb, hcells⟩ := (HR.out wr hBl).2.1.at (show 0 < N.l.length by omega)
          obtain ⟨x0, x1, x2, x3⟩ := hcells k hlt
          have HSU := Lib.hid (cusN_succ (N := N) hlt)
          have hl1 := cusN_len HVT.out k (by omega)
          have hl2 : (Lib.byteCells (cusN N k)).length ≤ 144624 := by rw [Lib.byteCells_length]; omega
          have HYE := Lib.hid (fun e => cuN_yes (N := N) (l := N.l.getD k Lk.nil) e)
          have HNT := Lib.hid (fun e => cuN_not (N := N) (l := N.l.getD k Lk.nil) e)
          have hcs := cuT_size HVT.out (N.l.getD k Lk.nil)
          have hta := trT_some HVT.out (N.l.getD k Lk.nil).a
          have htb := trT_some HVT.out (N.l.getD k Lk.nil).b
          have hcw := HW.out wr hBl 2 (by decide)
          obtain ⟨⟨lk, la, lb, lc⟩, hl⟩ : ∃ l, N.l.getD k Lk.nil = l := ⟨_, rfl⟩
          rw [hl] at x0 x1 x2 x3 HSU HYE HNT hcs hta htb
          dsimp only at x0 x1 x2 x3 HYE HNT hta htb
          obtain ⟨bl2, z0, z1, z2, z3, zs⟩ := lnk_any wr ⟨lk, la, lb, lc⟩ 71
          dsimp only at bl2 z0 z1 z2 z3
          obtain ⟨u1, hu1⟩ : ∃ u1, u1 = wr.alloc (.cells #[.int .i64 lk, .int .i64 la, .int .i64 lb, .int .i64 lc] 71) := ⟨_, rfl⟩
          have p1 : u1.heap[wr.heap.size]? = some (.cells #[.int .i64 lk, .int .i64 la, .int .i64 lb, .int .i64 lc] 71 (0, 0)) := by rw [hu1]; exact heap_alloc_new _ _
          have HU1 := Lib.hid hu1
          rw [← hu1] at bl2 z0 z1 z2 z3 zs
          have BL := Lib.hid (hBl.trans (bl2.mono (show B ≤ wr.heap.size by omega)))
          have H1 := Lib.hid (heldO_below hH bl2)
          have HE1 : Hid (cusN N k = [] → u1.heap[b]? = some (.cells #[.pointer none, .slice none 0 0] 115 (0, 0))) := Lib.hid (fun e => (bl2.block b (held_lt hH)).trans (hE e))
          obtain ⟨bx, hbx⟩ : ∃ bx, wr.heap.size = bx := ⟨_, rfl⟩
          have HBX := Lib.hid hbx
          rw [hbx] at z0 z1 z2 z3 p1
          have P1 := Lib.hid p1
          clear hBl hcells hH hl bl2 hu1 zs hE p1 hbx hl1
          rw [hA]
          clear hA
          by_cases h2 : lk = 2
          · have hyes := HYE.out h2
            have HSU2 : Hid (cusN N (k + 1) = cusN N k ++ ((cuT N ⟨lk, la, lb, lc⟩).data.toList ++ [10])) := Lib.hid (by rw [HSU.out, hyes])
            have HNE : Hid (cusN N (k + 1) ≠ []) := Lib.hid (by rw [HSU2.out]; simp)
            have hca := cells_appN (cusN N k) (cuT N ⟨lk, la, lb, lc⟩)
            rw [← HSU2.out] at hca
            have HCA := Lib.hid hca
            have HT2 := Lib.hid (fun (wx : World) (hx : Below B w wx) (gx : Nat) (hg : wx.heap[gx]? = some (.cells #[.int .i64 la, .int .i64 lb] 2 (0, 0))) => HTA.out wx hx gx [la, lb] 2 (rd_two hg) (by decide))
            rw [show ([la, lb].map (trT dcN N)) = [trT dcN N la, trT dcN N lb] from rfl, jnX_two] at HT2
            have q32 : (⟨#[32]⟩ : ByteArray).size = 1 := rfl
            have sJ : (trT dcN N la ++ ⟨#[32]⟩ ++ trT dcN N lb).size ≤ 2001 := by rw [ByteArray.size_append, ByteArray.size_append]; omega
            have hce : cuW ++ (trT dcN N la ++ ⟨#[32]⟩ ++ trT dcN N lb) = cuT N ⟨lk, la, lb, lc⟩ := rfl
            generalize trT dcN N la ++ ⟨#[32]⟩ ++ trT dcN N lb = J at *
            generalize cuT N ⟨lk, la, lb, lc⟩ = WT at *
            have qc : cuW.size = 4 := rfl
            have qw : (lwB 2).size = 3 := rfl
            have a1 : ∀ w : World, (Op.stringOp .add (lwB 2) ⟨#[32]⟩).run Tryd.prog w = .ok (.string cuW) w := fun w => by rw [← cw_cut]; exact run_string_add_sum _ _ _ (by omega)
            have a2 : ∀ w : World, (Op.stringOp .add cuW J).run Tryd.prog w = .ok (.string WT) w := fun w => by rw [← hce]; exact run_string_add_sum _ _ _ (by omega)
            have HSX : Hid (∀ wx : World, Below B w wx → wx.cell? ⟨bl, 0, none⟩ = some (.slice h.A N.w.length h.c) ∧ wx.cell? ⟨bl, 1, none⟩ = some (.slice h.L N.l.length h.d) ∧ wx.cell? ⟨bl, 2, none⟩ = some (.slice h.C N.c.length h.e) ∧ wx.cell? ⟨0, 2, none⟩ = some (.string (lwB 2))) := Lib.hid fun wx hx => by
              obtain ⟨n0, n1, n2⟩ := HK.out wx hx
              exact ⟨n0, n1, n2, HW.out wx hx 2 (by decide)⟩
            generalize lwB 2 = CW at *
            generalize cuW = CV at *
            subst h2
            have FB_0 := Lib.hid BL.out
            have FH_0 := Lib.hid H1.out
            have FX_0 := Lib.hid P1.out
            clear hca hyes sJ hce hta htb q32 qc qw hcw
            go_upto_region 9 with (fail)
            rw [HBX.out, ← HU1.out]
            clear x0 x1 x2 x3 z0 z1 z2 z3
            refine wp_region_held_drew (S := fun wx => wx.cell? ⟨bl, 0, none⟩ = some (.slice h.A N.w.length h.c) ∧ wx.cell? ⟨bl, 1, none⟩ = some (.slice h.L N.l.length h.d) ∧ wx.cell? ⟨bl, 2, none⟩ = some (.slice h.C N.c.length h.e) ∧ wx.cell? ⟨0, 2, none⟩ = some (.string CW)) (by kernel_rfl) (HSX.out _ FB_0.out.drew) (fun hHeld => ?_)
            obtain ⟨wq1, hwq1⟩ : ∃ w', w' = u1.drew := ⟨_, rfl⟩
            rw [← hwq1] at hHeld ⊢
            have bq1 : Below u1.heap.size u1 wq1 := by rw [hwq1]; exact (Below.refl _ _).drew
            clear hwq1
            have FB_q2 := Lib.hid ((FB_0.out).trans ((bq1).mono (Nat.le_trans HBW.out (FB_0.out).size)))
            have FH_q3 := Lib.hid (heldO_below (FH_0.out) (bq1))
            have FX_q4 := Lib.hid (((bq1).block _ (Array.getElem?_eq_some_iff.1 (FX_0.out)).1).trans (FX_0.out))
            clear FB_0 FH_0 FX_0
            refine wpAnyH_take (i := 0) (v := ?vq5) rfl (by kernel_rfl) (by kernel_rfl) (by kernel_rfl) (fun _ _ _ h => h) (Or.inl ⟨by rfl, ?yq5⟩) (by assumption) ?_
            case yq5 => (intro w hSw; (try dsimp only at hSw); go_simp; all_goals (with_reducible rfl))
            (try simp only [Act.put, List.setIfInBounds_toArray, List.set_cons_zero, List.set_cons_succ, List.getElem_toArray, List.getElem_cons_succ, List.getElem_cons_zero])
            refine wpAnyH_take (i := 1) (v := ?vq6) rfl (by kernel_rfl) (by kernel_rfl) (by kernel_rfl) (fun _ _ _ h => h) (Or.inl ⟨by rfl, ?yq6⟩) (by assumption) ?_
            case yq6 => (intro w hSw; (try dsimp only at hSw); go_simp; all_goals (with_reducible rfl))
            (try simp only [Act.put, List.setIfInBounds_toArray, List.set_cons_zero, List.set_cons_succ, List.getElem_toArray, List.getElem_cons_succ, List.getElem_cons_zero])
            refine wpAnyH_take (i := 4) (v := ?vq7) rfl (by kernel_rfl) (by kernel_rfl) (by kernel_rfl) (fun _ _ _ h => h) (Or.inl ⟨by rfl, ?yq7⟩) (by assumption) ?_
            case yq7 => (intro w hSw; (try dsimp only at hSw); go_simp; all_goals (with_reducible rfl))
            (try simp only [Act.put, List.setIfInBounds_toArray, List.set_cons_zero, List.set_cons_succ, List.getElem_toArray, List.getElem_cons_succ, List.getElem_cons_zero])
            refine wpAnyH_take (i := 5) (v := ?vq8) rfl (by kernel_rfl) (by kernel_rfl) (by kernel_rfl) (fun _ _ _ h => h) (Or.inl ⟨by rfl, ?yq8⟩) (by assumption) ?_
            case yq8 => (intro w hSw; (try dsimp only at hSw); go_simp; all_goals (with_reducible rfl))
            (try simp only [Act.put, List.setIfInBounds_toArray, List.set_cons_zero, List.set_cons_succ, List.getElem_toArray, List.getElem_cons_succ, List.getElem_cons_zero])
            refine wpAnyH_take (i := 7) (v := ?vq9) rfl (by kernel_rfl) (by kernel_rfl) (by kernel_rfl) (fun _ _ _ h => h) (Or.inl ⟨by rfl, ?yq9⟩) (by assumption) ?_
            case yq9 => (intro w hSw; (try dsimp only at hSw); go_simp; all_goals (with_reducible rfl))
            (try simp only [Act.put, List.setIfInBounds_toArray, List.set_cons_zero, List.set_cons_succ, List.getElem_toArray, List.getElem_cons_succ, List.getElem_cons_zero])
            refine wpAnyH_take (i := 2) (v := ?vq10) rfl (by kernel_rfl) (by kernel_rfl) (by kernel_rfl) (fun _ _ _ h => h) (Or.inl ⟨by rfl, ?yq10⟩) (by assumption) ?_
            case yq10 => (intro w hSw; (try dsimp only at hSw); go_simp; all_goals (with_reducible rfl))
            (try simp only [Act.put, List.setIfInBounds_toArray, List.set_cons_zero, List.set_cons_succ, List.getElem_toArray, List.getElem_cons_succ, List.getElem_cons_zero])
            refine wpAnyH_take (i := 12) (v := ?vq11) rfl (by kernel_rfl) (by kernel_rfl) (by kernel_rfl) (fun _ _ _ h => h) (Or.inl ⟨by rfl, ?yq11⟩) (by assumption) ?_
            case yq11 => (intro w hSw; (try dsimp only at hSw); go_simp; all_goals (with_reducible rfl))
            (try simp only [Act.put, List.setIfInBounds_toArray, List.set_cons_zero, List.set_cons_succ, List.getElem_toArray, List.getElem_cons_succ, List.getElem_cons_zero])
            refine wpAnyH_take (i := 3) (v := ?vq12) rfl (by kernel_rfl) (by kernel_rfl) (by kernel_rfl) (fun _ _ _ h => h) (Or.inl ⟨by rfl, ?yq12⟩) (by assumption) ?_
            case yq12 => (intro w hSw; (try dsimp only at hSw); go_simp; all_goals (with_reducible rfl))
            (try simp only [Act.put, List.setIfInBounds_toArray, List.set_cons_zero, List.set_cons_succ, List.getElem_toArray, List.getElem_cons_succ, List.getElem_cons_zero])
            refine wpAnyH_take (i := 13) (v := ?vq13) rfl (by kernel_rfl) (by kernel_rfl) (by kernel_rfl) (fun _ _ _ h => h) (Or.inl ⟨by rfl, ?yq13⟩) (by assumption) ?_
            case yq13 => (intro w hSw; (try dsimp only at hSw); go_simp; all_goals (with_reducible rfl))
            (try simp only [Act.put, List.setIfInBounds_toArray, List.set_cons_zero, List.set_cons_succ, List.getElem_toArray, List.getElem_cons_succ, List.getElem_cons_zero])
            refine wpAnyH_take (i := 14) (v := ?vq14) rfl (by kernel_rfl) (by kernel_rfl) (by kernel_rfl) (fun _ _ _ h => h) (Or.inl ⟨by rfl, ?yq14⟩) (by assumption) ?_
            case yq14 => (intro w hSw; (try dsimp only at hSw); go_simp; all_goals (with_reducible rfl))
            (try simp only [Act.put, List.setIfInBounds_toArray, List.set_cons_zero, List.set_cons_succ, List.getElem_toArray, List.getElem_cons_succ, List.getElem_cons_zero])
            refine wpAnyH_ready (rs := [6, 8]) (by kernel_rfl) (by simp) ?_
            refine AllReadyH.cons rfl (fun K hK => ?_) ?_
            · have cq := cell_of_row _ _ 1 _ _ (0, 0) FX_q4.out
              go_simp
              clear cq
              refine hK.out _ _ (hHeld) (fun hHeld => ?_)
              clear hK K
              (try simp only [Act.put, List.setIfInBounds_toArray, List.set_cons_zero, List.set_cons_succ, List.getElem_toArray, List.getElem_cons_succ, List.getElem_cons_zero])
              refine wpAnyH_ready (rs := [8]) (by kernel_rfl) (by simp) ?_
              refine AllReadyH.cons rfl (fun K hK => ?_) ?_
              · have cq := cell_of_row _ _ 2 _ _ (0, 0) FX_q4.out
                go_simp
                clear cq
                refine hK.out _ _ (hHeld) (fun hHeld => ?_)
                clear hK K
                (try simp only [Act.put, List.setIfInBounds_toArray, List.set_cons_zero, List.set_cons_succ, List.getElem_toArray, List.getElem_cons_succ, List.getElem_cons_zero])
                refine wpAnyH_ready (rs := [9]) (by kernel_rfl) (by simp) ?_
                refine AllReadyH.cons rfl (fun K hK => ?_) ?_
                · go_simp
                  obtain ⟨wq15, hwq15⟩ : ∃ w', w' = wq1.alloc (.cells #[.int .i64 la, .int .i64 lb] 2) := ⟨_, rfl⟩
                  rw [← hwq15]
                  have bq15 : Below wq1.heap.size wq1 wq15 := by rw [hwq15]; exact (Below.refl _ _).alloc (Nat.le_refl _) _
                  have gq15 : wq15.heap[wq1.heap.size]? = some (.cells #[.int .i64 la, .int .i64 lb] 2 (0, 0)) := by rw [hwq15]; exact heap_alloc_new _ _
                  clear hwq15
                  have FB_q16 := Lib.hid ((FB_q2.out).trans ((bq15).mono (Nat.le_trans HBW.out (FB_q2.out).size)))
                  have FH_q17 := Lib.hid (heldO_below (FH_q3.out) (bq15))
                  have FX_q18 := Lib.hid (((bq15).block _ (Array.getElem?_eq_some_iff.1 (FX_q4.out)).1).trans (FX_q4.out))
                  clear FB_q2 FH_q3 FX_q4
                  obtain ⟨gaq19, hgq19⟩ : ∃ b, wq1.heap.size = b := ⟨_, rfl⟩
                  have GB_q19 := Lib.hid gq15
                  rw [hgq19] at GB_q19 ⊢
                  clear hgq19 gq15 bq15
                  refine hK.out _ _ (HSX.out _ FB_q16.out) (fun hHeld => ?_)
                  clear hK K
                  (try simp only [Act.put, List.setIfInBounds_toArray, List.set_cons_zero, List.set_cons_succ, List.getElem_toArray, List.getElem_cons_succ, List.getElem_cons_zero])
                  refine wpAnyH_ready (rs := [10]) (by kernel_rfl) (by simp) ?_
                  refine AllReadyH.cons rfl (fun K hK => ?_) ?_
                  · go_simp
                    refine (HT2.out wq15 FB_q16.out gaq19 GB_q19.out).mono ?_
                    rintro e wq20 ⟨rfl, belq20⟩
                    dsimp only
                    have FB_q21 := Lib.hid ((FB_q16.out).trans ((belq20).mono (Nat.le_trans HBW.out (FB_q16.out).size)))
                    have FH_q22 := Lib.hid (heldO_below (FH_q17.out) (belq20))
                    have FX_q23 := Lib.hid (((belq20).block _ (Array.getElem?_eq_some_iff.1 (FX_q18.out)).1).trans (FX_q18.out))
                    have GB_q24 := Lib.hid (((belq20).block _ (Array.getElem?_eq_some_iff.1 (GB_q19.out)).1).trans (GB_q19.out))
                    clear FB_q16 FH_q17 FX_q18 GB_q19
                    clear belq20
                    refine hK.out _ _ (HSX.out _ FB_q21.out) (fun hHeld => ?_)
                    clear hK K
                    (try simp only [Act.put, List.setIfInBounds_toArray, List.set_cons_zero, List.set_cons_succ, List.getElem_toArray, List.getElem_cons_succ, List.getElem_cons_zero])
                    refine wpAnyH_take (i := 11) (v := ?vq25) rfl (by kernel_rfl) (by kernel_rfl) (by kernel_rfl) (fun _ _ _ h => h) (Or.inl ⟨by rfl, ?yq25⟩) (by assumption) ?_
                    case yq25 => (intro w hSw; (try dsimp only at hSw); go_simp; all_goals (with_reducible rfl))
                    (try simp only [Act.put, List.setIfInBounds_toArray, List.set_cons_zero, List.set_cons_succ, List.getElem_toArray, List.getElem_cons_succ, List.getElem_cons_zero])
                    refine wpAnyH_ready (rs := [15]) (by kernel_rfl) (by simp) ?_
                    refine AllReadyH.cons rfl (fun K hK => ?_) ?_
                    · go_simp
                      refine (line_any WT FH_q22.out (by omega) (Nat.le_trans HBW.out FB_q21.out.size)).mono ?_
                      rintro e w9 ⟨rfl, h9, bel9⟩
                      dsimp only
                      have H9 := Lib.hid h9
                      have HB9 := Lib.hid (FB_q21.out.trans bel9)
                      clear h9 bel9
                      refine hK.out _ _ (HSX.out _ HB9.out) (fun hHeld => ?_)
                      clear hK K
                      (try simp only [Act.put, List.setIfInBounds_toArray, List.set_cons_zero, List.set_cons_succ, List.getElem_toArray, List.getElem_cons_succ, List.getElem_cons_zero])
                      refine wpAnyH_done (by kernel_rfl) ?_ _
                      go_wp2
                      go_roundw
                      case rel => exact ⟨k + 1, by omega, by go_num, fun e => absurd e HNE.out, (by rw [← HCA.out]; exact H9.out), HB9.out⟩
                      case measure => simp [intOf]; omega
                    exact AllReadyH.nil
                  exact AllReadyH.nil
                exact AllReadyH.nil
              exact AllReadyH.nil
            refine AllReadyH.cons rfl (fun K hK => ?_) ?_
            · have cq := cell_of_row _ _ 2 _ _ (0, 0) FX_q4.out
              go_simp
              clear cq
              refine hK.out _ _ (hHeld) (fun hHeld => ?_)
              clear hK K
              (try simp only [Act.put, List.setIfInBounds_toArray, List.set_cons_zero, List.set_cons_succ, List.getElem_toArray, List.getElem_cons_succ, List.getElem_cons_zero])
              refine wpAnyH_ready (rs := [6]) (by kernel_rfl) (by simp) ?_
              refine AllReadyH.cons rfl (fun K hK => ?_) ?_
              · have cq := cell_of_row _ _ 1 _ _ (0, 0) FX_q4.out
                go_simp
                clear cq
                refine hK.out _ _ (hHeld) (fun hHeld => ?_)
                clear hK K
                (try simp only [Act.put, List.setIfInBounds_toArray, List.set_cons_zero, List.set_cons_succ, List.getElem_toArray, List.getElem_cons_succ, List.getElem_cons_zero])
                refine wpAnyH_ready (rs := [9]) (by kernel_rfl) (by simp) ?_
                refine AllReadyH.cons rfl (fun K hK => ?_) ?_
                · go_simp
                  obtain ⟨wq26, hwq26⟩ : ∃ w', w' = wq1.alloc (.cells #[.int .i64 la, .int .i64 lb] 2) := ⟨_, rfl⟩
                  rw [← hwq26]
                  have bq26 : Below wq1.heap.size wq1 wq26 := by rw [hwq26]; exact (Below.refl _ _).alloc (Nat.le_refl _) _
                  have gq26 : wq26.heap[wq1.heap.size]? = some (.cells #[.int .i64 la, .int .i64 lb] 2 (0, 0)) := by rw [hwq26]; exact heap_alloc_new _ _
                  clear hwq26
                  have FB_q27 := Lib.hid ((FB_q2.out).trans ((bq26).mono (Nat.le_trans HBW.out (FB_q2.out).size)))
                  have FH_q28 := Lib.hid (heldO_below (FH_q3.out) (bq26))
                  have FX_q29 := Lib.hid (((bq26).block _ (Array.getElem?_eq_some_iff.1 (FX_q4.out)).1).trans (FX_q4.out))
                  clear FB_q2 FH_q3 FX_q4
                  obtain ⟨gaq30, hgq30⟩ : ∃ b, wq1.heap.size = b := ⟨_, rfl⟩
                  have GB_q30 := Lib.hid gq26
                  rw [hgq30] at GB_q30 ⊢
                  clear hgq30 gq26 bq26
                  refine hK.out _ _ (HSX.out _ FB_q27.out) (fun hHeld => ?_)
                  clear hK K
                  (try simp only [Act.put, List.setIfInBounds_toArray, List.set_cons_zero, List.set_cons_succ, List.getElem_toArray, List.getElem_cons_succ, List.getElem_cons_zero])
                  refine wpAnyH_ready (rs := [10]) (by kernel_rfl) (by simp) ?_
                  refine AllReadyH.cons rfl (fun K hK => ?_) ?_
                  · go_simp
                    refine (HT2.out wq26 FB_q27.out gaq30 GB_q30.out).mono ?_
                    rintro e wq31 ⟨rfl, belq31⟩
                    dsimp only
                    have FB_q32 := Lib.hid ((FB_q27.out).trans ((belq31).mono (Nat.le_trans HBW.out (FB_q27.out).size)))
                    have FH_q33 := Lib.hid (heldO_below (FH_q28.out) (belq31))
                    have FX_q34 := Lib.hid (((belq31).block _ (Array.getElem?_eq_some_iff.1 (FX_q29.out)).1).trans (FX_q29.out))
                    have GB_q35 := Lib.hid (((belq31).block _ (Array.getElem?_eq_some_iff.1 (GB_q30.out)).1).trans (GB_q30.out))
                    clear FB_q27 FH_q28 FX_q29 GB_q30
                    clear belq31
                    refine hK.out _ _ (HSX.out _ FB_q32.out) (fun hHeld => ?_)
                    clear hK K
                    (try simp only [Act.put, List.setIfInBounds_toArray, List.set_cons_zero, List.set_cons_succ, List.getElem_toArray, List.getElem_cons_succ, List.getElem_cons_zero])
                    refine wpAnyH_take (i := 11) (v := ?vq36) rfl (by kernel_rfl) (by kernel_rfl) (by kernel_rfl) (fun _ _ _ h => h) (Or.inl ⟨by rfl, ?yq36⟩) (by assumption) ?_
                    case yq36 => (intro w hSw; (try dsimp only at hSw); go_simp; all_goals (with_reducible rfl))
                    (try simp only [Act.put, List.setIfInBounds_toArray, List.set_cons_zero, List.set_cons_succ, List.getElem_toArray, List.getElem_cons_succ, List.getElem_cons_zero])
                    refine wpAnyH_ready (rs := [15]) (by kernel_rfl) (by simp) ?_
                    refine AllReadyH.cons rfl (fun K hK => ?_) ?_
                    · go_simp
                      refine (line_any WT FH_q33.out (by omega) (Nat.le_trans HBW.out FB_q32.out.size)).mono ?_
                      rintro e w9 ⟨rfl, h9, bel9⟩
                      dsimp only
                      have H9 := Lib.hid h9
                      have HB9 := Lib.hid (FB_q32.out.trans bel9)
                      clear h9 bel9
                      refine hK.out _ _ (HSX.out _ HB9.out) (fun hHeld => ?_)
                      clear hK K
                      (try simp only [Act.put, List.setIfInBounds_toArray, List.set_cons_zero, List.set_cons_succ, List.getElem_toArray, List.getElem_cons_succ, List.getElem_cons_zero])
                      refine wpAnyH_done (by kernel_rfl) ?_ _
                      go_wp2
                      go_roundw
                      case rel => exact ⟨k + 1, by omega, by go_num, fun e => absurd e HNE.out, (by rw [← HCA.out]; exact H9.out), HB9.out⟩
                      case measure => simp [intOf]; omega
                    exact AllReadyH.nil
                  exact AllReadyH.nil
                exact AllReadyH.nil
              exact AllReadyH.nil
            exact AllReadyH.nil
          · have hd : (lk == 2) = false := by simpa using h2
            have HSU2 : Hid (cusN N (k + 1) = cusN N k) := Lib.hid (by rw [HSU.out, HNT.out h2, List.append_nil])
            clear h2
            go_upto_region 8 with (fail)
            rw [HBX.out, ← HU1.out]
            clear x0 x1 x2 x3
            go_wp2
            go_roundw
            case rel => exact ⟨k + 1, by omega, by go_num, (by rw [HSU2.out]; exact HE1.out), (by rw [HSU2.out]; exact H1.out), BL.out⟩
            case measure => simp [intOf]; omega
        · have hkl : k = N.l.length := by omega
          subst hkl
          have HE2 : Hid (noL N = [] → wr.heap[b]? = some (.cells #[.pointer none, .slice none 0 0] 115 (0, 0))) := Lib.hid hE
          have HH2 : Hid (Held B b (Lib.byteCells (noL N)) wr) := Lib.hid hH
          have HB2 := Lib.hid hBl
          clear hE hH hBl
          go_wp2
          go_end0
          exact ⟨rfl, HE2.out, HH2.out, HB2.out⟩
set_option maxRecDepth 100000 in
set_option maxHeartbeats 500000 in
theorem linesO_any (h : NH) (N : Nt) (bl : Nat) (w : World) (r : RdN w w.heap.size h N) (hv : valN N = true) (hw : LWords w)
    (hbx : w.heap[bl]? = some (.cells #[.slice h.A N.w.length h.c, .slice h.L N.l.length h.d, .slice h.C N.c.length h.e] 31 (0, 0))) :
    Calls Tryd.prog 68 #[.func (.func 69) #[] #[.pointer (some ⟨bl, 0, none⟩)]] w fun e w' => e = .returned (.string ⟨(noL N).toArray⟩) ∧ Below w.heap.size w w' := by
  have hbl : bl < w.heap.size := (Array.getElem?_eq_some_iff.1 hbx).1
  obtain ⟨w1, hw1⟩ : ∃ w1, w1 = w.alloc (.cells #[Value.pointer none, Value.slice none 0 0] 115) := ⟨_, rfl⟩
  have hb1 : Below w.heap.size w w1 := by rw [hw1]; exact (Below.refl _ _).alloc (Nat.le_refl _) _
  have p1 : w1.heap[w.heap.size]? = some (.cells #[Value.pointer none, Value.slice none 0 0] 115 (0, 0)) := by rw [hw1]; exact heap_alloc_new _ _
  have HLN := Lib.hid (no_lines h N w.heap.size bl w.heap.size w1 (r.below hb1) hv (hw.below hb1 hw.lt) hw.lt ((hb1.block bl hbl).trans hbx) hbl p1 (Nat.le_refl _))
  have HB1 := Lib.hid hb1
  generalize noL N = X at *
  clear r hw hbx hb1 p1
  go_enter Tryd.func68, Tryd.ntmps68
  go_wp2_with (fail)
  rw [← hw1]
  clear hw1
  refine HLN.out.mono ?_
  rintro e w2 ⟨rfl, he, hh, bel⟩
  have HB2 := Lib.hid (HB1.out.trans bel)
  have HS : Hid (Calls Tryd.prog 99 #[.pointer (some ⟨w.heap.size, 0, none⟩)] w2 fun e w' => e = .returned (.string ⟨X.toArray⟩) ∧ Below w.heap.size w2 w') := Lib.hid (by
    by_cases hX : X = []
    · subst hX
      exact (string_none (he rfl)).mono fun e w' q => ⟨q.1, q.2.mono HB2.out.size⟩
    · exact string_some hh hX)
  clear hh bel HLN he
  go_wp2_with (fail)
  refine HS.out.mono ?_
  rintro e w3 ⟨rfl, bel3⟩
  have HB3 := Lib.hid (HB2.out.trans bel3)
  clear bel3
  go_wp2
  go_ret
  exact ⟨rfl, HB3.out⟩
set_option maxRecDepth 100000 in
set_option maxHeartbeats 500000 in
theorem netOutline_impl (h : NH) (N : Nt) (w : World) (r : RdN w w.heap.size h N) (sm : SmallN N) (ht : Arit w) (hu : Dual w) (hw : LWords w) :
    Calls Tryd.prog 30 #[.agg #[.slice h.A N.w.length h.c, .slice h.L N.l.length h.d, .slice h.C N.c.length h.e]] w fun e w' => e = .returned (.string (noT N)) ∧ Below w.heap.size w w' := by
  obtain ⟨w0, hw0⟩ : ∃ w0, w0 = w.alloc (.cells #[.slice h.A N.w.length h.c, .slice h.L N.l.length h.d, .slice h.C N.c.length h.e] 31) := ⟨_, rfl⟩
  obtain ⟨hb, hh, hsz⟩ := box3_any w (.slice h.A N.w.length h.c) (.slice h.L N.l.length h.d) (.slice h.C N.c.length h.e) 31
  rw [← hw0] at hb hh hsz
  have hV := validNet_impl h N w0 ((r.below hb).more hb.size) sm (ht.below hb ht.lt) (hu.below hb hu.lt)
  have HL := Lib.hid (fun (hv : valN N = true) (wx : World) (hx : Below w0.heap.size w0 wx) => linesO_any h N w.heap.size wx (((r.below hb).more hb.size |>.below hx).more hx.size) hv ((hw.below hb hw.lt).below hx (Nat.lt_of_lt_of_le hw.lt hb.size)) ((hx.block _ (by omega)).trans hh))
  have HB0 := Lib.hid hb
  have hmf : ∀ (fn : Fn) (first cap : Array Value) (w : World), (Instr.makeFunc fn first cap).run Tryd.prog w = .ok (.func fn first cap) w := fun _ _ _ _ => rfl
  obtain ⟨y0, y1, y2⟩ := three_cells hh
  clear hb hh hsz r sm ht hu hw
  cases hv : valN N with
  | false =>
    have HE := Lib.hid (noT_no hv)
    rw [hv] at hV
    have HV := Lib.hid hV
    clear hv hV
    go_enter Tryd.func30, Tryd.ntmps30
    go_upto_region 1 with (fail)
    rw [← hw0]
    clear hw0
    go_wp2_with (fail)
    refine HV.out.mono ?_
    rintro e w1 ⟨rfl, bel⟩
    have HG := Lib.hid (HB0.out.trans (bel.mono HB0.out.size))
    clear bel y0 y1 y2
    go_wp2
    go_ret
    exact ⟨ret_sA HE.out.symm, HG.out⟩
  | true =>
    have HE := Lib.hid (noT_yes hv)
    rw [hv] at hV
    have HV := Lib.hid hV
    have HL1 := Lib.hid (HL.out hv)
    clear hv hV HL
    go_enter Tryd.func30, Tryd.ntmps30
    go_upto_region 1 with (fail)
    rw [← hw0]
    clear hw0
    go_wp2_with (fail)
    refine HV.out.mono ?_
    rintro e w1 ⟨rfl, bel⟩
    have HB1 := Lib.hid bel
    clear bel y0 y1 y2
    go_wp2_with (fail)
    refine (HL1.out _ HB1.out).mono ?_
    rintro e w2 ⟨rfl, bel⟩
    have HG := Lib.hid (HB0.out.trans ((HB1.out.trans (bel.mono HB1.out.size)).mono HB0.out.size))
    clear bel
    go_wp2
    go_ret
    exact ⟨ret_sA HE.out.symm, HG.out⟩
end Go.Proofs.YtfanapddopafiaaDoor
