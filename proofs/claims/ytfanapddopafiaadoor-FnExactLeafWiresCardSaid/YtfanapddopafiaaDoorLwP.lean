/- The program's LeafWires: the source of each wire; the leaves above a wire. Made by mklwp.py. -/
import Derived.Test.YtfanapddopafiaaDoorLwA
import Derived.Test.YtfanapddopafiaaDoorLxP
import Derived.Test.YtfanapddopafiaaDoorQPgJ
import Derived.Deep.RegionHeldLaw
import Derived.Deep.DeepCutAuto
import Derived.BigQuiet
namespace Go.Proofs.YtfanapddopafiaaDoor
set_option linter.unusedSimpArgs false
set_option linter.unusedVariables false
open Go.ChangeAt Go.ChangeShapes Go.RowKit Go.WideShapes

theorem grown_trans2 {a b c : World} {r : Option Nat} (h : a.grownBy b r) (h' : b.grownBy c r) : a.grownBy c r :=
  ⟨h'.os.trans h.os, h'.tape.trans h.tape, h'.output.trans h.output, Nat.le_trans h.size h'.size, fun k hk hr => (h'.block k (Nat.lt_of_lt_of_le hk h.size) hr).trans (h.block k hk hr)⟩
theorem grown_refl2 (w : World) (o : Option Nat) : w.grownBy w o := ⟨rfl, rfl, rfl, Nat.le_refl _, fun _ _ _ => rfl⟩
theorem two_ix {α : Nat → Prop} (h0 : α 0) (h1 : α 1) : ∀ i, i < 2 → α i := fun i hi => by
  have : i = 0 ∨ i = 1 := by omega
  rcases this with rfl | rfl
  · exact h0
  · exact h1
/-- Some row of links of the function's own that names each wire's source. -/
def GivesSrc (w : World) (N : Nt) (e : Ending) (w' : World) : Prop :=
  ∃ g d cur, e = .returned (.slice (some ⟨g, 0, none⟩) N.w.length d) ∧ SrcQ N cur N.l.length 0 ∧ w'.ownsRow w.heap.size 71 4 (.slice (some ⟨g, 0, none⟩) N.w.length d) N.w.length ((flL cur).map (Value.int .i64)) ∧ Below w.heap.size w w'
theorem made_links (w : World) (n : Nat) (hn : n ≤ 1048576) : (w.alloc (.cells (madeCells #[Value.int .i64 0, Value.int .i64 0, Value.int .i64 0, Value.int .i64 0] (n * 4)) 71)).ownsRow w.heap.size 71 4 (.slice (some ⟨w.heap.size, 0, none⟩) n n) n ((flL (List.replicate n Lk.nil)).map (Value.int .i64)) := by
  have hz : (madeCells #[Value.int .i64 0, Value.int .i64 0, Value.int .i64 0, Value.int .i64 0] (n * 4)).size = n * 4 := by simp [madeCells]
  have := own_lit (w := w) (base := w.heap.size) (n := n) (size := 4) (e := 71) (madeCells #[Value.int .i64 0, Value.int .i64 0, Value.int .i64 0, Value.int .i64 0] (n * 4)) (Nat.le_refl _) (by unfold maxLen; omega) hz
  rw [made4w, ← flL_roomw] at this
  exact this
theorem outL_at_in {N : Nt} (hv : valN N = true) {k t : Nat} (hk : k < N.l.length) (ht : t < (outL (N.l.getD k Lk.nil)).length) : inW N.w.length ((outL (N.l.getD k Lk.nil)).getD t 0) = true := by
  obtain ⟨h1, h2, h3, _⟩ := fitsN_yes (link_fits hv hk)
  exact (List.all_eq_true.1 (outL_in (Nat.le_refl _) h1 h2 h3)) _ (getL_mem ht)

/-- Each of the first k wires' source. -/
def SrcK (N : Nt) (cur : List Lk) (k : Nat) : Prop := cur.length = N.w.length ∧ ∀ x : Nat, x < k → cur.getD x Lk.nil = N.l.getD (lxN outL N (x : Int)).toNat Lk.nil
theorem SrcK.zero (N : Nt) : SrcK N (List.replicate N.w.length Lk.nil) 0 := ⟨by simp, fun x h => absurd h (by omega)⟩
theorem SrcK.step {N : Nt} {cur : List Lk} {k j : Nat} (h : SrcK N cur k) (hk : k < N.w.length) (ej : lxN outL N (k : Int) = (j : Int)) : SrcK N (cur.set k (N.l.getD j Lk.nil)) (k + 1) := by
  refine ⟨by rw [List.length_set]; exact h.1, fun x hx => ?_⟩
  by_cases e : x = k
  · subst e
    rw [ej, Int.toNat_natCast]
    have : x < cur.length := by rw [h.1]; exact hk
    simp [List.getD, this]
  · rw [← h.2 x (by omega)]
    generalize N.l.getD j Lk.nil = l
    simp only [List.getD]
    rw [List.getElem?_set_ne (fun q => e q.symm)]
theorem src_lx {N : Nt} (hv : valN N = true) {x : Nat} (hx : x < N.w.length) : ∃ j : Nat, j < N.l.length ∧ (x : Int) ∈ outL (N.l.getD j Lk.nil) ∧ lxN outL N (x : Int) = (j : Int) := by
  obtain ⟨k, hk⟩ := src_some hv (x := (x : Int)) (decide_eq_true (by omega))
  obtain ⟨hkl, hs⟩ := src_find hk
  have hm : (x : Int) ∈ outL (N.l.getD k Lk.nil) := by
    rw [srcB_is (fitsN_kind (link_fits hv hkl))] at hs
    exact of_decide_eq_true hs
  exact ⟨k, hkl, hm, lxN_yes (oneP_out hv) hx hkl hm⟩
theorem SrcK.all {N : Nt} {cur : List Lk} {n : Nat} (h : SrcK N cur n) (hv : valN N = true) (hn : N.w.length = n) : SrcQ N cur N.l.length 0 := by
  subst hn
  refine ⟨h.1, fun x j hx hj hc => ?_⟩
  rcases hc with ⟨_, hs⟩ | ⟨e, _⟩
  · have hm : (x : Int) ∈ outL (N.l.getD j Lk.nil) := by
      rw [srcB_is (fitsN_kind (link_fits hv hj))] at hs
      exact of_decide_eq_true hs
    rw [h.2 x hx, lxN_yes (oneP_out hv) hx hj hm, Int.toNat_natCast]
  · omega

set_option maxRecDepth 100000 in
set_option maxHeartbeats 4000000 in
theorem sourcesOf_any (h : NH) (N : Nt) (w : World) (hv : valN N = true) (r : RdN w w.heap.size h N) :
    Calls Tryd.prog 39 #[.agg #[.slice h.A N.w.length h.c, .slice h.L N.l.length h.d, .slice h.C N.c.length h.e]] w (GivesSrc w N) := by
  obtain ⟨h48, h48l⟩ := valN_size hv
  obtain ⟨i2, hi2, hz2, hs2, hb2⟩ := info_parts_link
  obtain ⟨n, hn⟩ : ∃ n, N.w.length = n := ⟨_, rfl⟩
  have hn48 : n ≤ 48 := by omega
  have mk2 : ∀ wx : World, (Instr.makeSlice 29 (.int .i64 (n : Nat)) (.int .i64 (n : Nat))).run Tryd.prog wx = .ok (.slice (some ⟨wx.heap.size, 0, none⟩) n n) (wx.alloc (.cells (madeCells #[Value.int .i64 0, Value.int .i64 0, Value.int .i64 0, Value.int .i64 0] (n * 4)) 71)) := fun wx => by
    have hr := run_make (P := Tryd.prog) wx 29 71 i2 (.agg #[Value.int .i64 0, Value.int .i64 0, Value.int .i64 0, Value.int .i64 0]) Tryd.underlying29 hi2 hz2 .i64 .i64 n n (by omega) (Int.le_refl _) (by rw [hb2]; omega) (by omega)
    simp only [Int.toNat_natCast, hs2] at hr
    exact hr
  clear hi2 hz2 hs2 hb2
  obtain ⟨w0, hw0⟩ : ∃ w0, w0 = w.alloc (.cells #[.slice h.A N.w.length h.c, .slice h.L N.l.length h.d, .slice h.C N.c.length h.e] 31) := ⟨_, rfl⟩
  obtain ⟨hb, hh, hsz⟩ := box3_any w (.slice h.A N.w.length h.c) (.slice h.L N.l.length h.d) (.slice h.C N.c.length h.e) 31
  rw [← hw0] at hb hh hsz
  have hown := made_links w0 n (by omega)
  have hb1 : Below w0.heap.size w0 (w0.alloc (.cells (madeCells #[Value.int .i64 0, Value.int .i64 0, Value.int .i64 0, Value.int .i64 0] (n * 4)) 71)) := (Below.refl _ _).alloc (Nat.le_refl _) _
  obtain ⟨g, hg⟩ : ∃ g, w0.heap.size = g := ⟨_, rfl⟩
  obtain ⟨C2, hC2⟩ : ∃ C, madeCells #[Value.int .i64 0, Value.int .i64 0, Value.int .i64 0, Value.int .i64 0] (n * 4) = C := ⟨_, rfl⟩
  rw [hC2] at mk2 hown hb1
  have HK := Lib.hid (fun (wx : World) (hx : Below w0.heap.size w0 wx) => three_cells ((hx.block w.heap.size (by omega)).trans hh))
  have HRL := Lib.hid (fun (wx : World) (hx : Below w0.heap.size w0 wx) => show RdN wx w0.heap.size h N from ((r.below hb).more (by omega)).below hx)
  have HB0 := Lib.hid hb
  have HM := Lib.hid mk2
  have hs0 : w.heap.size + 1 ≤ w0.heap.size := by omega
  obtain ⟨y0, y1, y2⟩ := HK.out _ (Below.refl _ w0)
  obtain ⟨w1, hw1⟩ : ∃ u, u = w0.alloc (.cells C2 71) := ⟨_, rfl⟩
  rw [← hw1] at hown hb1
  have HW1 := Lib.hid hw1
  rw [hg] at hown
  have HOW := Lib.hid hown; have HB1 := Lib.hid hb1
  have HZ := Lib.hid (SrcK.zero N)
  have HN := Lib.hid hn
  have HVT := Lib.hid hv
  have HGG := Lib.hid hg
  have HLO := Lib.hid (fun (wx : World) (hx : Below w0.heap.size w0 wx) => linksOut_any h N wx hv ((HRL.out wx hx).more hx.size))
  rw [hn] at y0
  clear hb hh hsz r hown hb1 hC2 hw1 hn hv
  go_enter Tryd.func39, Tryd.ntmps39
  go_upto_region 1 with (fail)
  rw [← hw0]
  clear hw0
  go_upto_region 2 with (fail)
  rw [← HW1.out]
  obtain ⟨k0, k1, k2⟩ := HK.out _ HB1.out
  clear y0 y1 y2 mk2
  go_wp2_with (fail)
  refine (HLO.out _ HB1.out).mono ?_
  rintro e w2 ⟨A2, c2, rfl, own2, bel2⟩
  have hg1 : g < w1.heap.size := (HOW.out.lt g rfl).2
  have R2 := Lib.hid (RdI.of_own own2)
  have HO2 := Lib.hid (fun b (e : Value.ownBlock (.slice A2 (lxL outL N).length c2) = some b) => (own2.lt b e).1)
  have HB2 := Lib.hid (HB1.out.trans (bel2.mono HB1.out.size))
  have OW2 := Lib.hid (own_below HOW.out bel2 (Nat.le_refl _))
  have hlx : (lxL outL N).length = n := by rw [lxL_len, HN.out]
  have HLX := Lib.hid hlx
  have HAT := Lib.hid (fun k (hk : k < n) => lxL_at outL N (show k < N.w.length by rw [HN.out]; exact hk))
  clear own2 bel2 k0 k1 k2 hlx
  rw [HLX.out] at R2 HO2 ⊢
  obtain ⟨k0, k1, k2⟩ := HK.out _ HB2.out
  go_wp2
  go_loopw [13] (fun i wr => ∃ (k : Nat) (cur : List Lk), k ≤ n ∧ i = .int .i64 k ∧ SrcK N cur k ∧ wr.ownsRow g 71 4 (.slice (some ⟨g, 0, none⟩) n n) n ((flL cur).map (Value.int .i64)) ∧ Below w0.heap.size w0 wr ∧ w2.grownBy wr (some g)) (fun i _ => n - (intOf i).toNat)
  case atStart => exact ⟨0, _, Nat.zero_le _, rfl, HZ.out, (by rw [HN.out]; exact OW2.out), HB2.out, grown_refl2 _ _⟩
  case round =>
    obtain ⟨k, cur, hk, rfl, hq, hown, hB, hgr⟩ := hrel
    clear k0 k1 k2
    by_cases hlt : k < n
    · obtain ⟨bo, offo, hA2, hbo, hco⟩ := R2.out.2 (by omega)
      subst hA2
      have hbog : w1.heap.size ≤ bo := HO2.out bo rfl
      have hx := (World.cell?_of_block (a := ⟨bo, offo + k, none⟩) (hgr.block bo hbo (fun e => by injection e with e; omega))).trans (hco k hlt)
      rw [HAT.out k hlt] at hx
      obtain ⟨j, hj, hmj, ej⟩ := src_lx HVT.out (show k < N.w.length by rw [HN.out]; exact hlt)
      rw [ej] at hx
      obtain ⟨b, off, hA, hbb, hcells⟩ := (HRL.out _ hB).2.1.at (show 0 < N.l.length by omega)
      obtain ⟨x0, x1, x2, x3⟩ := hcells j hj
      have hst := hq.step (show k < N.w.length by rw [HN.out]; exact hlt) ej
      obtain ⟨⟨lk, la, lb, lc⟩, hl⟩ : ∃ l, N.l.getD j Lk.nil = l := ⟨_, rfl⟩
      rw [hl] at x0 x1 x2 x3 hst
      dsimp only at x0 x1 x2 x3
      have hcl := hq.1
      rw [HN.out] at hcl
      have cl := fun t (ht : t < 4) => hown.cellAt (g := g) (k * 4 + t) (by omega)
      have hml : (List.map (Value.int .i64) (flL cur)).length = n * 4 := by rw [List.length_map, flL_len, hcl]
      have fr := fun t => hown.frozenAt (g := g) (k * 4 + t)
      obtain ⟨d0, e0⟩ : ∃ x, wr.cell? ⟨g, k * 4, none⟩ = some x := ⟨_, (cl 0 (by omega)).trans (List.getElem?_eq_getElem (show k * 4 + 0 < _ by rw [hml]; omega))⟩
      obtain ⟨d1, e1⟩ : ∃ x, wr.cell? ⟨g, k * 4 + 1, none⟩ = some x := ⟨_, (cl 1 (by omega)).trans (List.getElem?_eq_getElem (show k * 4 + 1 < _ by rw [hml]; omega))⟩
      obtain ⟨d2', e2'⟩ : ∃ x, wr.cell? ⟨g, k * 4 + 2, none⟩ = some x := ⟨_, (cl 2 (by omega)).trans (List.getElem?_eq_getElem (show k * 4 + 2 < _ by rw [hml]; omega))⟩
      obtain ⟨d3, e3'⟩ : ∃ x, wr.cell? ⟨g, k * 4 + 3, none⟩ = some x := ⟨_, (cl 3 (by omega)).trans (List.getElem?_eq_getElem (show k * 4 + 3 < _ by rw [hml]; omega))⟩
      have fr0 : wr.frozen? ⟨g, k * 4, none⟩ = false := fr 0
      have fr1 := fr 1; have fr2 := fr 2; have fr3 := fr 3
      obtain ⟨own5, gr5⟩ := four_own (o := k * 4) hown (.int .i64 lk) (.int .i64 la) (.int .i64 lb) (.int .i64 lc)
      rw [← flL_setw cur k ⟨lk, la, lb, lc⟩ (by omega)] at own5
      have OW5 := Lib.hid own5
      have GR5 := Lib.hid (grown_trans2 hgr gr5)
      have BB5 := Lib.hid (hB.grown gr5 (by have := hB.size; omega) (fun q hq => by injection hq with hq; omega))
      have ST5 := Lib.hid hst
      obtain ⟨k0, k1, k2⟩ := HK.out _ hB
      have hjl : (j : Int) < (N.l.length : Int) := by omega
      clear hco own5 gr5 hst hgr hB hown hq cl fr hml hcl hcells hl ej hmj
      obtain ⟨hAd, hcd, hhs, hL, hd, hC, he⟩ := h
      dsimp only at hA
      subst hA
      go_wp2
      go_roundw
      case rel => exact ⟨k + 1, _, by omega, by go_num, ST5.out, OW5.out, BB5.out, GR5.out⟩
      case measure => simp [intOf]; omega
    · have hkl : k = n := by omega
      subst hkl
      have HG : Hid (GivesSrc w N (.returned (.slice (some ⟨g, 0, none⟩) k k)) wr) := Lib.hid ⟨g, k, cur, by rw [HN.out], hq.all HVT.out (HN.out), by rw [HN.out]; exact hown.mono (by omega), HB0.out.trans (hB.mono HB0.out.size)⟩
      clear hq hown hB hgr
      go_wp2
      go_ret
      exact HG.out

set_option maxRecDepth 100000 in
set_option maxHeartbeats 4000000 in
theorem leavesAbove_step (N : Nt) (hv : valN N = true) (cur : List Lk) (hq : SrcQ N cur N.l.length 0) (A : Option Addr) (d : Nat) (x : Int) (w : World) (hx : inW N.w.length x = true) (r : RdL w w.heap.size A N.w.length cur)
    (IH : ∀ y, inW N.w.length y = true → wlen N y < wlen N x → ∀ w : World, RdL w w.heap.size A N.w.length cur → Calls Tryd.prog 40 #[.slice A N.w.length d, .int .i64 y] w (Gives w (lvT N y))) :
    Calls Tryd.prog 40 #[.slice A N.w.length d, .int .i64 x] w (Gives w (lvT N x)) := by
  obtain ⟨k, hk⟩ := src_some hv hx
  obtain ⟨hkl, hsb⟩ := src_find hk
  have hfit := link_fits hv hkl
  have hcx := hq.all hx hk
  obtain ⟨_, hix, ez⟩ := inW_yes hx
  obtain ⟨b, off, hA, hbb, hcells⟩ := r.at (by omega)
  obtain ⟨x0, x1, x2, x3⟩ := hcells x.toNat hix
  rw [hcx] at x0 x1 x2 x3
  have HNODE := Lib.hid (fun hq => lvT_node hv hk hq)
  have HLEAF := Lib.hid (fun hq => lvT_leaf (N := N) hk hq)
  have HLESS := Lib.hid (fun hq => src_less hfit hsb (src_kind hfit hsb hq))
  have HLN := Lib.hid (fun y (hy : inW N.w.length y = true) => And.intro (lvT_pos hv _ y (Nat.le_refl _) hy) (lvT_len hv _ y (Nat.le_refl _) hy))
  have hwx := (wlen_some hv hx).2
  have HIN := Lib.hid (And.intro (fitsN_yes hfit).1 (fitsN_yes hfit).2.1)
  have HIH := Lib.hid IH
  have HRL := Lib.hid (fun (wx : World) (hx : Below w.heap.size w wx) => show RdL wx wx.heap.size A N.w.length cur from (r.below hx).more hx.size)
  obtain ⟨⟨lk, la, lb, lc⟩, hl⟩ : ∃ l, N.l.getD k Lk.nil = l := ⟨_, rfl⟩
  rw [hl] at x0 x1 x2 x3 HNODE HLEAF HLESS HIN
  dsimp only at x0 x1 x2 x3 HNODE HLEAF HLESS HIN
  obtain ⟨w2, hw2⟩ : ∃ u, u = w.alloc (.cells #[.int .i64 lk, .int .i64 la, .int .i64 lb, .int .i64 lc] 71) := ⟨_, rfl⟩
  have b2 : Below w.heap.size w w2 := by rw [hw2]; exact (Below.refl _ _).alloc (Nat.le_refl _) _
  have p2 : w2.heap[w.heap.size]? = some (.cells #[.int .i64 lk, .int .i64 la, .int .i64 lb, .int .i64 lc] 71 (0, 0)) := by rw [hw2]; exact heap_alloc_new _ _
  have hs2 : w2.heap.size = w.heap.size + 1 := by rw [hw2]; simp
  have P2 := Lib.hid p2
  have B2 := Lib.hid b2
  obtain ⟨z0, z1, z2, z3⟩ := cells4 p2
  generalize hiz : x.toNat = iz at x0 x1 x2 x3 hix
  have hxz : x = (iz : Int) := by rw [← hiz]; exact ez
  subst hA
  clear hcells r IH hk hfit hl hsb b2 p2 hcx ez hiz hkl hq hbb hx
  subst hxz
  go_enter Tryd.func40, Tryd.ntmps40
  go_upto_region 2 with (fail)
  rw [← hw2]
  clear hw2 x0 x1 x2 x3
  have HW0 : Hid (w.heap.size = w.heap.size) := Lib.hid rfl
  obtain ⟨g, hg⟩ : ∃ g, w.heap.size = g := ⟨_, rfl⟩
  rw [hg] at z0 z1 z2 z3 hs2 ⊢
  have HGE := Lib.hid hg
  have HS2 := Lib.hid hs2
  clear hg hs2
  by_cases h1 : lk = 1
  · have HE := Lib.hid (HLEAF.out h1)
    subst h1
    have HOW := Lib.hid (own_lit (w := w2) (base := w2.heap.size) (n := 1) (size := 1) (e := 2) #[Value.int .i64 (iz : Int)] (Nat.le_refl _) (by decide) rfl)
    have HBB := Lib.hid (B2.out.alloc B2.out.size (.cells #[Value.int .i64 (iz : Int)] 2))
    have HSB := Lib.hid B2.out.size
    go_wp2
    go_ret
    exact ⟨_, _, by rw [HE.out]; rfl, by rw [HE.out]; exact HOW.out.mono (by have := HSB.out; omega), HBB.out⟩
  · have HE := Lib.hid (HNODE.out h1)
    have hls := HLESS.out h1
    have hd1 : (lk == 1) = false := by simpa using h1
    have IA := Lib.hid (HIH.out la HIN.out.1 (by omega))
    have IB := Lib.hid (HIH.out lb HIN.out.2 (by omega))
    obtain ⟨pa, sa⟩ := HLN.out la HIN.out.1
    obtain ⟨pb, sb⟩ := HLN.out lb HIN.out.2
    have HTT : Hid ((lvT N la).length + (lvT N lb).length ≤ 1000) := Lib.hid (by omega)
    have HPA := Lib.hid pa; have HPB := Lib.hid pb
    generalize hTA : lvT N la = TA at *
    generalize hTB : lvT N lb = TB at *
    have hsw := B2.out.size
    have HSW := Lib.hid hsw
    have HSX : Hid (∀ wx : World, Below w2.heap.size w2 wx → wx.cell? ⟨g, 1, none⟩ = some (.int .i64 la) ∧ wx.cell? ⟨g, 2, none⟩ = some (.int .i64 lb)) := Lib.hid fun wx hx => by
      obtain ⟨m0, m1, m2, m3⟩ := cells4 ((hx.block w.heap.size (by have q1 := HGE.out; have q2 := HS2.out; omega)).trans P2.out)
      rw [HGE.out] at m1 m2
      exact ⟨m1, m2⟩
    have HRX : Hid (∀ wx : World, Below w2.heap.size w2 wx → Below w.heap.size w wx) := Lib.hid fun wx hx => B2.out.trans (hx.mono HSW.out)
    clear pa pb sa sb hls h1 hTA hTB hwx hsw
    go_upto_region 4 with (fail)
    clear z0 z1 z2 z3
    have FB_0 := Lib.hid (Below.refl w2.heap.size w2)
    refine wp_region_held_drew (S := fun wx => wx.cell? ⟨g, 1, none⟩ = some (.int .i64 la) ∧ wx.cell? ⟨g, 2, none⟩ = some (.int .i64 lb)) (by kernel_rfl) (HSX.out _ (Below.refl _ _).drew) (fun hHeld => ?_)
    obtain ⟨wp1, hwp1⟩ : ∃ w', w' = w2.drew := ⟨_, rfl⟩
    rw [← hwp1] at hHeld ⊢
    have bp1 : Below w2.heap.size w2 wp1 := by rw [hwp1]; exact (Below.refl _ _).drew
    clear hwp1
    have FB_p2 := Lib.hid ((FB_0.out).trans ((bp1).mono (FB_0.out).size))
    clear FB_0
    refine wpAnyH_take (i := 0) (v := ?vp3) rfl (by kernel_rfl) (by kernel_rfl) (by kernel_rfl) (fun _ _ _ h => h) (Or.inl ⟨by rfl, ?yp3⟩) (by assumption) ?_
    case yp3 => (intro w hSw; (try dsimp only at hSw); go_simp; all_goals (with_reducible rfl))
    (try simp only [Act.put, List.setIfInBounds_toArray, List.set_cons_zero, List.set_cons_succ, List.getElem_toArray, List.getElem_cons_succ, List.getElem_cons_zero])
    refine wpAnyH_take (i := 1) (v := ?vp4) rfl (by kernel_rfl) (by kernel_rfl) (by kernel_rfl) (fun _ _ _ h => h) (Or.inl ⟨by rfl, ?yp4⟩) (by assumption) ?_
    case yp4 => (intro w hSw; (try dsimp only at hSw); go_simp; all_goals (with_reducible rfl))
    (try simp only [Act.put, List.setIfInBounds_toArray, List.set_cons_zero, List.set_cons_succ, List.getElem_toArray, List.getElem_cons_succ, List.getElem_cons_zero])
    refine wpAnyH_take (i := 4) (v := ?vp5) rfl (by kernel_rfl) (by kernel_rfl) (by kernel_rfl) (fun _ _ _ h => h) (Or.inl ⟨by rfl, ?yp5⟩) (by assumption) ?_
    case yp5 => (intro w hSw; (try dsimp only at hSw); go_simp; all_goals (with_reducible rfl))
    (try simp only [Act.put, List.setIfInBounds_toArray, List.set_cons_zero, List.set_cons_succ, List.getElem_toArray, List.getElem_cons_succ, List.getElem_cons_zero])
    refine wpAnyH_take (i := 5) (v := ?vp6) rfl (by kernel_rfl) (by kernel_rfl) (by kernel_rfl) (fun _ _ _ h => h) (Or.inl ⟨by rfl, ?yp6⟩) (by assumption) ?_
    case yp6 => (intro w hSw; (try dsimp only at hSw); go_simp; all_goals (with_reducible rfl))
    (try simp only [Act.put, List.setIfInBounds_toArray, List.set_cons_zero, List.set_cons_succ, List.getElem_toArray, List.getElem_cons_succ, List.getElem_cons_zero])
    refine wpAnyH_take (i := 2) (v := ?vp7) rfl (by kernel_rfl) (by kernel_rfl) (by kernel_rfl) (fun _ _ _ h => h) (Or.inl ⟨by rfl, ?yp7⟩) (by assumption) ?_
    case yp7 => (intro w hSw; (try dsimp only at hSw); go_simp; all_goals (with_reducible rfl))
    (try simp only [Act.put, List.setIfInBounds_toArray, List.set_cons_zero, List.set_cons_succ, List.getElem_toArray, List.getElem_cons_succ, List.getElem_cons_zero])
    refine wpAnyH_take (i := 6) (v := ?vp8) rfl (by kernel_rfl) (by kernel_rfl) (by kernel_rfl) (fun _ _ _ h => h) (Or.inl ⟨by rfl, ?yp8⟩) (by assumption) ?_
    case yp8 => (intro w hSw; (try dsimp only at hSw); go_simp; all_goals (with_reducible rfl))
    (try simp only [Act.put, List.setIfInBounds_toArray, List.set_cons_zero, List.set_cons_succ, List.getElem_toArray, List.getElem_cons_succ, List.getElem_cons_zero])
    refine wpAnyH_ready (rs := [3]) (by kernel_rfl) (by simp) ?_
    refine AllReadyH.cons rfl (fun K hK => ?_) ?_
    · go_simp
      refine (IA.out wp1 (HRL.out _ (HRX.out _ FB_p2.out))).mono ?_
      rintro e wp9 ⟨uA, uc, rfl, ownp9, belp9⟩
      dsimp only
      have FB_p10 := Lib.hid ((FB_p2.out).trans ((belp9).mono (FB_p2.out).size))
      clear FB_p2
      have OA_p9 := Lib.hid ownp9
      clear ownp9 belp9
      refine hK.out _ _ (HSX.out _ FB_p10.out) (fun hHeld => ?_)
      clear hK K
      (try simp only [Act.put, List.setIfInBounds_toArray, List.set_cons_zero, List.set_cons_succ, List.getElem_toArray, List.getElem_cons_succ, List.getElem_cons_zero])
      refine wpAnyH_ready (rs := [7]) (by kernel_rfl) (by simp) ?_
      refine AllReadyH.cons rfl (fun K hK => ?_) ?_
      · go_simp
        refine (IB.out wp9 (HRL.out _ (HRX.out _ FB_p10.out))).mono ?_
        rintro e wp11 ⟨vA, vc, rfl, ownp11, belp11⟩
        dsimp only
        have FB_p12 := Lib.hid ((FB_p10.out).trans ((belp11).mono (FB_p10.out).size))
        have OA_p13 := Lib.hid (own_below (OA_p9.out) (belp11) (Nat.le_refl _))
        clear FB_p10 OA_p9
        have OB_p11 := Lib.hid ownp11
        clear ownp11 belp11
        refine hK.out _ _ (HSX.out _ FB_p12.out) (fun hHeld => ?_)
        clear hK K
        (try simp only [Act.put, List.setIfInBounds_toArray, List.set_cons_zero, List.set_cons_succ, List.getElem_toArray, List.getElem_cons_succ, List.getElem_cons_zero])
        refine wpAnyH_ready (rs := [8]) (by kernel_rfl) (by simp) ?_
        refine AllReadyH.cons rfl (fun K hK => ?_) ?_
        · go_simp
          obtain ⟨wp14, hwp14⟩ : ∃ w', w' = wp11.alloc (.cells #[.slice uA TA.length uc, .slice vA TB.length vc] 24) := ⟨_, rfl⟩
          rw [← hwp14]
          have bp14 : Below wp11.heap.size wp11 wp14 := by rw [hwp14]; exact (Below.refl _ _).alloc (Nat.le_refl _) _
          have gp14 : wp14.heap[wp11.heap.size]? = some (.cells #[.slice uA TA.length uc, .slice vA TB.length vc] 24 (0, 0)) := by rw [hwp14]; exact heap_alloc_new _ _
          clear hwp14
          have FB_p15 := Lib.hid ((FB_p12.out).trans ((bp14).mono (FB_p12.out).size))
          have OA_p16 := Lib.hid (own_below (OA_p13.out) (bp14) (Nat.le_refl _))
          have OB_p17 := Lib.hid (own_below (OB_p11.out) (bp14) (Nat.le_refl _))
          clear FB_p12 OA_p13 OB_p11
          obtain ⟨gbp18, hgp18⟩ : ∃ b, wp11.heap.size = b := ⟨_, rfl⟩
          have GB_p18 := Lib.hid gp14
          rw [hgp18] at GB_p18 ⊢
          clear hgp18 gp14 bp14
          refine hK.out _ _ (HSX.out _ FB_p15.out) (fun hHeld => ?_)
          clear hK K
          (try simp only [Act.put, List.setIfInBounds_toArray, List.set_cons_zero, List.set_cons_succ, List.getElem_toArray, List.getElem_cons_succ, List.getElem_cons_zero])
          refine wpAnyH_ready (rs := [9]) (by kernel_rfl) (by simp) ?_
          refine AllReadyH.cons rfl (fun K hK => ?_) ?_
          · go_simp
            have hpa := Part.of_rd (c := uc) (RdI.of_own OA_p16.out) HPA.out
            have hpb := Part.of_rd (c := vc) (RdI.of_own OB_p17.out) HPB.out
            have hgs := (Array.getElem?_eq_some_iff.1 GB_p18.out).1
            have c0 := cell_of_row _ _ 0 _ _ (0, 0) GB_p18.out; have c1 := cell_of_row _ _ 1 _ _ (0, 0) GB_p18.out
            refine (concat_any gbp18 2 2 [.slice uA TA.length uc, .slice vA TB.length vc] [TA, TB] wp14 rfl (by decide) (by decide) (two_ix c0 c1) hgs (two_ix hpa hpb) (by have := HTT.out; simpa using this)).mono ?_
            rintro e w9 ⟨A9, c9, rfl, own9, bel9⟩
            dsimp only
            clear hpa hpb c0 c1 hgs
            have e9 : [TA, TB].flatten.length = TA.length + TB.length := by simp
            rw [e9] at own9
            have HGG : Hid (Gives w (lvT N (iz : Int)) (.returned (.slice A9 (TA.length + TB.length) c9)) w9) := Lib.hid (gives_of own9 e9.symm (by rw [HE.out]; simp) (Nat.le_trans HSW.out FB_p15.out.size) ((HRX.out _ FB_p15.out).trans (bel9.mono (Nat.le_trans HSW.out FB_p15.out.size))))
            have FB_9 := Lib.hid (FB_p15.out.trans (bel9.mono FB_p15.out.size))
            clear own9 bel9
            refine hK.out _ _ (HSX.out _ FB_9.out) (fun hHeld => ?_)
            clear hK K
            (try simp only [Act.put, List.setIfInBounds_toArray, List.set_cons_zero, List.set_cons_succ, List.getElem_toArray, List.getElem_cons_succ, List.getElem_cons_zero])
            refine wpAnyH_ready (rs := [10]) (by kernel_rfl) (by simp) ?_
            refine AllReadyH.cons rfl (fun K hK => ?_) ?_
            · go_simp
              refine hK.out _ _ hHeld (fun hHeld => ?_)
              clear hK K
              (try simp only [Act.put, List.setIfInBounds_toArray, List.set_cons_zero, List.set_cons_succ, List.getElem_toArray, List.getElem_cons_succ, List.getElem_cons_zero])
              refine wpAnyH_done (by kernel_rfl) ?_ _
              go_wp2
              go_ret
              exact HGG.out
            exact AllReadyH.nil
          exact AllReadyH.nil
        exact AllReadyH.nil
      exact AllReadyH.nil
    exact AllReadyH.nil
theorem leavesAbove_any (N : Nt) (hv : valN N = true) (cur : List Lk) (hq : SrcQ N cur N.l.length 0) (A : Option Addr) (d : Nat) : ∀ (n : Nat) (x : Int), wlen N x ≤ n → inW N.w.length x = true → ∀ w : World, RdL w w.heap.size A N.w.length cur → Calls Tryd.prog 40 #[.slice A N.w.length d, .int .i64 x] w (Gives w (lvT N x))
  | n, x, hn, hx, w, r => leavesAbove_step N hv cur hq A d x w hx r (fun y hy hlt w r => leavesAbove_any N hv cur hq A d (n - 1) y (by omega) hy w r)
  termination_by n x hn hx => wlen N x
  decreasing_by all_goals omega
end Go.Proofs.YtfanapddopafiaaDoor
