/- The program's LeafWires: the source of each wire; the leaves above a wire. Made by mklwp.py. -/
import Derived.Test.YtnomackljlnehaaDoorLwA
import Derived.Test.YtnomackljlnehaaDoorPgJ
import Derived.Deep.RegionHeldLaw
import Derived.Deep.DeepCutAuto
import Derived.BigQuiet
namespace Go.Proofs.YtnomackljlnehaaDoor
set_option linter.unusedSimpArgs false
set_option linter.unusedVariables false
open Go.ChangeAt Go.ChangeShapes Go.RowKit Go.WideShapes

theorem grown_trans2 {a b c : World} {r : Option Nat} (h : a.grownBy b r) (h' : b.grownBy c r) : a.grownBy c r :=
  ⟨h'.os.trans h.os, h'.tape.trans h.tape, h'.output.trans h.output, Nat.le_trans h.size h'.size, fun k hk hr => (h'.block k (Nat.lt_of_lt_of_le hk h.size) hr).trans (h.block k hk hr)⟩
theorem grown_refl2 (w : World) (o : Option Nat) : w.grownBy w o := ⟨rfl, rfl, rfl, Nat.le_refl _, fun _ _ _ => rfl⟩
theorem two_ix {α : Nat → Prop} (h0 : α 0) (h1 : α 1) : ∀ i, i < 2 → α i := fun i hi => by
  have : i = 0 ∨ i = 1 := by omega
  rcases this with rfl | rfl
  · exact h0
  · exact h1
/-- Some row of links of the function's own that names each wire's source. -/
def GivesSrc (w : World) (N : Nt) (e : Ending) (w' : World) : Prop :=
  ∃ g d cur, e = .returned (.slice (some ⟨g, 0, none⟩) N.w.length d) ∧ SrcQ N cur N.l.length 0 ∧ w'.ownsRow w.heap.size 69 4 (.slice (some ⟨g, 0, none⟩) N.w.length d) N.w.length ((flL cur).map (Value.int .i64)) ∧ Below w.heap.size w w'
theorem made_links (w : World) (n : Nat) (hn : n ≤ 1048576) : (w.alloc (.cells (madeCells #[Value.int .i64 0, Value.int .i64 0, Value.int .i64 0, Value.int .i64 0] (n * 4)) 69)).ownsRow w.heap.size 69 4 (.slice (some ⟨w.heap.size, 0, none⟩) n n) n ((flL (List.replicate n Lk.nil)).map (Value.int .i64)) := by
  have hz : (madeCells #[Value.int .i64 0, Value.int .i64 0, Value.int .i64 0, Value.int .i64 0] (n * 4)).size = n * 4 := by simp [madeCells]
  have := own_lit (w := w) (base := w.heap.size) (n := n) (size := 4) (e := 69) (madeCells #[Value.int .i64 0, Value.int .i64 0, Value.int .i64 0, Value.int .i64 0] (n * 4)) (Nat.le_refl _) (by unfold maxLen; omega) hz
  rw [made4w, ← flL_roomw] at this
  exact this
theorem outL_at_in {N : Nt} (hv : valN N = true) {k t : Nat} (hk : k < N.l.length) (ht : t < (outL (N.l.getD k Lk.nil)).length) : inW N.w.length ((outL (N.l.getD k Lk.nil)).getD t 0) = true := by
  obtain ⟨h1, h2, h3, _⟩ := fitsN_yes (link_fits hv hk)
  exact (List.all_eq_true.1 (outL_in (Nat.le_refl _) h1 h2 h3)) _ (getL_mem ht)

set_option maxRecDepth 100000 in
set_option maxHeartbeats 4000000 in
theorem sourcesOf_any (h : NH) (N : Nt) (w : World) (hv : valN N = true) (r : RdN w w.heap.size h N) :
    Calls Tryd.prog 45 #[.agg #[.slice h.A N.w.length h.c, .slice h.L N.l.length h.d, .slice h.C N.c.length h.e]] w (GivesSrc w N) := by
  obtain ⟨h48, h48l⟩ := valN_size hv
  obtain ⟨i2, hi2, hz2, hs2, hb2⟩ := info_parts_link
  obtain ⟨n, hn⟩ : ∃ n, N.w.length = n := ⟨_, rfl⟩
  have hn48 : n ≤ 48 := by omega
  have mk2 : ∀ wx : World, (Instr.makeSlice 29 (.int .i64 (n : Nat)) (.int .i64 (n : Nat))).run Tryd.prog wx = .ok (.slice (some ⟨wx.heap.size, 0, none⟩) n n) (wx.alloc (.cells (madeCells #[Value.int .i64 0, Value.int .i64 0, Value.int .i64 0, Value.int .i64 0] (n * 4)) 69)) := fun wx => by
    have hr := run_make (P := Tryd.prog) wx 29 69 i2 (.agg #[Value.int .i64 0, Value.int .i64 0, Value.int .i64 0, Value.int .i64 0]) Tryd.underlying29 hi2 hz2 .i64 .i64 n n (by omega) (Int.le_refl _) (by rw [hb2]; omega) (by omega)
    simp only [Int.toNat_natCast, hs2] at hr
    exact hr
  clear hi2 hz2 hs2 hb2
  obtain ⟨w0, hw0⟩ : ∃ w0, w0 = w.alloc (.cells #[.slice h.A N.w.length h.c, .slice h.L N.l.length h.d, .slice h.C N.c.length h.e] 31) := ⟨_, rfl⟩
  obtain ⟨hb, hh, hsz⟩ := box3_any w (.slice h.A N.w.length h.c) (.slice h.L N.l.length h.d) (.slice h.C N.c.length h.e) 31
  rw [← hw0] at hb hh hsz
  have hown := made_links w0 n (by omega)
  have hb1 : Below w0.heap.size w0 (w0.alloc (.cells (madeCells #[Value.int .i64 0, Value.int .i64 0, Value.int .i64 0, Value.int .i64 0] (n * 4)) 69)) := (Below.refl _ _).alloc (Nat.le_refl _) _
  obtain ⟨g, hg⟩ : ∃ g, w0.heap.size = g := ⟨_, rfl⟩
  obtain ⟨C2, hC2⟩ : ∃ C, madeCells #[Value.int .i64 0, Value.int .i64 0, Value.int .i64 0, Value.int .i64 0] (n * 4) = C := ⟨_, rfl⟩
  rw [hC2] at mk2 hown hb1
  have HK := Lib.hid (fun (wx : World) (hx : Below w0.heap.size w0 wx) => three_cells ((hx.block w.heap.size (by omega)).trans hh))
  have HRL := Lib.hid (fun (wx : World) (hx : Below w0.heap.size w0 wx) => show RdN wx w0.heap.size h N from ((r.below hb).more (by omega)).below hx)
  have HB0 := Lib.hid hb
  have HM := Lib.hid mk2
  have hs0 : w.heap.size + 1 ≤ w0.heap.size := by omega
  obtain ⟨y0, y1, y2⟩ := HK.out _ (Below.refl _ w0)
  obtain ⟨w1, hw1⟩ : ∃ u, u = w0.alloc (.cells C2 69) := ⟨_, rfl⟩
  rw [← hw1] at hown hb1
  have HW1 := Lib.hid hw1
  rw [hg] at hown
  have HOW := Lib.hid hown; have HB1 := Lib.hid hb1
  have HZ := Lib.hid (SrcQ.zero N)
  have HN := Lib.hid hn
  have HVT := Lib.hid hv
  have HGG := Lib.hid hg
  rw [hn] at y0
  clear hb hh hsz r hown hb1 hC2 hw1 hn hv
  go_enter Tryd.func45, Tryd.ntmps45
  go_upto_region 1 with (fail)
  rw [← hw0]
  clear hw0
  go_upto_region 2 with (fail)
  rw [← HW1.out]
  obtain ⟨k0, k1, k2⟩ := HK.out _ HB1.out
  clear y0 y1 y2 mk2
  go_wp2
  go_loopw [15] (fun i wr => ∃ (k : Nat) (cur : List Lk), k ≤ N.l.length ∧ i = .int .i64 k ∧ SrcQ N cur k 0 ∧ wr.ownsRow g 69 4 (.slice (some ⟨g, 0, none⟩) n n) n ((flL cur).map (Value.int .i64)) ∧ Below w0.heap.size w0 wr) (fun i _ => N.l.length - (intOf i).toNat)
  case atStart => exact ⟨0, _, Nat.zero_le _, rfl, HZ.out, (by rw [HN.out]; exact HOW.out), HB1.out⟩
  case round =>
    obtain ⟨k, cur, hk, rfl, hq, hown, hB⟩ := hrel
    clear k0 k1 k2
    by_cases hlt : k < N.l.length
    · obtain ⟨b, off, hA, hbb, hcells⟩ := (HRL.out _ hB).2.1.at (show 0 < N.l.length by omega)
      obtain ⟨x0, x1, x2, x3⟩ := hcells k hlt
      have hsr := hB.size
      have HOI := Lib.hid (fun t (ht : t < (outL (N.l.getD k Lk.nil)).length) => outL_at_in HVT.out hlt ht)
      have HST := Lib.hid (fun (cur : List Lk) m (hq : SrcQ N cur k m) hm => hq.step HVT.out hlt hm (HOI.out m hm))
      have HNX := Lib.hid (fun (cur : List Lk) (hq : SrcQ N cur k (outL (N.l.getD k Lk.nil)).length) => hq.next HVT.out hlt)
      have hol := outL_len (N.l.getD k Lk.nil)
      obtain ⟨⟨lk, la, lb, lc⟩, hl⟩ : ∃ l, N.l.getD k Lk.nil = l := ⟨_, rfl⟩
      rw [hl] at x0 x1 x2 x3 HOI HST HNX hol
      dsimp only at x0 x1 x2 x3
      obtain ⟨bl, z0, z1, z2, z3, zs⟩ := lnk_any wr ⟨lk, la, lb, lc⟩ 69
      dsimp only at bl z0 z1 z2 z3
      obtain ⟨u1, hu1⟩ : ∃ u1, u1 = wr.alloc (.cells #[.int .i64 lk, .int .i64 la, .int .i64 lb, .int .i64 lc] 69) := ⟨_, rfl⟩
      have p1 : u1.heap[wr.heap.size]? = some (.cells #[.int .i64 lk, .int .i64 la, .int .i64 lb, .int .i64 lc] 69 (0, 0)) := by rw [hu1]; exact heap_alloc_new _ _
      have HU1 := Lib.hid hu1
      rw [← hu1] at bl zs z0 z1 z2 z3
      have BL := Lib.hid (hB.trans (bl.mono hsr))
      have OW := Lib.hid (own_below hown bl (Nat.le_refl _))
      have HQ0 := Lib.hid hq
      have P1 := Lib.hid p1
      have hgw : g < wr.heap.size := (hown.lt g rfl).2
      obtain ⟨bx, hbx⟩ : ∃ bx, wr.heap.size = bx := ⟨_, rfl⟩
      have HBX := Lib.hid hbx
      rw [hbx] at z0 z1 z2 z3 P1 hgw
      clear hcells hB bl hl hown hq hu1 p1
      obtain ⟨hAd, hcd, hhs, hL, hd, hC, he⟩ := h
      dsimp only at hA
      subst hA
      go_wp2_with (fail)
      rw [← HU1.out]
      clear x0 x1 x2 x3 HU1
      refine (show Calls Tryd.prog 88 #[.agg #[.int .i64 lk, .int .i64 la, .int .i64 lb, .int .i64 lc]] u1 (Gives u1 (outL ⟨lk, la, lb, lc⟩)) from outputsOf_any ⟨lk, la, lb, lc⟩ u1).mono ?_
      rintro e u2 ⟨A2, c2, rfl, o2, b2⟩
      have BL2 := Lib.hid (BL.out.trans (b2.mono BL.out.size))
      have OW2 := Lib.hid (own_below OW.out b2 (Nat.le_refl _))
      have R2 := Lib.hid (RdI.of_own o2)
      have hs12 := b2.size
      have hbu : bx < u1.heap.size := by omega
      have P2 := Lib.hid ((b2.block bx hbu).trans P1.out)
      have ho2 := o2.lt
      have HO2 := Lib.hid (fun b (e : Value.ownBlock (.slice A2 (outL ⟨lk, la, lb, lc⟩).length c2) = some b) => (o2.lt b e).1)
      have hul := BL2.out.size
      clear o2 b2 z0 z1 z2 z3 ho2
      generalize outL ⟨lk, la, lb, lc⟩ = X at *
      go_wp2
      go_loopw [22] (fun i wx => ∃ (m : Nat) (cur : List Lk), m ≤ X.length ∧ i = .int .i64 m ∧ SrcQ N cur k m ∧ wx.ownsRow g 69 4 (.slice (some ⟨g, 0, none⟩) n n) n ((flL cur).map (Value.int .i64)) ∧ Below w0.heap.size w0 wx ∧ u2.grownBy wx (some g)) (fun i _ => X.length - (intOf i).toNat)
      case atStart => exact ⟨0, cur, Nat.zero_le _, rfl, HQ0.out, OW2.out, BL2.out, grown_refl2 _ _⟩
      case round =>
        obtain ⟨m, cm, hm, rfl, hq, hown, hB, hgr⟩ := hrel
        have hcb := cells4 ((hgr.block bx (by omega) (fun e => by injection e with e; omega)).trans P2.out)
        obtain ⟨z0, z1, z2, z3⟩ := hcb
        by_cases hlm : m < X.length
        · obtain ⟨bo, offo, hA2, hbo, hco⟩ := R2.out.2 (by omega)
          subst hA2
          have hbog : u1.heap.size ≤ bo := HO2.out bo rfl
          have hx := (World.cell?_of_block (a := ⟨bo, offo + m, none⟩) (hgr.block bo hbo (fun e => by injection e with e; omega))).trans (hco m hlm)
          have hin := HOI.out m hlm
          have hst := HST.out cm m hq hlm
          obtain ⟨z, hz⟩ : ∃ z, X.getD m 0 = z := ⟨_, rfl⟩
          rw [hz] at hx hin hst
          obtain ⟨_, hix, ez⟩ := inW_yes hin
          rw [HN.out] at hix
          have hcl := hq.1
          rw [HN.out] at hcl
          have cl := fun t (ht : t < 4) => hown.cellAt (g := g) (z.toNat * 4 + t) (by omega)
          have hml : (List.map (Value.int .i64) (flL cm)).length = n * 4 := by rw [List.length_map, flL_len, hcl]
          have fr := fun t => hown.frozenAt (g := g) (z.toNat * 4 + t)
          obtain ⟨d0, e0⟩ : ∃ x, wr.cell? ⟨g, z.toNat * 4, none⟩ = some x := ⟨_, (cl 0 (by omega)).trans (List.getElem?_eq_getElem (show z.toNat * 4 + 0 < _ by rw [hml]; omega))⟩
          obtain ⟨d1, e1⟩ : ∃ x, wr.cell? ⟨g, z.toNat * 4 + 1, none⟩ = some x := ⟨_, (cl 1 (by omega)).trans (List.getElem?_eq_getElem (show z.toNat * 4 + 1 < _ by rw [hml]; omega))⟩
          obtain ⟨d2', e2'⟩ : ∃ x, wr.cell? ⟨g, z.toNat * 4 + 2, none⟩ = some x := ⟨_, (cl 2 (by omega)).trans (List.getElem?_eq_getElem (show z.toNat * 4 + 2 < _ by rw [hml]; omega))⟩
          obtain ⟨d3, e3'⟩ : ∃ x, wr.cell? ⟨g, z.toNat * 4 + 3, none⟩ = some x := ⟨_, (cl 3 (by omega)).trans (List.getElem?_eq_getElem (show z.toNat * 4 + 3 < _ by rw [hml]; omega))⟩
          have fr0 : wr.frozen? ⟨g, z.toNat * 4, none⟩ = false := fr 0
          have fr1 := fr 1; have fr2 := fr 2; have fr3 := fr 3
          obtain ⟨own5, gr5⟩ := four_own (o := z.toNat * 4) hown (.int .i64 lk) (.int .i64 la) (.int .i64 lb) (.int .i64 lc)
          rw [← flL_setw cm z.toNat ⟨lk, la, lb, lc⟩ (by omega)] at own5
          have OW5 := Lib.hid own5
          have GR5 := Lib.hid (grown_trans2 hgr gr5)
          have BB5 := Lib.hid (hB.grown gr5 (by have := hB.size; omega) (fun q hq => by injection hq with hq; omega))
          have ST5 := Lib.hid hst
          generalize z.toNat = iz at *
          subst ez
          have hizn : (iz : Int) < (n : Int) := by omega
          clear hco own5 gr5 hst hgr hB hown hq cl fr hml hcl hz hin
          go_wp2
          go_roundw
          case rel => exact ⟨m + 1, _, by omega, by go_num, ST5.out, OW5.out, BB5.out, GR5.out⟩
          case measure => simp [intOf]; omega
        · have hmx : m = X.length := by omega
          subst hmx
          have HNN := Lib.hid (HNX.out cm hq)
          have OW6 := Lib.hid hown; have BB6 := Lib.hid hB
          clear hq hown hB hgr z0 z1 z2 z3
          go_wp2
          go_roundw
          case rel => exact ⟨k + 1, _, by omega, by go_num, HNN.out, OW6.out, BB6.out⟩
          case measure => simp [intOf]; omega
    · have hkl : k = N.l.length := by omega
      subst hkl
      have HG : Hid (GivesSrc w N (.returned (.slice (some ⟨g, 0, none⟩) n n)) wr) := Lib.hid ⟨g, n, cur, by rw [HN.out], hq, by rw [HN.out]; exact hown.mono (by omega), HB0.out.trans (hB.mono HB0.out.size)⟩
      clear hq hown hB
      go_wp2
      go_ret
      exact HG.out

set_option maxRecDepth 100000 in
set_option maxHeartbeats 4000000 in
theorem leavesAbove_step (N : Nt) (hv : valN N = true) (cur : List Lk) (hq : SrcQ N cur N.l.length 0) (A : Option Addr) (d : Nat) (x : Int) (w : World) (hx : inW N.w.length x = true) (r : RdL w w.heap.size A N.w.length cur)
    (IH : ∀ y, inW N.w.length y = true → wlen N y < wlen N x → ∀ w : World, RdL w w.heap.size A N.w.length cur → Calls Tryd.prog 46 #[.slice A N.w.length d, .int .i64 y] w (Gives w (lvT N y))) :
    Calls Tryd.prog 46 #[.slice A N.w.length d, .int .i64 x] w (Gives w (lvT N x)) := by
  obtain ⟨k, hk⟩ := src_some hv hx
  obtain ⟨hkl, hsb⟩ := src_find hk
  have hfit := link_fits hv hkl
  have hcx := hq.all hx hk
  obtain ⟨_, hix, ez⟩ := inW_yes hx
  obtain ⟨b, off, hA, hbb, hcells⟩ := r.at (by omega)
  obtain ⟨x0, x1, x2, x3⟩ := hcells x.toNat hix
  rw [hcx] at x0 x1 x2 x3
  have HNODE := Lib.hid (fun hq => lvT_node hv hk hq)
  have HLEAF := Lib.hid (fun hq => lvT_leaf (N := N) hk hq)
  have HLESS := Lib.hid (fun hq => src_less hfit hsb (src_kind hfit hsb hq))
  have HLN := Lib.hid (fun y (hy : inW N.w.length y = true) => And.intro (lvT_pos hv _ y (Nat.le_refl _) hy) (lvT_len hv _ y (Nat.le_refl _) hy))
  have hwx := (wlen_some hv hx).2
  have HIN := Lib.hid (And.intro (fitsN_yes hfit).1 (fitsN_yes hfit).2.1)
  have HIH := Lib.hid IH
  have HRL := Lib.hid (fun (wx : World) (hx : Below w.heap.size w wx) => show RdL wx wx.heap.size A N.w.length cur from (r.below hx).more hx.size)
  obtain ⟨⟨lk, la, lb, lc⟩, hl⟩ : ∃ l, N.l.getD k Lk.nil = l := ⟨_, rfl⟩
  rw [hl] at x0 x1 x2 x3 HNODE HLEAF HLESS HIN
  dsimp only at x0 x1 x2 x3 HNODE HLEAF HLESS HIN
  obtain ⟨w2, hw2⟩ : ∃ u, u = w.alloc (.cells #[.int .i64 lk, .int .i64 la, .int .i64 lb, .int .i64 lc] 69) := ⟨_, rfl⟩
  have b2 : Below w.heap.size w w2 := by rw [hw2]; exact (Below.refl _ _).alloc (Nat.le_refl _) _
  have p2 : w2.heap[w.heap.size]? = some (.cells #[.int .i64 lk, .int .i64 la, .int .i64 lb, .int .i64 lc] 69 (0, 0)) := by rw [hw2]; exact heap_alloc_new _ _
  have hs2 : w2.heap.size = w.heap.size + 1 := by rw [hw2]; simp
  have P2 := Lib.hid p2
  have B2 := Lib.hid b2
  obtain ⟨z0, z1, z2, z3⟩ := cells4 p2
  generalize hiz : x.toNat = iz at x0 x1 x2 x3 hix
  have hxz : x = (iz : Int) := by rw [← hiz]; exact ez
  subst hA
  clear hcells r IH hk hfit hl hsb b2 p2 hcx ez hiz hkl hq hbb hx
  subst hxz
  go_enter Tryd.func46, Tryd.ntmps46
  go_upto_region 2 with (fail)
  rw [← hw2]
  clear hw2 x0 x1 x2 x3
  have HW0 : Hid (w.heap.size = w.heap.size) := Lib.hid rfl
  obtain ⟨g, hg⟩ : ∃ g, w.heap.size = g := ⟨_, rfl⟩
  rw [hg] at z0 z1 z2 z3 hs2 ⊢
  have HGE := Lib.hid hg
  have HS2 := Lib.hid hs2
  clear hg hs2
  by_cases h1 : lk = 1
  · have HE := Lib.hid (HLEAF.out h1)
    subst h1
    have HOW := Lib.hid (own_lit (w := w2) (base := w2.heap.size) (n := 1) (size := 1) (e := 2) #[Value.int .i64 (iz : Int)] (Nat.le_refl _) (by decide) rfl)
    have HBB := Lib.hid (B2.out.alloc B2.out.size (.cells #[Value.int .i64 (iz : Int)] 2))
    have HSB := Lib.hid B2.out.size
    go_wp2
    go_ret
    exact ⟨_, _, by rw [HE.out]; rfl, by rw [HE.out]; exact HOW.out.mono (by have := HSB.out; omega), HBB.out⟩
  · have HE := Lib.hid (HNODE.out h1)
    have hls := HLESS.out h1
    have hd1 : (lk == 1) = false := by simpa using h1
    have IA := Lib.hid (HIH.out la HIN.out.1 (by omega))
    have IB := Lib.hid (HIH.out lb HIN.out.2 (by omega))
    obtain ⟨pa, sa⟩ := HLN.out la HIN.out.1
    obtain ⟨pb, sb⟩ := HLN.out lb HIN.out.2
    have HTT : Hid ((lvT N la).length + (lvT N lb).length ≤ 1000) := Lib.hid (by omega)
    have HPA := Lib.hid pa; have HPB := Lib.hid pb
    generalize hTA : lvT N la = TA at *
    generalize hTB : lvT N lb = TB at *
    have hsw := B2.out.size
    have HSW := Lib.hid hsw
    have HSX : Hid (∀ wx : World, Below w2.heap.size w2 wx → wx.cell? ⟨g, 1, none⟩ = some (.int .i64 la) ∧ wx.cell? ⟨g, 2, none⟩ = some (.int .i64 lb)) := Lib.hid fun wx hx => by
      obtain ⟨m0, m1, m2, m3⟩ := cells4 ((hx.block w.heap.size (by have q1 := HGE.out; have q2 := HS2.out; omega)).trans P2.out)
      rw [HGE.out] at m1 m2
      exact ⟨m1, m2⟩
    have HRX : Hid (∀ wx : World, Below w2.heap.size w2 wx → Below w.heap.size w wx) := Lib.hid fun wx hx => B2.out.trans (hx.mono HSW.out)
    clear pa pb sa sb hls h1 hTA hTB hwx hsw
    go_upto_region 4 with (fail)
    clear z0 z1 z2 z3
    have FB_0 := Lib.hid (Below.refl w2.heap.size w2)
    refine wp_region_held_drew (S := fun wx => wx.cell? ⟨g, 1, none⟩ = some (.int .i64 la) ∧ wx.cell? ⟨g, 2, none⟩ = some (.int .i64 lb)) (by kernel_rfl) (HSX.out _ (Below.refl _ _).drew) (fun hHeld => ?_)
    obtain ⟨wp1, hwp1⟩ : ∃ w', w' = w2.drew := ⟨_, rfl⟩
    rw [← hwp1] at hHeld ⊢
    have bp1 : Below w2.heap.size w2 wp1 := by rw [hwp1]; exact (Below.refl _ _).drew
    clear hwp1
    have FB_p2 := Lib.hid ((FB_0.out).trans ((bp1).mono (FB_0.out).size))
    clear FB_0
    refine wpAnyH_take (i := 0) (v := ?vp3) rfl (by kernel_rfl) (by kernel_rfl) (by kernel_rfl) (fun _ _ _ h => h) (Or.inl ⟨by rfl, ?yp3⟩) (by assumption) ?_
    case yp3 => (intro w hSw; (try dsimp only at hSw); go_simp; all_goals (with_reducible rfl))
    (try simp only [Act.put, List.setIfInBounds_toArray, List.set_cons_zero, List.set_cons_succ, List.getElem_toArray, List.getElem_cons_succ, List.getElem_cons_zero])
    refine wpAnyH_take (i := 1) (v := ?vp4) rfl (by kernel_rfl) (by kernel_rfl) (by kernel_rfl) (fun _ _ _ h => h) (Or.inl ⟨by rfl, ?yp4⟩) (by assumption) ?_
    case yp4 => (intro w hSw; (try dsimp only at hSw); go_simp; all_goals (with_reducible rfl))
    (try simp only [Act.put, List.setIfInBounds_toArray, List.set_cons_zero, List.set_cons_succ, List.getElem_toArray, List.getElem_cons_succ, List.getElem_cons_zero])
    refine wpAnyH_take (i := 4) (v := ?vp5) rfl (by kernel_rfl) (by kernel_rfl) (by kernel_rfl) (fun _ _ _ h => h) (Or.inl ⟨by rfl, ?yp5⟩) (by assumption) ?_
    case yp5 => (intro w hSw; (try dsimp only at hSw); go_simp; all_goals (with_reducible rfl))
    (try simp only [Act.put, List.setIfInBounds_toArray, List.set_cons_zero, List.set_cons_succ, List.getElem_toArray, List.getElem_cons_succ, List.getElem_cons_zero])
    refine wpAnyH_take (i := 5) (v := ?vp6) rfl (by kernel_rfl) (by kernel_rfl) (by kernel_rfl) (fun _ _ _ h => h) (Or.inl ⟨by rfl, ?yp6⟩) (by assumption) ?_
    case yp6 => (intro w hSw; (try dsimp only at hSw); go_simp; all_goals (with_reducible rfl))
    (try simp only [Act.put, List.setIfInBounds_toArray, List.set_cons_zero, List.set_cons_succ, List.getElem_toArray, List.getElem_cons_succ, List.getElem_cons_zero])
    refine wpAnyH_take (i := 2) (v := ?vp7) rfl (by kernel_rfl) (by kernel_rfl) (by kernel_rfl) (fun _ _ _ h => h) (Or.inl ⟨by rfl, ?yp7⟩) (by assumption) ?_
    case yp7 => (intro w hSw; (try dsimp only at hSw); go_simp; all_goals (with_reducible rfl))
    (try simp only [Act.put, List.setIfInBounds_toArray, List.set_cons_zero, List.set_cons_succ, List.getElem_toArray, List.getElem_cons_succ, List.getElem_cons_zero])
    refine wpAnyH_take (i := 6) (v := ?vp8) rfl (by kernel_rfl) (by kernel_rfl) (by kernel_rfl) (fun _ _ _ h => h) (Or.inl ⟨by rfl, ?yp8⟩) (by assumption) ?_
    case yp8 => (intro w hSw; (try dsimp only at hSw); go_simp; all_goals (with_reducible rfl))
    (try simp only [Act.put, List.setIfInBounds_toArray, List.set_cons_zero, List.set_cons_succ, List.getElem_toArray, List.getElem_cons_succ, List.getElem_cons_zero])
    refine wpAnyH_ready (rs := [3]) (by kernel_rfl) (by simp) ?_
    refine AllReadyH.cons rfl (fun K hK => ?_) ?_
    · go_simp
      refine (IA.out wp1 (HRL.out _ (HRX.out _ FB_p2.out))).mono ?_
      rintro e wp9 ⟨uA, uc, rfl, ownp9, belp9⟩
      dsimp only
      have FB_p10 := Lib.hid ((FB_p2.out).trans ((belp9).mono (FB_p2.out).size))
      clear FB_p2
      have OA_p9 := Lib.hid ownp9
      clear ownp9 belp9
      refine hK.out _ _ (HSX.out _ FB_p10.out) (fun hHeld => ?_)
      clear hK K
      (try simp only [Act.put, List.setIfInBounds_toArray, List.set_cons_zero, List.set_cons_succ, List.getElem_toArray, List.getElem_cons_succ, List.getElem_cons_zero])
      refine wpAnyH_ready (rs := [7]) (by kernel_rfl) (by simp) ?_
      refine AllReadyH.cons rfl (fun K hK => ?_) ?_
      · go_simp
        refine (IB.out wp9 (HRL.out _ (HRX.out _ FB_p10.out))).mono ?_
        rintro e wp11 ⟨vA, vc, rfl, ownp11, belp11⟩
        dsimp only
        have FB_p12 := Lib.hid ((FB_p10.out).trans ((belp11).mono (FB_p10.out).size))
        have OA_p13 := Lib.hid (own_below (OA_p9.out) (belp11) (Nat.le_refl _))
        clear FB_p10 OA_p9
        have OB_p11 := Lib.hid ownp11
        clear ownp11 belp11
        refine hK.out _ _ (HSX.out _ FB_p12.out) (fun hHeld => ?_)
        clear hK K
        (try simp only [Act.put, List.setIfInBounds_toArray, List.set_cons_zero, List.set_cons_succ, List.getElem_toArray, List.getElem_cons_succ, List.getElem_cons_zero])
        refine wpAnyH_ready (rs := [8]) (by kernel_rfl) (by simp) ?_
        refine AllReadyH.cons rfl (fun K hK => ?_) ?_
        · go_simp
          obtain ⟨wp14, hwp14⟩ : ∃ w', w' = wp11.alloc (.cells #[.slice uA TA.length uc, .slice vA TB.length vc] 24) := ⟨_, rfl⟩
          rw [← hwp14]
          have bp14 : Below wp11.heap.size wp11 wp14 := by rw [hwp14]; exact (Below.refl _ _).alloc (Nat.le_refl _) _
          have gp14 : wp14.heap[wp11.heap.size]? = some (.cells #[.slice uA TA.length uc, .slice vA TB.length vc] 24 (0, 0)) := by rw [hwp14]; exact heap_alloc_new _ _
          clear hwp14
          have FB_p15 := Lib.hid ((FB_p12.out).trans ((bp14).mono (FB_p12.out).size))
          have OA_p16 := Lib.hid (own_below (OA_p13.out) (bp14) (Nat.le_refl _))
          have OB_p17 := Lib.hid (own_below (OB_p11.out) (bp14) (Nat.le_refl _))
          clear FB_p12 OA_p13 OB_p11
          obtain ⟨gbp18, hgp18⟩ : ∃ b, wp11.heap.size = b := ⟨_, rfl⟩
          have GB_p18 := Lib.hid gp14
          rw [hgp18] at GB_p18 ⊢
          clear hgp18 gp14 bp14
          refine hK.out _ _ (HSX.out _ FB_p15.out) (fun hHeld => ?_)
          clear hK K
          (try simp only [Act.put, List.setIfInBounds_toArray, List.set_cons_zero, List.set_cons_succ, List.getElem_toArray, List.getElem_cons_succ, List.getElem_cons_zero])
          refine wpAnyH_ready (rs := [9]) (by kernel_rfl) (by simp) ?_
          refine AllReadyH.cons rfl (fun K hK => ?_) ?_
          · go_simp
            have hpa := Part.of_rd (c := uc) (RdI.of_own OA_p16.out) HPA.out
            have hpb := Part.of_rd (c := vc) (RdI.of_own OB_p17.out) HPB.out
            have hgs := (Array.getElem?_eq_some_iff.1 GB_p18.out).1
            have c0 := cell_of_row _ _ 0 _ _ (0, 0) GB_p18.out; have c1 := cell_of_row _ _ 1 _ _ (0, 0) GB_p18.out
            refine (concat_any gbp18 2 2 [.slice uA TA.length uc, .slice vA TB.length vc] [TA, TB] wp14 rfl (by decide) (by decide) (two_ix c0 c1) hgs (two_ix hpa hpb) (by have := HTT.out; simpa using this)).mono ?_
            rintro e w9 ⟨A9, c9, rfl, own9, bel9⟩
            dsimp only
            clear hpa hpb c0 c1 hgs
            have e9 : [TA, TB].flatten.length = TA.length + TB.length := by simp
            rw [e9] at own9
            have HGG : Hid (Gives w (lvT N (iz : Int)) (.returned (.slice A9 (TA.length + TB.length) c9)) w9) := Lib.hid (gives_of own9 e9.symm (by rw [HE.out]; simp) (Nat.le_trans HSW.out FB_p15.out.size) ((HRX.out _ FB_p15.out).trans (bel9.mono (Nat.le_trans HSW.out FB_p15.out.size))))
            have FB_9 := Lib.hid (FB_p15.out.trans (bel9.mono FB_p15.out.size))
            clear own9 bel9
            refine hK.out _ _ (HSX.out _ FB_9.out) (fun hHeld => ?_)
            clear hK K
            (try simp only [Act.put, List.setIfInBounds_toArray, List.set_cons_zero, List.set_cons_succ, List.getElem_toArray, List.getElem_cons_succ, List.getElem_cons_zero])
            refine wpAnyH_ready (rs := [10]) (by kernel_rfl) (by simp) ?_
            refine AllReadyH.cons rfl (fun K hK => ?_) ?_
            · go_simp
              refine hK.out _ _ hHeld (fun hHeld => ?_)
              clear hK K
              (try simp only [Act.put, List.setIfInBounds_toArray, List.set_cons_zero, List.set_cons_succ, List.getElem_toArray, List.getElem_cons_succ, List.getElem_cons_zero])
              refine wpAnyH_done (by kernel_rfl) ?_ _
              go_wp2
              go_ret
              exact HGG.out
            exact AllReadyH.nil
          exact AllReadyH.nil
        exact AllReadyH.nil
      exact AllReadyH.nil
    exact AllReadyH.nil
theorem leavesAbove_any (N : Nt) (hv : valN N = true) (cur : List Lk) (hq : SrcQ N cur N.l.length 0) (A : Option Addr) (d : Nat) : ∀ (n : Nat) (x : Int), wlen N x ≤ n → inW N.w.length x = true → ∀ w : World, RdL w w.heap.size A N.w.length cur → Calls Tryd.prog 46 #[.slice A N.w.length d, .int .i64 x] w (Gives w (lvT N x))
  | n, x, hn, hx, w, r => leavesAbove_step N hv cur hq A d x w hx r (fun y hy hlt w r => leavesAbove_any N hv cur hq A d (n - 1) y (by omega) hy w r)
  termination_by n x hn hx => wlen N x
  decreasing_by all_goals omega
end Go.Proofs.YtnomackljlnehaaDoor
