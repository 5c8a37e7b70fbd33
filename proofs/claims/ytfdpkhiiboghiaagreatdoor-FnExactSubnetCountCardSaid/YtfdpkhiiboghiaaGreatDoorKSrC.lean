/- The model's l14Cut. Made by mksrc.py. -/
import Derived.Test.YtfdpkhiiboghiaaGreatDoorKSqH
import Derived.Test.YtfdpkhiiboghiaaGreatDoorKQPaH
import Derived.Maps.AppendAt
import Derived.Deep.RegionHeldLaw
import Derived.Deep.DeepCutAuto
import Derived.BigQuiet
namespace Go.Proofs.YtfdpkhiiboghiaaGreatDoor
set_option linter.unusedSimpArgs false
set_option linter.unusedVariables false
set_option linter.unusedSimpArgs false
set_option linter.unusedVariables false
open Go.ChangeAt Go.ChangeShapes Go.RowKit Go.WideShapes

section
variable {wb w0 wr : World} {sx : Nat} {hT h : NH} {T M : Nt} {v : Value} {L : List Int}
/-- A block far from the net has grown. -/
theorem PlSt.grownQ {u : World} {ob : Option Nat} (p : PlSt wb w0 wr sx hT T h M) (hg : wr.grownBy u ob) (hf : ∀ b, ob = some b → FarN h M b ∧ w0.heap.size ≤ b) : PlSt wb w0 u sx hT T h M where
  own := (p.own.stay fun b hb => hg.block b (Nat.lt_of_not_le fun e => hb (p.own.far_ge e)) (fun e => hb (hf b e.symm).1)).more (Nat.le_refl _) hg.size
  far := p.far
  keep b h1 h2 h3 := (hg.block b (Nat.lt_of_lt_of_le h1 p.size) (fun e => Nat.lt_irrefl _ (Nat.lt_of_lt_of_le h1 (hf b e.symm).2))).trans (p.keep b h1 h2 h3)
  box := (hg.block sx (Nat.lt_of_lt_of_le p.sxl p.size) (fun e => Nat.lt_irrefl _ (Nat.lt_of_lt_of_le p.sxl (hf sx e.symm).2))).trans p.box
  bel := p.bel.grown hg p.bel.size fun q e => Nat.le_trans p.sxb (Nat.le_trans (Nat.le_of_lt p.sxl) (hf q e).2)
  size := Nat.le_trans p.size hg.size
  sxl := p.sxl
  sxf := p.sxf
  sxb := p.sxb
/-- From here on. -/
theorem PlSt.againQ (p : PlSt wb w0 wr sx hT T h M) : PlSt wb wr wr sx h M h M where
  own := p.own
  far b _ f := f
  keep b _ _ _ := rfl
  box := p.box
  bel := p.bel
  size := Nat.le_refl _
  sxl := Nat.lt_of_lt_of_le p.sxl p.size
  sxf := p.far sx p.sxl p.sxf
  sxb := p.sxb
/-- A net that grows, and a row of names. -/
structure NmSt (wb w0 wr : World) (sx : Nat) (h : NH) (M : Nt) (v : Value) (L : List Int) : Prop where
  p : PlSt wb w0 wr sx NH.nil Nt.nil h M
  o : wr.ownsRow w0.heap.size 2 1 v L.length (L.map (Value.int .i64))
  far : ∀ b, v.ownBlock = some b → FarN h M b
theorem NmSt.below {u : World} (s : NmSt wb w0 wr sx h M v L) (hb : Below wr.heap.size wr u) : NmSt wb w0 u sx h M v L := ⟨s.p.below hb, own_below s.o hb (Nat.le_refl _), s.far⟩
theorem NmSt.pushN {w2 : World} {v' : Value} {z : Int} (s : NmSt wb w0 wr sx h M v L) (hown : w2.ownsRow w0.heap.size 2 1 v' (L.length + 1) (L.map (Value.int .i64) ++ [.int .i64 z])) (hg : (wr.alloc (.cells #[.int .i64 z] 2)).grownBy w2 v.ownBlock)
    (hat : v'.ownBlock = v.ownBlock ∨ v'.ownBlock = some (wr.alloc (.cells #[.int .i64 z] 2)).heap.size) : NmSt wb w0 w2 sx h M v' (L ++ [z]) where
  p := (s.p.below ((Below.refl _ _).alloc (Nat.le_refl _) _)).grownQ hg fun b e => ⟨s.far b e, (s.o.lt b e).1⟩
  o := by rw [List.length_append, List.map_append]; exact hown
  far b e := by
    rcases hat with q | q
    · exact s.far b (q.symm.trans e)
    · rw [q] at e
      injection e with e
      refine s.p.own.far_ge ?_
      simp at e; omega
theorem NmSt.pushW {u u' : World} {A6 : Option Addr} {c6 g cap : Nat} {dq : List Int} (s : NmSt wb w0 wr sx h M v L) (hb : Below wr.heap.size wr u) (own6 : u.ownsRow wr.heap.size 2 1 (.slice A6 dq.length c6) dq.length (dq.map (Value.int .i64)))
    (hown7 : u'.ownsRow wb.heap.size 24 1 (.slice (some ⟨g, 0, none⟩) (M.w.length + 1) cap) (M.w.length + 1) (rowV h.hs M.w ++ [.slice A6 dq.length c6])) (hgrow7 : (u.alloc (.cells #[.slice A6 dq.length c6] 24)).grownBy u' (Value.slice h.A M.w.length h.c).ownBlock)
    (hat7 : (Value.slice h.A M.w.length h.c).ownBlock = some g ∨ g = (u.alloc (.cells #[.slice A6 dq.length c6] 24)).heap.size) :
    NmSt wb w0 (u'.setCell ⟨sx, 0, none⟩ (.slice (some ⟨g, 0, none⟩) (M.w ++ [dq]).length cap)) sx ⟨some ⟨g, 0, none⟩, cap, upd h.hs M.w.length (A6, c6), h.L, h.d, h.C, h.e⟩ ⟨M.w ++ [dq], M.l, M.c⟩ v L where
  p := s.p.pushW hb own6 hown7 hgrow7 hat7
  o := own_same s.o fun q e => (Below.heap_setCell _ _ _ _ (by
      show q ≠ sx
      have := (s.o.lt q e).1
      have := s.p.sxl
      omega)).trans ((hgrow7.block q (by have := (s.o.lt q e).2; have := hb.size; simp; omega) (fun e2 => (s.far q e).a e2.symm)).trans (((box_below u (.slice A6 dq.length c6) 24).block q (by have := (s.o.lt q e).2; have := hb.size; omega)).trans (hb.block q (s.o.lt q e).2)))
  far b e := (s.p.own.pushW s.p.bel.size hb own6 hown7 hgrow7 hat7).2 b (s.o.lt b e).2 (s.far b e)
theorem PlSt.rowQ {A : Option Addr} {n c : Nat} {xs : List Int} (p : PlSt wb w0 wr sx hT T h M) (r : RdI w0 w0.heap.size A n xs) (hf : ∀ b, (Value.slice A n c).ownBlock = some b → FarN hT T b ∧ b ≠ sx) : RdI wr wr.heap.size A n xs := by
  refine ⟨r.1, fun h0 => ?_⟩
  obtain ⟨b, off, rfl, h1, h2⟩ := r.2 h0
  obtain ⟨f1, f2⟩ := hf b rfl
  exact ⟨b, off, rfl, Nat.lt_of_lt_of_le h1 p.size, fun j hj => (p.cell h1 f1 f2).trans (h2 j hj)⟩
end
theorem four_cellsQ {w : World} {b : Nat} {a0 a1 a2 a3 : Value} {t : TypeId} (h : w.heap[b]? = some (.cells #[a0, a1, a2, a3] t (0, 0))) : w.cell? ⟨b, 0, none⟩ = some a0 ∧ w.cell? ⟨b, 1, none⟩ = some a1 ∧ w.cell? ⟨b, 2, none⟩ = some a2 ∧ w.cell? ⟨b, 3, none⟩ = some a3 :=
  ⟨cell_of_row _ _ 0 _ _ (0, 0) h, cell_of_row _ _ 1 _ _ (0, 0) h, cell_of_row _ _ 2 _ _ (0, 0) h, cell_of_row _ _ 3 _ _ (0, 0) h⟩
theorem set4_one {w : World} {b : Nat} {a0 a1 a2 a3 : Value} {t : TypeId} (h : w.heap[b]? = some (.cells #[a0, a1, a2, a3] t (0, 0))) (v : Value) : (w.setCell ⟨b, 3, none⟩ v).heap[b]? = some (.cells #[a0, a1, a2, v] t (0, 0)) := by
  have := heap_setCell_same w b 3 _ t v h
  simpa using this
theorem set4_atQ {w : World} {b : Nat} {a0 a1 a2 a3 : Value} {t : TypeId} (h : w.heap[b]? = some (.cells #[a0, a1, a2, a3] t (0, 0))) (v0 v1 v2 v3 : Value) : ((((w.setCell ⟨b, 0, none⟩ v0).setCell ⟨b, 1, none⟩ v1).setCell ⟨b, 2, none⟩ v2).setCell ⟨b, 3, none⟩ v3).heap[b]? = some (.cells #[v0, v1, v2, v3] t (0, 0)) := by
  have h0 : (w.setCell ⟨b, 0, none⟩ v0).heap[b]? = some (.cells #[v0, a1, a2, a3] t (0, 0)) := by
    have := heap_setCell_same w b 0 _ t v0 h
    simpa using this
  have h1 : ((w.setCell ⟨b, 0, none⟩ v0).setCell ⟨b, 1, none⟩ v1).heap[b]? = some (.cells #[v0, v1, a2, a3] t (0, 0)) := by
    have := heap_setCell_same _ b 1 _ t v1 h0
    simpa using this
  have h2 : (((w.setCell ⟨b, 0, none⟩ v0).setCell ⟨b, 1, none⟩ v1).setCell ⟨b, 2, none⟩ v2).heap[b]? = some (.cells #[v0, v1, v2, a3] t (0, 0)) := by
    have := heap_setCell_same _ b 2 _ t v2 h1
    simpa using this
  exact set4_one h2 v3
/-- The names of the wires. -/
def nmU (N : Nt) (K : Nat → Bool) (k : Nat) : List Int := (List.range k).map fun x : Nat => nmW N K (x : Int)
theorem nmU_len (N : Nt) (K : Nat → Bool) (k : Nat) : (nmU N K k).length = k := by simp [nmU]
theorem nmU_succ (N : Nt) (K : Nat → Bool) (k : Nat) : nmU N K (k + 1) = nmU N K k ++ [((cutW N K k).length : Int)] := by
  unfold nmU
  rw [List.range_succ, List.map_append, cutW_len]
  simp [nmW]
theorem nmU_at {N : Nt} {K : Nat → Bool} {n k : Nat} (h : k < n) : (nmU N K n).getD k 0 = nmW N K (k : Int) := by
  unfold nmU
  simp [List.getD, h]
/-- The conclusions kept. -/
def ccU (N : Nt) (K : Nat → Bool) (cs : List Int) (k : Nat) : List Int := ((cs.take k).filter fun c => K (frN N c)).map (nmW N K)
theorem ccU_yes {N : Nt} {K : Nat → Bool} {cs : List Int} {k : Nat} (h : k < cs.length) (e : K (frN N (cs.getD k 0)) = true) : ccU N K cs (k + 1) = ccU N K cs k ++ [nmW N K (cs.getD k 0)] := by
  unfold ccU; rw [takeL_succ (d := (0 : Int)) h, List.filter_append, List.map_append, List.filter_cons_of_pos (p := fun c => K (frN N c)) e]; rfl
theorem ccU_no {N : Nt} {K : Nat → Bool} {cs : List Int} {k : Nat} (h : k < cs.length) (e : K (frN N (cs.getD k 0)) = false) : ccU N K cs (k + 1) = ccU N K cs k := by
  unfold ccU; rw [takeL_succ (d := (0 : Int)) h, List.filter_append, List.map_append, List.filter_cons_of_neg (p := fun c => K (frN N c)) (by rw [e]; decide)]; simp
theorem ccU_len (N : Nt) (K : Nat → Bool) (cs : List Int) (k : Nat) : (ccU N K cs k).length ≤ cs.length := by
  unfold ccU; rw [List.length_map]; exact Nat.le_trans (List.length_filter_le _ _) (by rw [List.length_take]; omega)
theorem ccU_end (N : Nt) (K : Nat → Bool) (cs : List Int) : ccU N K cs cs.length = (cs.filter fun c => K (frN N c)).map (nmW N K) := by unfold ccU; rw [List.take_length]
set_option maxRecDepth 100000 in
set_option maxHeartbeats 1000000 in
theorem sCut_any (h : NH) (N : Nt) (PK : Nat → Bool) (A C : Option Addr) (c d : Nat) (ks cs : List Int) (w : World) (hv : valN N = true) (rN : RdN w w.heap.size h N) (rK : RdI w w.heap.size A ks.length ks) (rC : RdI w w.heap.size C cs.length cs) (hkl : ks.length ≤ 1000) (hcs : ∀ x ∈ cs, inW N.w.length x = true) (hcl : cs.length ≤ 1000) (hPK : ∀ k, k < N.l.length → decide ((k : Int) ∈ ks) = PK k) :
    Calls Tryz.prog 100 #[.agg #[.slice h.A N.w.length h.c, .slice h.L N.l.length h.d, .slice h.C N.c.length h.e], .slice A ks.length c, .slice C cs.length d] w (CopiedN w (cutN N PK (cs.filter fun x => PK (frN N x)))) := by
  obtain ⟨h48, h48l⟩ := valN_size hv
  obtain ⟨i0, hi0, hz0, hz1, hz2⟩ := info_parts info_i64
  have HI := Lib.hid hi0; have HZ0 := Lib.hid hz0; have HZ1 := Lib.hid hz1; have HZ2 := Lib.hid hz2
  obtain ⟨i4, hi4, hz40, hz41, hz42⟩ := info_parts_s
  have HI4 := Lib.hid hi4; have HZ40 := Lib.hid hz40; have HZ41 := Lib.hid hz41; have HZ42 := Lib.hid hz42
  obtain ⟨i5, hi5, hz50, hz51, hz52⟩ := info_parts_link
  have HI5 := Lib.hid hi5; have HZ50 := Lib.hid hz50; have HZ51 := Lib.hid hz51; have HZ52 := Lib.hid hz52
  obtain ⟨w0, hw0⟩ : ∃ w0, w0 = (w.alloc (.cells #[.slice h.A N.w.length h.c, .slice h.L N.l.length h.d, .slice h.C N.c.length h.e] 30)).alloc (.cells #[.slice none 0 0, .slice none 0 0, .slice none 0 0] 30) := ⟨_, rfl⟩
  obtain ⟨hb, g0, g1, hsz⟩ := two_any' w (.cells #[.slice h.A N.w.length h.c, .slice h.L N.l.length h.d, .slice h.C N.c.length h.e] 30) (.cells #[.slice none 0 0, .slice none 0 0, .slice none 0 0] 30)
  rw [← hw0] at hb g0 g1 hsz
  have hs0 : w.heap.size + 2 ≤ w0.heap.size := by omega
  have HKB := Lib.hid (fun (wx : World) (hx : Below w0.heap.size w0 wx) => three_cells ((hx.block w.heap.size (by omega)).trans g0))
  have HK2 := Lib.hid (fun (wx : World) (hx : Below w0.heap.size w0 wx) => (hx.block (w.heap.size + 1) (by omega)).trans g1)
  have HRW := Lib.hid (fun (wx : World) (hx : Below w0.heap.size w0 wx) => show RdQ wx w.heap.size h.A N.w.length N.w from rN.1.below (hb.trans (hx.mono hb.size)))
  have HRL := Lib.hid (fun (wx : World) (hx : Below w0.heap.size w0 wx) => show RdL wx w.heap.size h.L N.l.length N.l from rN.2.1.below (hb.trans (hx.mono hb.size)))
  have HRC := Lib.hid (fun (wx : World) (hx : Below w0.heap.size w0 wx) => show RdI wx w.heap.size C cs.length cs from rC.below (hb.trans (hx.mono hb.size)))
  have HHA := Lib.hid (fun (wx : World) (hx : Below w0.heap.size w0 wx) (k : Nat) (hk : k < N.l.length) => show Calls Tryz.prog 87 #[.slice A ks.length c, .int .i64 k] wx fun e w' => e = .returned (.bool (PK k)) ∧ w' = wx from by
    have := sHasQ_any A ks.length c ks (k : Int) wx (by omega) ((rK.below (hb.trans (hx.mono hb.size))).more (Nat.le_trans hb.size hx.size))
    rw [hPK k hk] at this
    exact this)
  have HFL : Hid (∀ x, inW N.w.length x = true → frN N x < N.l.length) := Lib.hid fun x hx => (fr_lt hv hx).2
  have HFR := Lib.hid (fun (wx : World) (hx : Below w0.heap.size w0 wx) (x : Int) (h1 : inW N.w.length x = true) => show Calls Tryz.prog 77 #[.agg #[.slice h.A N.w.length h.c, .slice h.L N.l.length h.d, .slice h.C N.c.length h.e], .int .i64 x] wx fun e w' => e = .returned (.int .i64 (frN N x)) ∧ Below wx.heap.size wx w' from by
    have := smFrom_any h.A h.L h.C N.w.length h.c h.d N.c.length h.e N.l x wx ((rN.2.1.below (hb.trans (hx.mono hb.size))).more (Nat.le_trans hb.size hx.size)) (by omega)
    rw [from_lxQ hv, (fr_lt hv h1).1] at this
    exact this)
  have HB0 := Lib.hid hb
  have HVW : Hid (∀ q ∈ N.w, validB q = true) := Lib.hid fun q hq => formN_valid (List.all_eq_true.1 (valN_forms hv) q hq)
  have HLF : Hid (∀ k, k < N.l.length → inW N.w.length (N.l.getD k Lk.nil).a = true ∧ inW N.w.length (N.l.getD k Lk.nil).b = true ∧ inW N.w.length (N.l.getD k Lk.nil).c = true) := Lib.hid fun k hk => by
    obtain ⟨h1, h2, h3, _⟩ := fitsN_yes (link_fits hv hk)
    exact ⟨h1, h2, h3⟩
  have HCS : Hid (∀ k, k < cs.length → inW N.w.length (cs.getD k 0) = true) := Lib.hid fun k hk => hcs _ (getL_mem (d := (0 : Int)) hk)
  have HEND : Hid ((⟨cutW N PK N.w.length, cutL N PK N.l.length, ccU N PK cs cs.length⟩ : Nt) = cutN N PK (cs.filter fun x => PK (frN N x))) := Lib.hid (by rw [ccU_end]; rfl)
  clear hb g0 g1 hsz rN rK rC hcs hv hi0 hz0 hz1 hz2 hi4 hz40 hz41 hz42 hi5 hz50 hz51 hz52 hPK
  generalize cutN N PK (cs.filter fun x => PK (frN N x)) = NE at *
  obtain ⟨nk, hnk⟩ : ∃ n, ks.length = n := ⟨_, rfl⟩
  rw [hnk] at HHA ⊢
  clear hnk hkl
  go_enter Tryz.func100, Tryz.ntmps100
  go_upto_region 1 with (fail)
  rw [← hw0]
  clear hw0
  have P0 := PlSt.newQ w0
  obtain ⟨u2, hu2⟩ : ∃ u2, u2 = w0.alloc (.cells #[.slice none 0 0, .slice none 0 0, .slice none 0 0] 30) := ⟨_, rfl⟩
  rw [← hu2] at P0
  have hs2 : u2.heap.size = w0.heap.size + 1 := by rw [hu2]; simp
  obtain ⟨u3, hu3⟩ : ∃ u3, u3 = u2.alloc (.cells #[] 2) := ⟨_, rfl⟩
  have N0 : NmSt w0 u2 u3 w0.heap.size NH.nil Nt.nil (.slice (some ⟨w0.heap.size + 1, 0, none⟩) 0 0) [] := by
    rw [← hs2]
    refine ⟨?_, ?_, fun b _ => FarN.nilQ b⟩
    · rw [hu3]; exact P0.below ((Below.refl _ _).alloc (Nat.le_refl _) _)
    · rw [hu3]; exact empty_own (Below.refl _ _)
  obtain ⟨sx, hsx⟩ : ∃ s, w0.heap.size = s := ⟨_, rfl⟩
  have HSX0 := Lib.hid hsx
  rw [hsx] at N0
  have HN0 := Lib.hid N0
  have HU2 := Lib.hid hu2; have HU3 := Lib.hid hu3
  clear hu2 hu3 hsx P0 N0 hs2
  go_upto_region 3 with (fail)
  rw [← HU2.out, ← HU3.out, HSX0.out]
  go_wp2
  go_loopw [8, 9] (fun v i wx => ∃ k : Nat, k ≤ N.w.length ∧ i = .int .i64 k ∧ ∃ hh, NmSt w0 u2 wx sx hh ⟨cutW N PK k, [], []⟩ v (nmU N PK k)) (fun _ i _ => N.w.length - (intOf i).toNat)
  case atStart => exact ⟨0, Nat.zero_le _, rfl, _, HN0.out⟩
  case round =>
    obtain ⟨k, hk, rfl, hh, SS⟩ := hrel
    by_cases hlt : k < N.w.length
    · obtain ⟨A1, c1, rfl⟩ := own_shapeP SS.o
      have HS := Lib.hid SS
      have hnl : (nmU N PK k).length ≤ 48 := by rw [nmU_len]; omega
      have hB1 := SS.p.bel
      have hus := SS.p.size
      obtain ⟨y0, y1, y2⟩ := HKB.out wr hB1
      obtain ⟨x0, x1, x2⟩ := three_cells SS.p.box
      have HSN := Lib.hid (nmU_succ N PK k)
      have hwl : (cutW N PK k).length ≤ 48 := by rw [cutW_len]; have := kpW_len N PK k; omega
      have HY := Lib.hid (cutW_yes (N := N) (K := PK) (k := k))
      have HNO := Lib.hid (cutW_no (N := N) (K := PK) (k := k))
      have hin : inW N.w.length (k : Int) = true := decide_eq_true (by omega)
      have HFK := Lib.hid (fun (wx : World) (hx : Below w0.heap.size w0 wx) => HFR.out wx hx (k : Int) hin)
      have HHK := Lib.hid (fun (wx : World) (hx : Below w0.heap.size w0 wx) => HHA.out wx hx (frN N (k : Int)) (HFL.out _ hin))
      obtain ⟨bW, oW, hWe, hWb, hWc⟩ := (HRW.out w0 (Below.refl _ _)).2 (by omega)
      obtain ⟨A', c', hcell0, hcc, hrd⟩ := hWc k hlt
      have h24 := (valid_len (HVW.out _ (getL_mem (d := []) hlt))).2.1
      obtain ⟨q, hq⟩ : ∃ q, N.w.getD k [] = q := ⟨_, rfl⟩
      rw [hq] at hcell0 hrd HY h24 hcc
      have HCP := Lib.hid (fun (wx : World) (hx : Below w0.heap.size w0 wx) => copyInts_x A' q.length c' q wx ((hrd.below (hx.mono (show w.heap.size ≤ w0.heap.size by omega))).more (Nat.le_trans (show w.heap.size ≤ w0.heap.size by omega) hx.size)) (by omega))
      obtain ⟨W, hW⟩ : ∃ W, cutW N PK k = W := ⟨_, rfl⟩
      rw [hW] at HS HSN HY HNO hwl
      dsimp only at x0 x1 x2
      rw [hW] at x0
      obtain ⟨NL, hNL⟩ : ∃ L, nmU N PK k = L := ⟨_, rfl⟩
      rw [hNL] at HS HSN hnl ⊢
      have hbs := hB1.size
      have HWE := Lib.hid hWe
      clear SS hW hNL hq hrd hWc hin hcc hB1 hWe
      generalize frN N (k : Int) = fk at *
      go_wp2_with (at_builtin; refine wpList_append_own_at _ rfl _ _ 24 rfl u2.heap.size 2 i0 (.int .i64 0) 1 8 Tryz.underlying24 HI.out HZ0.out HZ1.out HZ2.out rfl (by decide) _ _ _ rfl (HS.out.o.alloc _) ⟨wr.heap.size, 0, none⟩ 1 1 [.int .i64 W.length] rfl rfl ?c1 ?c2 ?c3 ?c4 ?c5 ?_)
      case c1 => exact cell_one_new _ _ _
      case c2 => intro u hu; simp at hu; subst hu; rfl
      case c3 => unfold maxLen; omega
      case c4 => omega
      case c5 => simp; omega
      intro v7 w7 hown7 hgrow7 _ hat7
      have S7 := HS.out.pushN hown7 hgrow7 (by rw [World.size_alloc]; exact hat7)
      rw [← HSN.out] at S7
      have HS7 := Lib.hid S7
      have HBI : Hid (Below w0.heap.size w0 w7) := Lib.hid S7.p.bel
      clear hown7 hgrow7 hat7 S7 y0 y1 y2 x0 x1 x2 HS HSN hnl
      obtain ⟨NL1, hNL1⟩ : ∃ L, nmU N PK (k + 1) = L := ⟨_, rfl⟩
      rw [hNL1] at HS7
      have HN1 := Lib.hid hNL1
      clear hNL1
      obtain ⟨y0, y1, y2⟩ := HKB.out w7 HBI.out
      go_wp2_with (fail)
      refine (HFK.out w7 HBI.out).mono ?_
      rintro e w8 ⟨rfl, bel8⟩
      have B8 := Lib.hid bel8
      have HHQ := Lib.hid (HHK.out w8 (HBI.out.trans (bel8.mono HBI.out.size)))
      clear bel8 y0 y1 y2 HFK HHK
      cases hK : PK fk with
      | false =>
        rw [hK] at HHQ
        go_wp2_with (fail)
        refine HHQ.out.mono ?_
        rintro e w9 ⟨rfl, rfl⟩
        have HSZ := Lib.hid (HS7.out.below B8.out)
        go_wp2
        go_roundw
        case rel => exact ⟨k + 1, by omega, by go_num, _, by rw [HNO.out hK, HN1.out]; exact HSZ.out⟩
        case measure => simp [intOf]; omega
      | true =>
        rw [hK] at HHQ
        have HSW := Lib.hid (HY.out hK)
        have HS := Lib.hid (HS7.out.below B8.out)
        have HBI : Hid (Below w0.heap.size w0 w8) := Lib.hid HS.out.p.bel
        have hsxl := Nat.lt_of_lt_of_le HS.out.p.sxl HS.out.p.size
        have HBS := HBI.out.size
        have HSY : Hid (∀ wx : World, Below w0.heap.size w0 wx → wx.cell? ⟨w.heap.size, 0, none⟩ = some (.slice (some ⟨bW, oW, none⟩) N.w.length h.c) ∧ wx.cell? ⟨bW, oW + k, none⟩ = some (.slice A' q.length c')) := Lib.hid fun wx hx =>
          ⟨by rw [← HWE.out]; exact (HKB.out wx hx).1, (hx.cell (p := ⟨bW, oW + k, none⟩) (by show bW < w0.heap.size; omega)).trans hcell0⟩
        have HSX : Hid (∀ wx : World, Below w8.heap.size w8 wx → wx.cell? ⟨sx, 0, none⟩ = some (.slice hh.A W.length hh.c) ∧ wx.cell? ⟨w.heap.size, 0, none⟩ = some (.slice (some ⟨bW, oW, none⟩) N.w.length h.c) ∧ wx.cell? ⟨bW, oW + k, none⟩ = some (.slice A' q.length c')) := Lib.hid fun wx hx => ⟨(three_cells ((hx.block sx hsxl).trans HS.out.p.box)).1, HSY.out wx (HBI.out.trans (hx.mono HBI.out.size))⟩
        have hxl : (k : Int) < ((N.w.length : Nat) : Int) := by omega
        clear hcell0 HY HNO hK B8 HS7
        go_wp2_with (fail)
        refine HHQ.out.mono ?_
        rintro e w9 ⟨rfl, rfl⟩
        clear HHQ
        go_upto_region 8 with (fail)
        have FB_0 := Lib.hid (Below.refl w9.heap.size w9)
        refine wp_region_C_drew (c := 11) (S := fun wx => wx.cell? ⟨sx, 0, none⟩ = some (.slice hh.A W.length hh.c) ∧ wx.cell? ⟨w.heap.size, 0, none⟩ = some (.slice (some ⟨bW, oW, none⟩) N.w.length h.c) ∧ wx.cell? ⟨bW, oW + k, none⟩ = some (.slice A' q.length c')) (by kernel_rfl) (HSX.out _ (Below.refl _ _).drew) (fun hHeld => ?_)
        obtain ⟨wp1, hwp1⟩ : ∃ w', w' = w9.drew := ⟨_, rfl⟩
        rw [← hwp1] at hHeld ⊢
        have bp1 : Below w9.heap.size w9 wp1 := by rw [hwp1]; exact (Below.refl _ _).drew
        clear hwp1
        have FB_p2 := Lib.hid ((FB_0.out).trans ((bp1).mono (FB_0.out).size))
        clear FB_0
        refine wpAnyC_take [0, 1, 9, 10, 11] (i := 0) (v := ?vp3) rfl (by kernel_rfl) (by kernel_rfl) (by kernel_rfl) (by kernel_rfl) (fun _ _ _ h => h) (Or.inl ⟨by rfl, ?yp3⟩) (by assumption) ?_
        case yp3 => (intro w hSw; (try dsimp only at hSw); go_simp; all_goals (with_reducible rfl))
        (try simp only [Act.put, List.setIfInBounds_toArray, List.set_cons_zero, List.set_cons_succ, List.getElem_toArray, List.getElem_cons_succ, List.getElem_cons_zero])
        refine wpAnyC_take [1, 9, 10, 11] (i := 1) (v := ?vp4) rfl (by kernel_rfl) (by kernel_rfl) (by kernel_rfl) (by kernel_rfl) (fun _ _ _ h => h) (Or.inl ⟨by rfl, ?yp4⟩) (by assumption) ?_
        case yp4 => (intro w hSw; (try dsimp only at hSw); go_simp; all_goals (with_reducible rfl))
        (try simp only [Act.put, List.setIfInBounds_toArray, List.set_cons_zero, List.set_cons_succ, List.getElem_toArray, List.getElem_cons_succ, List.getElem_cons_zero])
        refine wpAnyC_take [2, 3, 5, 6, 7, 8, 9, 10, 11] (i := 2) (v := ?vp5) rfl (by kernel_rfl) (by kernel_rfl) (by kernel_rfl) (by kernel_rfl) (fun _ _ _ h => h) (Or.inl ⟨by rfl, ?yp5⟩) (by assumption) ?_
        case yp5 => (intro w hSw; (try dsimp only at hSw); go_simp; all_goals (with_reducible rfl))
        (try simp only [Act.put, List.setIfInBounds_toArray, List.set_cons_zero, List.set_cons_succ, List.getElem_toArray, List.getElem_cons_succ, List.getElem_cons_zero])
        refine wpAnyC_take [3, 5, 6, 7, 8, 9, 10, 11] (i := 3) (v := ?vp6) rfl (by kernel_rfl) (by kernel_rfl) (by kernel_rfl) (by kernel_rfl) (fun _ _ _ h => h) (Or.inl ⟨by rfl, ?yp6⟩) (by assumption) ?_
        case yp6 => (intro w hSw; (try dsimp only at hSw); go_simp; all_goals (with_reducible rfl))
        (try simp only [Act.put, List.setIfInBounds_toArray, List.set_cons_zero, List.set_cons_succ, List.getElem_toArray, List.getElem_cons_succ, List.getElem_cons_zero])
        refine wpAnyC_take [4, 5, 6, 7, 8, 9, 10, 11] (i := 4) (v := ?vp7) rfl (by kernel_rfl) (by kernel_rfl) (by kernel_rfl) (by kernel_rfl) (fun _ _ _ h => h) (Or.inl ⟨by rfl, ?yp7⟩) (by assumption) ?_
        case yp7 => (intro w hSw; (try dsimp only at hSw); go_simp; all_goals (with_reducible rfl))
        (try simp only [Act.put, List.setIfInBounds_toArray, List.set_cons_zero, List.set_cons_succ, List.getElem_toArray, List.getElem_cons_succ, List.getElem_cons_zero])
        refine wpAnyC_take [5, 6, 7, 8, 9, 10, 11] (i := 5) (v := ?vp8) rfl (by kernel_rfl) (by kernel_rfl) (by kernel_rfl) (by kernel_rfl) (fun _ _ _ h => h) (Or.inl ⟨by rfl, ?yp8⟩) (by assumption) ?_
        case yp8 => (intro w hSw; (try dsimp only at hSw); go_simp; all_goals (with_reducible rfl))
        (try simp only [Act.put, List.setIfInBounds_toArray, List.set_cons_zero, List.set_cons_succ, List.getElem_toArray, List.getElem_cons_succ, List.getElem_cons_zero])
        refine wpAnyC_take [6, 7, 8, 9, 10, 11] (i := 6) (v := ?vp9) rfl (by kernel_rfl) (by kernel_rfl) (by kernel_rfl) (by kernel_rfl) (fun _ _ _ h => h) (Or.inl ⟨by rfl, ?yp9⟩) (by assumption) ?_
        case yp9 => (intro w hSw; (try dsimp only at hSw); go_simp; all_goals (with_reducible rfl))
        (try simp only [Act.put, List.setIfInBounds_toArray, List.set_cons_zero, List.set_cons_succ, List.getElem_toArray, List.getElem_cons_succ, List.getElem_cons_zero])
        refine wpAnyC_one (i := 7) (by kernel_rfl) (by rfl) rfl (fun K hK => ?_)
        go_simp
        have FQp10 := FB_p2
        refine (HCP.out wp1 (HBI.out.trans (FB_p2.out.mono HBI.out.size))).mono ?_
        rintro e wp10 ⟨A9, c9, rfl, ownp10, belp10⟩
        dsimp only
        have FB_p11 := Lib.hid ((FB_p2.out).trans ((belp10).mono (FB_p2.out).size))
        clear FB_p2
        have OWN := Lib.hid (ownp10.mono FQp10.out.size)
        clear ownp10 belp10 FQp10
        refine hK.out _ _ (HSX.out _ FB_p11.out) (fun hHeld => ?_)
        clear hK K
        (try simp only [Act.put, List.setIfInBounds_toArray, List.set_cons_zero, List.set_cons_succ, List.getElem_toArray, List.getElem_cons_succ, List.getElem_cons_zero])
        refine wpAnyC_one (i := 8) (by kernel_rfl) (by rfl) rfl (fun K hK => ?_)
        go_simp
        have FBU := FB_p11
        obtain ⟨wp12, hwp12⟩ : ∃ w', w' = wp10.alloc (.cells #[.slice A9 q.length c9] 24) := ⟨_, rfl⟩
        rw [← hwp12]
        have bp12 : Below wp10.heap.size wp10 wp12 := by rw [hwp12]; exact (Below.refl _ _).alloc (Nat.le_refl _) _
        have HW9 := Lib.hid hwp12
        clear hwp12
        have FB_p13 := Lib.hid ((FB_p11.out).trans ((bp12).mono (FB_p11.out).size))
        clear FB_p11
        clear bp12
        refine hK.out _ _ (HSX.out _ FB_p13.out) (fun hHeld => ?_)
        clear hK K
        (try simp only [Act.put, List.setIfInBounds_toArray, List.set_cons_zero, List.set_cons_succ, List.getElem_toArray, List.getElem_cons_succ, List.getElem_cons_zero])
        refine wpAnyC_one (i := 9) (by kernel_rfl) (by rfl) rfl (fun K hK => ?_)
        have OW := Lib.hid (own_below HS.out.p.own.q.outer FB_p13.out (Nat.le_refl _))
        have hz9 := FB_p13.out.size
        obtain ⟨H8, hH8⟩ : ∃ q, wp12.heap.size = q := ⟨_, rfl⟩
        have HN9 := Lib.hid (oneQ wp10 (.slice A9 q.length c9) 24)
        rw [← HW9.out] at HN9
        refine step_append_lies _ rfl _ _ 22 rfl w0.heap.size 24 i4 (.slice none 0 0) 1 24 Tryz.underlying22 HI4.out HZ40.out HZ41.out HZ42.out rfl (by decide) _ _ _ rfl OW.out ⟨wp10.heap.size, 0, none⟩ 1 1 [.slice A9 q.length c9] rfl rfl HN9.out (by intro u hu; simp at hu; subst hu; rfl) (by decide) (by simp only [maxLen]; (try dsimp only); omega) (by (try dsimp only); omega) (by omega) H8 hH8 ?_
        intro g9 cap9 w9 hown9 hgrow9 hat9 hlt9
        rw [HW9.out] at hgrow9 hH8
        have p9 := HS.out.pushW FBU.out OWN.out hown9 hgrow9 (hat9.imp id (fun e => e.trans hH8.symm))
        rw [← HW9.out] at hgrow9
        rw [show (W ++ [q]).length = W.length + 1 by simp] at p9
        have hx9 := (hgrow9.block sx (Nat.lt_of_lt_of_le hsxl FB_p13.out.size) (fun e2 => (HS.out.p.far sx HS.out.p.sxl HS.out.p.sxf).a e2.symm)).trans ((FB_p13.out.block sx hsxl).trans HS.out.p.box)
        have HB9 := Lib.hid ((HS.out.p.bel.trans (FB_p13.out.mono HS.out.p.bel.size)).grown hgrow9 (by omega) (fun q hq => (HS.out.p.own.q.outer.lt q hq).1))
        have HP9 := Lib.hid p9; have HX9 := Lib.hid hx9
        clear p9 hx9 hown9 hgrow9 hat9 hlt9 hH8 OW
        refine hK.out _ _ (⟨(three_cells HX9.out).1, HSY.out _ HB9.out⟩) (fun hHeld => ?_)
        clear hK K
        (try simp only [Act.put, List.setIfInBounds_toArray, List.set_cons_zero, List.set_cons_succ, List.getElem_toArray, List.getElem_cons_succ, List.getElem_cons_zero])
        refine wpAnyC_take [10, 11] (i := 10) (v := ?vp14) rfl (by kernel_rfl) (by kernel_rfl) (by kernel_rfl) (by kernel_rfl) (fun _ _ _ h => h) (Or.inl ⟨by rfl, ?yp14⟩) (by assumption) ?_
        case yp14 => (intro w hSw; (try dsimp only at hSw); go_simp; all_goals (with_reducible rfl))
        (try simp only [Act.put, List.setIfInBounds_toArray, List.set_cons_zero, List.set_cons_succ, List.getElem_toArray, List.getElem_cons_succ, List.getElem_cons_zero])
        refine wpAnyC_last (by kernel_rfl) rfl (fun K hK => ?_)
        obtain ⟨a0, a1, a2⟩ := three_cells HX9.out
        have f0 := frozen_of_row _ _ 0 _ _ HX9.out; have f1 := frozen_of_row _ _ 1 _ _ HX9.out; have f2 := frozen_of_row _ _ 2 _ _ HX9.out
        go_simp
        clear a0 a1 a2 f0 f1 f2
        refine hK.out _ _ ?_
        clear hK K hHeld
        (try simp only [Act.put, List.setIfInBounds_toArray, List.set_cons_zero, List.set_cons_succ, List.getElem_toArray, List.getElem_cons_succ, List.getElem_cons_zero])
        refine wpAnyH_done (by kernel_rfl) ?_ _
        go_wp2
        go_roundw
        case rel => exact ⟨k + 1, by omega, by go_num, (by rw [HSW.out, HN1.out]; exact ⟨_, HP9.out⟩)⟩
        case measure => simp [intOf]; omega
    · have hkl : k = N.w.length := by omega
      subst hkl
      obtain ⟨A1, c1, rfl⟩ := own_shapeP SS.o
      have hnl := nmU_len N PK N.w.length
      have P1 := Lib.hid SS.p.againQ
      have HNM := Lib.hid (fun (wx : World) (h2 : NH) (M2 : Nt) (p2 : PlSt w0 wr wx sx hh ⟨cutW N PK N.w.length, [], []⟩ h2 M2) => p2.rowQ (A := A1) (n := N.w.length) (c := c1) (xs := nmU N PK N.w.length) (by have q := RdI.of_own SS.o; rw [hnl] at q; exact q) (fun b e => ⟨SS.far b (by rw [hnl]; exact e), by
        have h1 := (SS.o.lt b (by rw [hnl]; exact e)).1
        have h2 := SS.p.sxl
        omega⟩))
      have HNF := Lib.hid (fun (b : Nat) (e : (Value.slice A1 N.w.length c1).ownBlock = some b) => And.intro (SS.far b (by rw [hnl]; exact e)) (SS.o.lt b (by rw [hnl]; exact e)).2)
      rw [hnl]
      obtain ⟨y0, y1, y2⟩ := HKB.out wr SS.p.bel
      clear SS hnl
      generalize cutW N PK N.w.length = W at *
      go_wp2
      clear y0 y1 y2
      go_loopw [10] (fun i wx => ∃ k : Nat, k ≤ N.l.length ∧ i = .int .i64 k ∧ ∃ h2, PlSt w0 wr wx sx hh ⟨W, [], []⟩ h2 ⟨W, cutL N PK k, []⟩) (fun i _ => N.l.length - (intOf i).toNat)
      case atStart => exact ⟨0, Nat.zero_le _, rfl, _, P1.out⟩
      case round =>
        rename World => wy
        obtain ⟨k, hk, rfl, h3, PP⟩ := hrel
        by_cases hlt : k < N.l.length
        · have hBI := PP.bel
          have HHK := Lib.hid (HHA.out wy hBI k hlt)
          obtain ⟨y0, y1, y2⟩ := HKB.out wy hBI
          have HY := Lib.hid (cutL_yes (N := N) (K := PK) (k := k))
          have HNO := Lib.hid (cutL_no (N := N) (K := PK) (k := k))
          have hll := cutL_len N PK k
          have HP := Lib.hid PP
          cases hK : PK k with
          | false =>
            rw [hK] at HHK
            clear PP
            go_wp2_with (fail)
            refine HHK.out.mono ?_
            rintro e w9 ⟨rfl, rfl⟩
            go_wp2
            go_roundw
            case rel => exact ⟨k + 1, by omega, by go_num, _, by rw [HNO.out hK]; exact HP.out⟩
            case measure => simp [intOf]; omega
          | true =>
            rw [hK] at HHK
            have HSU := Lib.hid (HY.out hK)
            obtain ⟨bL, oL, hLe, hLb, hLc⟩ := (HRL.out wy hBI).at (by omega)
            obtain ⟨l0, l1, l2, l3⟩ := hLc k hlt
            obtain ⟨ia, ib, ic⟩ := HLF.out k hlt
            obtain ⟨bl, z0, z1, z2, z3, zs⟩ := lnk_any wy (N.l.getD k Lk.nil) 103
            obtain ⟨⟨rk, ra, rb, rc⟩, hrn⟩ : ∃ l, rnL N PK (N.l.getD k Lk.nil) = l := ⟨_, rfl⟩
            rw [hrn] at HSU
            unfold rnL at hrn
            obtain ⟨bN, oN, rfl, hNb, hNc⟩ := (HNM.out wy h3 _ PP).2 (by have := (inW_yes ia).2.1; omega)
            generalize N.l.getD k Lk.nil = l at *
            obtain ⟨lk, la, lb, lc⟩ := l
            dsimp only at bl z0 z1 z2 z3 zs l0 l1 l2 l3 ia ib ic hrn
            obtain ⟨_, ha1, ha2⟩ := inW_yes ia
            obtain ⟨_, hb1, hb2⟩ := inW_yes ib
            obtain ⟨_, hc1, hc2⟩ := inW_yes ic
            generalize la.toNat = xa at *
            generalize lb.toNat = xb at *
            generalize lc.toNat = xc at *
            subst ha2 hb2 hc2
            have na := (hNc xa ha1).trans (by rw [nmU_at ha1])
            have nb := (hNc xb hb1).trans (by rw [nmU_at hb1])
            have nc := (hNc xc hc1).trans (by rw [nmU_at hc1])
            generalize nmW N PK (xa : Int) = va at *
            generalize nmW N PK (xb : Int) = vb at *
            generalize nmW N PK (xc : Int) = vc at *
            injection hrn with r1 r2 r3 r4
            subst r1 r2 r3
            obtain ⟨u4, hu4⟩ : ∃ u4, u4 = wy.alloc (.cells #[.int .i64 lk, .int .i64 xa, .int .i64 xb, .int .i64 xc] 103) := ⟨_, rfl⟩
            rw [← hu4] at bl z0 z1 z2 z3 zs
            have HP4 := Lib.hid (PP.below bl)
            have hzl : wy.heap.size < u4.heap.size := by omega
            have hxi : (k : Int) < (N.l.length : Int) := by omega
            have hia : (xa : Int) < (N.w.length : Int) := by omega
            have hib : (xb : Int) < (N.w.length : Int) := by omega
            have hic : (xc : Int) < (N.w.length : Int) := by omega
            obtain ⟨LS, hLS⟩ : ∃ L, cutL N PK k = L := ⟨_, rfl⟩
            rw [hLS] at HP4 HSU hll
            have HLS : Hid ((cutL N PK (k + 1)).length = LS.length + 1) := Lib.hid (by rw [HSU.out]; simp)
            have HBW : Hid (Below wy.heap.size wy u4) := Lib.hid bl
            have HSW : Hid (∀ wx : World, Below u4.heap.size u4 wx → wx.cell? ⟨wy.heap.size, 0, none⟩ = some (.int .i64 lk) ∧ wx.cell? ⟨wy.heap.size, 1, none⟩ = some (.int .i64 xa) ∧ wx.cell? ⟨wy.heap.size, 2, none⟩ = some (.int .i64 xb) ∧ wx.cell? ⟨wy.heap.size, 3, none⟩ = some (.int .i64 xc) ∧ wx.cell? ⟨bN, oN + xa, none⟩ = some (.int .i64 va) ∧ wx.cell? ⟨bN, oN + xb, none⟩ = some (.int .i64 vb) ∧ wx.cell? ⟨bN, oN + xc, none⟩ = some (.int .i64 vc)) := Lib.hid fun wx hx =>
              have hy := HBW.out.trans (hx.mono HBW.out.size)
              ⟨(hx.cell (p := ⟨wy.heap.size, 0, none⟩) hzl).trans z0, (hx.cell (p := ⟨wy.heap.size, 1, none⟩) hzl).trans z1, (hx.cell (p := ⟨wy.heap.size, 2, none⟩) hzl).trans z2, (hx.cell (p := ⟨wy.heap.size, 3, none⟩) hzl).trans z3, (hy.cell (p := ⟨bN, oN + xa, none⟩) hNb).trans na, (hy.cell (p := ⟨bN, oN + xb, none⟩) hNb).trans nb, (hy.cell (p := ⟨bN, oN + xc, none⟩) hNb).trans nc⟩
            have HU4 := Lib.hid hu4
            rw [hLe] at y1
            clear PP hLc hLe bl zs hu4 hLS z0 z1 z2 z3 hBI y0 y2 na nb nc hNc HY HNO hK HP ia ib ic
            go_wp2_with (fail)
            refine HHK.out.mono ?_
            rintro e w9 ⟨rfl, hwq⟩
            have hwq := hwq.symm
            subst hwq
            clear HHK
            go_upto_region 14 with (fail)
            rw [← HU4.out]
            clear l0 l1 l2 l3 y1
            have FB_0 := Lib.hid (Below.refl u4.heap.size u4)
            refine wp_region_C_drew (c := 14) (S := fun wx => wx.cell? ⟨wy.heap.size, 0, none⟩ = some (.int .i64 lk) ∧ wx.cell? ⟨wy.heap.size, 1, none⟩ = some (.int .i64 xa) ∧ wx.cell? ⟨wy.heap.size, 2, none⟩ = some (.int .i64 xb) ∧ wx.cell? ⟨wy.heap.size, 3, none⟩ = some (.int .i64 xc) ∧ wx.cell? ⟨bN, oN + xa, none⟩ = some (.int .i64 va) ∧ wx.cell? ⟨bN, oN + xb, none⟩ = some (.int .i64 vb) ∧ wx.cell? ⟨bN, oN + xc, none⟩ = some (.int .i64 vc)) (by kernel_rfl) (HSW.out _ (Below.refl _ _).drew) (fun hHeld => ?_)
            obtain ⟨wq1, hwq1⟩ : ∃ w', w' = u4.drew := ⟨_, rfl⟩
            rw [← hwq1] at hHeld ⊢
            have bq1 : Below u4.heap.size u4 wq1 := by rw [hwq1]; exact (Below.refl _ _).drew
            clear hwq1
            have FB_q2 := Lib.hid ((FB_0.out).trans ((bq1).mono (FB_0.out).size))
            clear FB_0
            refine wpAnyC_take [0, 1, 12, 14] (i := 0) (v := ?vq3) rfl (by kernel_rfl) (by kernel_rfl) (by kernel_rfl) (by kernel_rfl) (fun _ _ _ h => h) (Or.inl ⟨by rfl, ?yq3⟩) (by assumption) ?_
            case yq3 => (intro w hSw; (try dsimp only at hSw); go_simp; all_goals (with_reducible rfl))
            (try simp only [Act.put, List.setIfInBounds_toArray, List.set_cons_zero, List.set_cons_succ, List.getElem_toArray, List.getElem_cons_succ, List.getElem_cons_zero])
            refine wpAnyC_take [1, 12, 14] (i := 1) (v := ?vq4) rfl (by kernel_rfl) (by kernel_rfl) (by kernel_rfl) (by kernel_rfl) (fun _ _ _ h => h) (Or.inl ⟨by rfl, ?yq4⟩) (by assumption) ?_
            case yq4 => (intro w hSw; (try dsimp only at hSw); go_simp; all_goals (with_reducible rfl))
            (try simp only [Act.put, List.setIfInBounds_toArray, List.set_cons_zero, List.set_cons_succ, List.getElem_toArray, List.getElem_cons_succ, List.getElem_cons_zero])
            refine wpAnyC_take [2, 5, 6, 12, 14] (i := 2) (v := ?vq5) rfl (by kernel_rfl) (by kernel_rfl) (by kernel_rfl) (by kernel_rfl) (fun _ _ _ h => h) (Or.inl ⟨by rfl, ?yq5⟩) (by assumption) ?_
            case yq5 => (intro w hSw; (try dsimp only at hSw); go_simp; all_goals (with_reducible rfl))
            (try simp only [Act.put, List.setIfInBounds_toArray, List.set_cons_zero, List.set_cons_succ, List.getElem_toArray, List.getElem_cons_succ, List.getElem_cons_zero])
            refine wpAnyC_take [3, 4, 5, 6, 12, 14] (i := 3) (v := ?vq6) rfl (by kernel_rfl) (by kernel_rfl) (by kernel_rfl) (by kernel_rfl) (fun _ _ _ h => h) (Or.inl ⟨by rfl, ?yq6⟩) (by assumption) ?_
            case yq6 => (intro w hSw; (try dsimp only at hSw); go_simp; all_goals (with_reducible rfl))
            (try simp only [Act.put, List.setIfInBounds_toArray, List.set_cons_zero, List.set_cons_succ, List.getElem_toArray, List.getElem_cons_succ, List.getElem_cons_zero])
            refine wpAnyC_take [4, 5, 6, 12, 14] (i := 4) (v := ?vq7) rfl (by kernel_rfl) (by kernel_rfl) (by kernel_rfl) (by kernel_rfl) (fun _ _ _ h => h) (Or.inl ⟨by rfl, ?yq7⟩) (by assumption) ?_
            case yq7 => (intro w hSw; (try dsimp only at hSw); go_simp; all_goals (with_reducible rfl))
            (try simp only [Act.put, List.setIfInBounds_toArray, List.set_cons_zero, List.set_cons_succ, List.getElem_toArray, List.getElem_cons_succ, List.getElem_cons_zero])
            refine wpAnyC_take [5, 6, 12, 14] (i := 5) (v := ?vq8) rfl (by kernel_rfl) (by kernel_rfl) (by kernel_rfl) (by kernel_rfl) (fun _ _ _ h => h) (Or.inl ⟨by rfl, ?yq8⟩) (by assumption) ?_
            case yq8 => (intro w hSw; (try dsimp only at hSw); go_simp; all_goals (with_reducible rfl))
            (try simp only [Act.put, List.setIfInBounds_toArray, List.set_cons_zero, List.set_cons_succ, List.getElem_toArray, List.getElem_cons_succ, List.getElem_cons_zero])
            refine wpAnyC_take [6, 12, 14] (i := 6) (v := ?vq9) rfl (by kernel_rfl) (by kernel_rfl) (by kernel_rfl) (by kernel_rfl) (fun _ _ _ h => h) (Or.inl ⟨by rfl, ?yq9⟩) (by assumption) ?_
            case yq9 => (intro w hSw; (try dsimp only at hSw); go_simp; all_goals (with_reducible rfl))
            (try simp only [Act.put, List.setIfInBounds_toArray, List.set_cons_zero, List.set_cons_succ, List.getElem_toArray, List.getElem_cons_succ, List.getElem_cons_zero])
            refine wpAnyC_take [7, 10, 11, 12, 14] (i := 7) (v := ?vq10) rfl (by kernel_rfl) (by kernel_rfl) (by kernel_rfl) (by kernel_rfl) (fun _ _ _ h => h) (Or.inl ⟨by rfl, ?yq10⟩) (by assumption) ?_
            case yq10 => (intro w hSw; (try dsimp only at hSw); go_simp; all_goals (with_reducible rfl))
            (try simp only [Act.put, List.setIfInBounds_toArray, List.set_cons_zero, List.set_cons_succ, List.getElem_toArray, List.getElem_cons_succ, List.getElem_cons_zero])
            refine wpAnyC_take [8, 9, 10, 11, 12, 14] (i := 8) (v := ?vq11) rfl (by kernel_rfl) (by kernel_rfl) (by kernel_rfl) (by kernel_rfl) (fun _ _ _ h => h) (Or.inl ⟨by rfl, ?yq11⟩) (by assumption) ?_
            case yq11 => (intro w hSw; (try dsimp only at hSw); go_simp; all_goals (with_reducible rfl))
            (try simp only [Act.put, List.setIfInBounds_toArray, List.set_cons_zero, List.set_cons_succ, List.getElem_toArray, List.getElem_cons_succ, List.getElem_cons_zero])
            refine wpAnyC_take [9, 10, 11, 12, 14] (i := 9) (v := ?vq12) rfl (by kernel_rfl) (by kernel_rfl) (by kernel_rfl) (by kernel_rfl) (fun _ _ _ h => h) (Or.inl ⟨by rfl, ?yq12⟩) (by assumption) ?_
            case yq12 => (intro w hSw; (try dsimp only at hSw); go_simp; all_goals (with_reducible rfl))
            (try simp only [Act.put, List.setIfInBounds_toArray, List.set_cons_zero, List.set_cons_succ, List.getElem_toArray, List.getElem_cons_succ, List.getElem_cons_zero])
            refine wpAnyC_take [10, 11, 12, 14] (i := 10) (v := ?vq13) rfl (by kernel_rfl) (by kernel_rfl) (by kernel_rfl) (by kernel_rfl) (fun _ _ _ h => h) (Or.inl ⟨by rfl, ?yq13⟩) (by assumption) ?_
            case yq13 => (intro w hSw; (try dsimp only at hSw); go_simp; all_goals (with_reducible rfl))
            (try simp only [Act.put, List.setIfInBounds_toArray, List.set_cons_zero, List.set_cons_succ, List.getElem_toArray, List.getElem_cons_succ, List.getElem_cons_zero])
            refine wpAnyC_take [11, 12, 14] (i := 11) (v := ?vq14) rfl (by kernel_rfl) (by kernel_rfl) (by kernel_rfl) (by kernel_rfl) (fun _ _ _ h => h) (Or.inl ⟨by rfl, ?yq14⟩) (by assumption) ?_
            case yq14 => (intro w hSw; (try dsimp only at hSw); go_simp; all_goals (with_reducible rfl))
            (try simp only [Act.put, List.setIfInBounds_toArray, List.set_cons_zero, List.set_cons_succ, List.getElem_toArray, List.getElem_cons_succ, List.getElem_cons_zero])
            refine wpAnyC_take [12, 14] (i := 12) (v := ?vq15) rfl (by kernel_rfl) (by kernel_rfl) (by kernel_rfl) (by kernel_rfl) (fun _ _ _ h => h) (Or.inl ⟨by rfl, ?yq15⟩) (by assumption) ?_
            case yq15 => (intro w hSw; (try dsimp only at hSw); go_simp; all_goals (with_reducible rfl))
            (try simp only [Act.put, List.setIfInBounds_toArray, List.set_cons_zero, List.set_cons_succ, List.getElem_toArray, List.getElem_cons_succ, List.getElem_cons_zero])
            refine wpAnyC_one (i := 13) (by kernel_rfl) (by rfl) rfl (fun K hK => ?_)
            go_simp
            have FBU := FB_q2
            obtain ⟨wq16, hwq16⟩ : ∃ w', w' = wq1.alloc (.cells #[.int .i64 0, .int .i64 0, .int .i64 0, .int .i64 0] 103) := ⟨_, rfl⟩
            rw [← hwq16]
            have bq16 : Below wq1.heap.size wq1 wq16 := by rw [hwq16]; exact (Below.refl _ _).alloc (Nat.le_refl _) _
            have HW9 := Lib.hid hwq16
            clear hwq16
            have FB_q17 := Lib.hid ((FB_q2.out).trans ((bq16).mono (FB_q2.out).size))
            clear FB_q2
            clear bq16
            refine hK.out _ _ (HSW.out _ FB_q17.out) (fun hHeld => ?_)
            clear hK K
            (try simp only [Act.put, List.setIfInBounds_toArray, List.set_cons_zero, List.set_cons_succ, List.getElem_toArray, List.getElem_cons_succ, List.getElem_cons_zero])
            refine wpAnyC_last (by kernel_rfl) rfl (fun K hK => ?_)
            have G13 : wq16.heap[wq1.heap.size]? = some (.cells #[.int .i64 0, .int .i64 0, .int .i64 0, .int .i64 0] 103 (0, 0)) := by rw [HW9.out]; exact heap_alloc_new _ _
            obtain ⟨a0, a1, a2, a3⟩ := four_cellsQ G13
            have f0 := frozen_of_row _ _ 0 _ _ G13; have f1 := frozen_of_row _ _ 1 _ _ G13; have f2 := frozen_of_row _ _ 2 _ _ G13; have f3 := frozen_of_row _ _ 3 _ _ G13
            have HG13 := Lib.hid G13
            have hug := FBU.out.size
            go_simp
            clear a0 a1 a2 a3 f0 f1 f2 f3 G13
            refine hK.out _ _ ?_
            clear hK K hHeld
            (try simp only [Act.put, List.setIfInBounds_toArray, List.set_cons_zero, List.set_cons_succ, List.getElem_toArray, List.getElem_cons_succ, List.getElem_cons_zero])
            refine wpAnyH_done (by kernel_rfl) ?_ _
            obtain ⟨u5, hu5⟩ : ∃ u, u = ((((wq16.setCell ⟨wq1.heap.size, 0, none⟩ (.int .i64 lk)).setCell ⟨wq1.heap.size, 1, none⟩ (.int .i64 va)).setCell ⟨wq1.heap.size, 2, none⟩ (.int .i64 vb)).setCell ⟨wq1.heap.size, 3, none⟩ (.int .i64 0)) := ⟨_, rfl⟩
            rw [← hu5]
            have HB5 : Hid (Below u4.heap.size u4 u5) := Lib.hid (by rw [hu5]; exact (((FB_q17.out.setCell (p := ⟨wq1.heap.size, 0, none⟩) hug _).setCell (p := ⟨wq1.heap.size, 1, none⟩) hug _).setCell (p := ⟨wq1.heap.size, 2, none⟩) hug _).setCell (p := ⟨wq1.heap.size, 3, none⟩) hug _)
            have HG5 : Hid (u5.heap[wq1.heap.size]? = some (.cells #[.int .i64 lk, .int .i64 va, .int .i64 vb, .int .i64 0] 103 (0, 0))) := Lib.hid (by rw [hu5]; exact set4_atQ HG13.out _ _ _ _)
            obtain ⟨g, hg⟩ : ∃ g, wq1.heap.size = g := ⟨_, rfl⟩
            rw [hg] at HG5 hug ⊢
            clear hu5 HG13 hg
            have HLF2 : Hid (∀ b, (Value.slice h3.L LS.length h3.d).ownBlock = some b → b ≠ g) := Lib.hid fun b e e2 => by have := (HP4.out.own.l.lt b e).2; omega
            obtain ⟨z0, z1, z2, z3, na, nb, nc⟩ := HSW.out u5 HB5.out
            by_cases e3 : lk = 3
            · have d1 : (lk == 3) = true := by simp [e3]
              have hrc : rc = vc := by rw [← r4, if_pos (by omega)]
              subst hrc
              clear r4
              (try clear e4)
              (try clear e3)
              obtain ⟨a0, a1, a2, a3⟩ := four_cellsQ HG5.out
              have f3 := frozen_of_row _ _ 3 _ _ HG5.out
              go_upto_region 17 with (fail)
              clear z0 z1 z2 z3 na nb nc a0 a1 a2 a3 f3
              obtain ⟨u6, hu6⟩ : ∃ u, u = u5.setCell ⟨g, 3, none⟩ (.int .i64 rc) := ⟨_, rfl⟩
              rw [← hu6]
              have HBU : Hid (Below u4.heap.size u4 u6) := Lib.hid (by rw [hu6]; exact HB5.out.setCell (p := ⟨g, 3, none⟩) hug _)
              have HGU : Hid (u6.heap[g]? = some (.cells #[.int .i64 lk, .int .i64 va, .int .i64 vb, .int .i64 rc] 103 (0, 0))) := Lib.hid (by rw [hu6]; exact set4_one HG5.out _)
              clear hu6
              have HS := Lib.hid (HP4.out.below HBU.out)
              have hsxl := Nat.lt_of_lt_of_le HS.out.sxl HS.out.size
              have HBS := HS.out.bel.size
              obtain ⟨x0, x1, x2⟩ := three_cells HS.out.box
              obtain ⟨z0, z1, z2, z3⟩ := four_cellsQ HGU.out
              dsimp only at x0 x1 x2
              go_wp2_with (at_builtin; refine wpList_append_own_at _ rfl _ _ 28 rfl w0.heap.size 103 i5 (.agg #[.int .i64 0, .int .i64 0, .int .i64 0, .int .i64 0]) 4 32 Tryz.underlying28 HI5.out HZ50.out HZ51.out HZ52.out rfl (by decide) _ _ _ rfl (HS.out.own.l.alloc _) ⟨u6.heap.size, 0, none⟩ 1 1 [.int .i64 lk, .int .i64 va, .int .i64 vb, .int .i64 rc] rfl rfl ?c1 ?c2 ?c3 ?c4 ?c5 ?_)
              case c1 => exact fourQ _ _ _ _ _ _
              case c2 => intro u hu; simp at hu; rcases hu with rfl | rfl | rfl | rfl <;> rfl
              case c3 => simp only [maxLen]; (try dsimp only); omega
              case c4 => (try dsimp only); omega
              case c5 => simp; omega
              intro v7 w7 hown7 hgrow7 _ hat7
              obtain ⟨A7, c7, rfl⟩ := own_shape4 hown7
              have O9 : w7.ownsRow w0.heap.size 103 4 (.slice A7 (cutL N PK (k + 1)).length c7) (cutL N PK (k + 1)).length ((flL (cutL N PK (k + 1))).map (Value.int .i64)) := by rw [HLS.out, HSU.out, flL_appq, List.map_append]; exact hown7
              have p9 := HS.out.pushL ((Below.refl _ _).alloc (Nat.le_refl _) _) O9 hgrow7 (by rw [HLS.out, World.size_alloc]; exact hat7)
              rw [HLS.out] at p9
              have hx9 := (hgrow7.block sx (by simp; omega) (fun e2 => (HS.out.far sx HS.out.sxl HS.out.sxf).l e2.symm)).trans ((((Below.refl _ _).alloc (Nat.le_refl _) _).block sx hsxl).trans HS.out.box)
              have HP9 := Lib.hid p9
              clear p9 O9 hown7 hgrow7 hat7 x0 x1 x2 z0 z1 z2 z3
              obtain ⟨a0, a1, a2⟩ := three_cells hx9
              have f0 := frozen_of_row _ _ 0 _ _ hx9; have f1 := frozen_of_row _ _ 1 _ _ hx9; have f2 := frozen_of_row _ _ 2 _ _ hx9
              clear hx9
              dsimp only at a0 a1 a2 f0 f1 f2
              go_wp2
              go_roundw
              case rel => exact ⟨k + 1, by omega, by go_num, _, HP9.out⟩
              case measure => simp [intOf]; omega
            · have d1 : (lk == 3) = false := by simpa using e3
              by_cases e4 : lk = 4
              · have d2 : (lk == 4) = true := by simp [e4]
                have hrc : rc = vc := by rw [← r4, if_pos (by omega)]
                subst hrc
                clear r4
                (try clear e4)
                (try clear e3)
                obtain ⟨a0, a1, a2, a3⟩ := four_cellsQ HG5.out
                have f3 := frozen_of_row _ _ 3 _ _ HG5.out
                go_upto_region 17 with (fail)
                clear z0 z1 z2 z3 na nb nc a0 a1 a2 a3 f3
                obtain ⟨u6, hu6⟩ : ∃ u, u = u5.setCell ⟨g, 3, none⟩ (.int .i64 rc) := ⟨_, rfl⟩
                rw [← hu6]
                have HBU : Hid (Below u4.heap.size u4 u6) := Lib.hid (by rw [hu6]; exact HB5.out.setCell (p := ⟨g, 3, none⟩) hug _)
                have HGU : Hid (u6.heap[g]? = some (.cells #[.int .i64 lk, .int .i64 va, .int .i64 vb, .int .i64 rc] 103 (0, 0))) := Lib.hid (by rw [hu6]; exact set4_one HG5.out _)
                clear hu6
                have HS := Lib.hid (HP4.out.below HBU.out)
                have hsxl := Nat.lt_of_lt_of_le HS.out.sxl HS.out.size
                have HBS := HS.out.bel.size
                obtain ⟨x0, x1, x2⟩ := three_cells HS.out.box
                obtain ⟨z0, z1, z2, z3⟩ := four_cellsQ HGU.out
                dsimp only at x0 x1 x2
                go_wp2_with (at_builtin; refine wpList_append_own_at _ rfl _ _ 28 rfl w0.heap.size 103 i5 (.agg #[.int .i64 0, .int .i64 0, .int .i64 0, .int .i64 0]) 4 32 Tryz.underlying28 HI5.out HZ50.out HZ51.out HZ52.out rfl (by decide) _ _ _ rfl (HS.out.own.l.alloc _) ⟨u6.heap.size, 0, none⟩ 1 1 [.int .i64 lk, .int .i64 va, .int .i64 vb, .int .i64 rc] rfl rfl ?c1 ?c2 ?c3 ?c4 ?c5 ?_)
                case c1 => exact fourQ _ _ _ _ _ _
                case c2 => intro u hu; simp at hu; rcases hu with rfl | rfl | rfl | rfl <;> rfl
                case c3 => simp only [maxLen]; (try dsimp only); omega
                case c4 => (try dsimp only); omega
                case c5 => simp; omega
                intro v7 w7 hown7 hgrow7 _ hat7
                obtain ⟨A7, c7, rfl⟩ := own_shape4 hown7
                have O9 : w7.ownsRow w0.heap.size 103 4 (.slice A7 (cutL N PK (k + 1)).length c7) (cutL N PK (k + 1)).length ((flL (cutL N PK (k + 1))).map (Value.int .i64)) := by rw [HLS.out, HSU.out, flL_appq, List.map_append]; exact hown7
                have p9 := HS.out.pushL ((Below.refl _ _).alloc (Nat.le_refl _) _) O9 hgrow7 (by rw [HLS.out, World.size_alloc]; exact hat7)
                rw [HLS.out] at p9
                have hx9 := (hgrow7.block sx (by simp; omega) (fun e2 => (HS.out.far sx HS.out.sxl HS.out.sxf).l e2.symm)).trans ((((Below.refl _ _).alloc (Nat.le_refl _) _).block sx hsxl).trans HS.out.box)
                have HP9 := Lib.hid p9
                clear p9 O9 hown7 hgrow7 hat7 x0 x1 x2 z0 z1 z2 z3
                obtain ⟨a0, a1, a2⟩ := three_cells hx9
                have f0 := frozen_of_row _ _ 0 _ _ hx9; have f1 := frozen_of_row _ _ 1 _ _ hx9; have f2 := frozen_of_row _ _ 2 _ _ hx9
                clear hx9
                dsimp only at a0 a1 a2 f0 f1 f2
                go_wp2
                go_roundw
                case rel => exact ⟨k + 1, by omega, by go_num, _, HP9.out⟩
                case measure => simp [intOf]; omega
              · have d2 : (lk == 4) = false := by simpa using e4
                have hrc : rc = 0 := by rw [← r4, if_neg (by omega)]
                subst hrc
                clear r4
                go_upto_region 17 with (fail)
                clear z0 z1 z2 z3 na nb nc
                have HBU := HB5
                have HGU := HG5
                have HS := Lib.hid (HP4.out.below HBU.out)
                have hsxl := Nat.lt_of_lt_of_le HS.out.sxl HS.out.size
                have HBS := HS.out.bel.size
                obtain ⟨x0, x1, x2⟩ := three_cells HS.out.box
                obtain ⟨z0, z1, z2, z3⟩ := four_cellsQ HGU.out
                dsimp only at x0 x1 x2
                go_wp2_with (at_builtin; refine wpList_append_own_at _ rfl _ _ 28 rfl w0.heap.size 103 i5 (.agg #[.int .i64 0, .int .i64 0, .int .i64 0, .int .i64 0]) 4 32 Tryz.underlying28 HI5.out HZ50.out HZ51.out HZ52.out rfl (by decide) _ _ _ rfl (HS.out.own.l.alloc _) ⟨u5.heap.size, 0, none⟩ 1 1 [.int .i64 lk, .int .i64 va, .int .i64 vb, .int .i64 0] rfl rfl ?c1 ?c2 ?c3 ?c4 ?c5 ?_)
                case c1 => exact fourQ _ _ _ _ _ _
                case c2 => intro u hu; simp at hu; rcases hu with rfl | rfl | rfl | rfl <;> rfl
                case c3 => simp only [maxLen]; (try dsimp only); omega
                case c4 => (try dsimp only); omega
                case c5 => simp; omega
                intro v7 w7 hown7 hgrow7 _ hat7
                obtain ⟨A7, c7, rfl⟩ := own_shape4 hown7
                have O9 : w7.ownsRow w0.heap.size 103 4 (.slice A7 (cutL N PK (k + 1)).length c7) (cutL N PK (k + 1)).length ((flL (cutL N PK (k + 1))).map (Value.int .i64)) := by rw [HLS.out, HSU.out, flL_appq, List.map_append]; exact hown7
                have p9 := HS.out.pushL ((Below.refl _ _).alloc (Nat.le_refl _) _) O9 hgrow7 (by rw [HLS.out, World.size_alloc]; exact hat7)
                rw [HLS.out] at p9
                have hx9 := (hgrow7.block sx (by simp; omega) (fun e2 => (HS.out.far sx HS.out.sxl HS.out.sxf).l e2.symm)).trans ((((Below.refl _ _).alloc (Nat.le_refl _) _).block sx hsxl).trans HS.out.box)
                have HP9 := Lib.hid p9
                clear p9 O9 hown7 hgrow7 hat7 x0 x1 x2 z0 z1 z2 z3
                obtain ⟨a0, a1, a2⟩ := three_cells hx9
                have f0 := frozen_of_row _ _ 0 _ _ hx9; have f1 := frozen_of_row _ _ 1 _ _ hx9; have f2 := frozen_of_row _ _ 2 _ _ hx9
                clear hx9
                dsimp only at a0 a1 a2 f0 f1 f2
                go_wp2
                go_roundw
                case rel => exact ⟨k + 1, by omega, by go_num, _, HP9.out⟩
                case measure => simp [intOf]; omega
        · have hkl : k = N.l.length := by omega
          subst hkl
          have HP0 := Lib.hid PP
          obtain ⟨y0, y1, y2⟩ := HKB.out wy PP.bel
          clear PP P1
          generalize cutL N PK N.l.length = LS at *
          go_wp2
          clear y0 y1 y2
          go_loopw [13] (fun i wx => ∃ k : Nat, k ≤ cs.length ∧ i = .int .i64 k ∧ ∃ h2, PlSt w0 wr wx sx hh ⟨W, [], []⟩ h2 ⟨W, LS, ccU N PK cs k⟩) (fun i _ => cs.length - (intOf i).toNat)
          case atStart => exact ⟨0, Nat.zero_le _, rfl, _, HP0.out⟩
          case round =>
            rename World => wz
            obtain ⟨k, hk, rfl, h4, PP⟩ := hrel
            by_cases hlt : k < cs.length
            · have hBI := PP.bel
              obtain ⟨y0, y1, y2⟩ := HKB.out wz hBI
              obtain ⟨bK, oK, rfl, hKb, hKc⟩ := (HRC.out wz hBI).2 (by omega)
              have xk := hKc k hlt
              have ic := HCS.out k hlt
              obtain ⟨bN, oN, rfl, hNb, hNc⟩ := (HNM.out wz h4 _ PP).2 (by have := (inW_yes ic).2.1; omega)
              have HY := Lib.hid (ccU_yes (N := N) (K := PK) hlt)
              have HNO := Lib.hid (ccU_no (N := N) (K := PK) hlt)
              have hll := ccU_len N PK cs k
              have HFK := Lib.hid (fun (wx : World) (hx : Below w0.heap.size w0 wx) => HFR.out wx hx (cs.getD k 0) ic)
              obtain ⟨_, hc1, hc2⟩ := inW_yes ic
              generalize cs.getD k 0 = lc at *
              generalize lc.toNat = xc at *
              subst hc2
              have nc := (hNc xc hc1).trans (by rw [nmU_at hc1])
              have HHK := Lib.hid (fun (wx : World) (hx : Below w0.heap.size w0 wx) => HHA.out wx hx (frN N (xc : Int)) (HFL.out _ ic))
              generalize frN N (xc : Int) = fk at *
              obtain ⟨p, hp⟩ : ∃ p, nmW N PK (xc : Int) = p := ⟨_, rfl⟩
              rw [hp] at nc HY
              have HFN : Hid (FarN h4 ⟨W, LS, ccU N PK cs k⟩ bN) := Lib.hid (PP.far bN (HNF.out bN rfl).2 (HNF.out bN rfl).1)
              have HP := Lib.hid PP
              have HBZ := Lib.hid hBI
              have hxi : (k : Int) < (cs.length : Int) := by omega
              have hic : (xc : Int) < (N.w.length : Int) := by omega
              obtain ⟨CS, hCS⟩ : ∃ C, ccU N PK cs k = C := ⟨_, rfl⟩
              rw [hCS] at HP HY HNO hll HFN
              have hKb2 : bK < w0.heap.size := by omega
              have hzz := hBI.size
              have HK0 : Hid (w0.cell? ⟨bK, oK + k, none⟩ = some (.int .i64 xc)) := Lib.hid ((HBZ.out.cell (p := ⟨bK, oK + k, none⟩) hKb2).symm.trans xk)
              have HXK : Hid (∀ wx : World, Below wz.heap.size wz wx → wx.cell? ⟨bK, oK + k, none⟩ = some (.int .i64 xc) ∧ wx.cell? ⟨bN, oN + xc, none⟩ = some (.int .i64 p) ∧ wx.cell? ⟨w.heap.size, 0, none⟩ = some (.slice h.A N.w.length h.c) ∧ wx.cell? ⟨w.heap.size, 1, none⟩ = some (.slice h.L N.l.length h.d) ∧ wx.cell? ⟨w.heap.size, 2, none⟩ = some (.slice h.C N.c.length h.e)) := Lib.hid fun wx hx => ⟨(hx.cell (p := ⟨bK, oK + k, none⟩) (by show bK < wz.heap.size; omega)).trans xk, (hx.cell (p := ⟨bN, oN + xc, none⟩) hNb).trans nc, HKB.out wx (HBZ.out.trans (hx.mono HBZ.out.size))⟩
              clear PP hKc hNc hp hCS hBI ic y0 y1 y2 xk nc
              have HHQ := HHK
              clear HHK
              go_upto_region 21 with (fail)
              cases hK : PK fk with
              | false =>
                rw [hK] at HHQ
                have FB_0 := Lib.hid (Below.refl wz.heap.size wz)
                refine wp_region_held_drew (S := fun wx => wx.cell? ⟨bK, oK + k, none⟩ = some (.int .i64 xc) ∧ wx.cell? ⟨bN, oN + xc, none⟩ = some (.int .i64 p) ∧ wx.cell? ⟨w.heap.size, 0, none⟩ = some (.slice h.A N.w.length h.c) ∧ wx.cell? ⟨w.heap.size, 1, none⟩ = some (.slice h.L N.l.length h.d) ∧ wx.cell? ⟨w.heap.size, 2, none⟩ = some (.slice h.C N.c.length h.e)) (by kernel_rfl) (HXK.out _ (Below.refl _ _).drew) (fun hHeld => ?_)
                obtain ⟨wm1, hwm1⟩ : ∃ w', w' = wz.drew := ⟨_, rfl⟩
                rw [← hwm1] at hHeld ⊢
                have bm1 : Below wz.heap.size wz wm1 := by rw [hwm1]; exact (Below.refl _ _).drew
                clear hwm1
                have FB_m2 := Lib.hid ((FB_0.out).trans ((bm1).mono (FB_0.out).size))
                clear FB_0
                refine wpAnyH_take (i := 0) (v := ?vm3) rfl (by kernel_rfl) (by kernel_rfl) (by kernel_rfl) (fun _ _ _ h => h) (Or.inl ⟨by rfl, ?ym3⟩) (by assumption) ?_
                case ym3 => (intro w hSw; (try dsimp only at hSw); go_simp; all_goals (with_reducible rfl))
                (try simp only [Act.put, List.setIfInBounds_toArray, List.set_cons_zero, List.set_cons_succ, List.getElem_toArray, List.getElem_cons_succ, List.getElem_cons_zero])
                refine wpAnyH_take (i := 1) (v := ?vm4) rfl (by kernel_rfl) (by kernel_rfl) (by kernel_rfl) (fun _ _ _ h => h) (Or.inl ⟨by rfl, ?ym4⟩) (by assumption) ?_
                case ym4 => (intro w hSw; (try dsimp only at hSw); go_simp; all_goals (with_reducible rfl))
                (try simp only [Act.put, List.setIfInBounds_toArray, List.set_cons_zero, List.set_cons_succ, List.getElem_toArray, List.getElem_cons_succ, List.getElem_cons_zero])
                refine wpAnyH_take (i := 2) (v := ?vm5) rfl (by kernel_rfl) (by kernel_rfl) (by kernel_rfl) (fun _ _ _ h => h) (Or.inl ⟨by rfl, ?ym5⟩) (by assumption) ?_
                case ym5 => (intro w hSw; (try dsimp only at hSw); go_simp; all_goals (with_reducible rfl))
                (try simp only [Act.put, List.setIfInBounds_toArray, List.set_cons_zero, List.set_cons_succ, List.getElem_toArray, List.getElem_cons_succ, List.getElem_cons_zero])
                refine wpAnyH_take (i := 3) (v := ?vm6) rfl (by kernel_rfl) (by kernel_rfl) (by kernel_rfl) (fun _ _ _ h => h) (Or.inl ⟨by rfl, ?ym6⟩) (by assumption) ?_
                case ym6 => (intro w hSw; (try dsimp only at hSw); go_simp; all_goals (with_reducible rfl))
                (try simp only [Act.put, List.setIfInBounds_toArray, List.set_cons_zero, List.set_cons_succ, List.getElem_toArray, List.getElem_cons_succ, List.getElem_cons_zero])
                refine wpAnyH_take (i := 4) (v := ?vm7) rfl (by kernel_rfl) (by kernel_rfl) (by kernel_rfl) (fun _ _ _ h => h) (Or.inl ⟨by rfl, ?ym7⟩) (by assumption) ?_
                case ym7 => (intro w hSw; (try dsimp only at hSw); go_simp; all_goals (with_reducible rfl))
                (try simp only [Act.put, List.setIfInBounds_toArray, List.set_cons_zero, List.set_cons_succ, List.getElem_toArray, List.getElem_cons_succ, List.getElem_cons_zero])
                refine wpAnyH_take (i := 5) (v := ?vm8) rfl (by kernel_rfl) (by kernel_rfl) (by kernel_rfl) (fun _ _ _ h => h) (Or.inl ⟨by rfl, ?ym8⟩) (by assumption) ?_
                case ym8 => (intro w hSw; (try dsimp only at hSw); go_simp; all_goals (with_reducible rfl))
                (try simp only [Act.put, List.setIfInBounds_toArray, List.set_cons_zero, List.set_cons_succ, List.getElem_toArray, List.getElem_cons_succ, List.getElem_cons_zero])
                refine wpAnyH_ready (rs := [6]) (by kernel_rfl) (by simp) ?_
                refine AllReadyH.cons rfl (fun K hK => ?_) ?_
                · go_simp
                  refine (HFK.out wm1 (HBZ.out.trans (FB_m2.out.mono HBZ.out.size))).mono ?_
                  rintro e wm9 ⟨rfl, belm9⟩
                  dsimp only
                  have FB_m10 := Lib.hid ((FB_m2.out).trans ((belm9).mono (FB_m2.out).size))
                  clear FB_m2
                  clear belm9
                  refine hK.out _ _ (HXK.out _ FB_m10.out) (fun hHeld => ?_)
                  clear hK K
                  (try simp only [Act.put, List.setIfInBounds_toArray, List.set_cons_zero, List.set_cons_succ, List.getElem_toArray, List.getElem_cons_succ, List.getElem_cons_zero])
                  refine wpAnyH_ready (rs := [7]) (by kernel_rfl) (by simp) ?_
                  refine AllReadyH.cons rfl (fun K hK => ?_) ?_
                  · go_simp
                    refine (HHQ.out wm9 (HBZ.out.trans (FB_m10.out.mono HBZ.out.size))).mono ?_
                    rintro e wq ⟨rfl, hwq⟩
                    have hwq := hwq.symm
                    subst hwq
                    dsimp only
                    refine hK.out _ _ (hHeld) (fun hHeld => ?_)
                    clear hK K
                    (try simp only [Act.put, List.setIfInBounds_toArray, List.set_cons_zero, List.set_cons_succ, List.getElem_toArray, List.getElem_cons_succ, List.getElem_cons_zero])
                    refine wpAnyH_done (by kernel_rfl) ?_ _
                    have HPZ := Lib.hid (HP.out.below FB_m10.out)
                    go_wp2
                    go_roundw
                    case rel => exact ⟨k + 1, by omega, by go_num, _, by rw [HNO.out hK]; exact HPZ.out⟩
                    case measure => simp [intOf]; omega
                  exact AllReadyH.nil
                exact AllReadyH.nil
              | true =>
                rw [hK] at HHQ
                have HSU := Lib.hid (HY.out hK)
                have HLS : Hid ((ccU N PK cs (k + 1)).length = CS.length + 1) := Lib.hid (by rw [HSU.out]; simp)
                have FB_0 := Lib.hid (Below.refl wz.heap.size wz)
                refine wp_region_held_drew (S := fun wx => wx.cell? ⟨bK, oK + k, none⟩ = some (.int .i64 xc) ∧ wx.cell? ⟨bN, oN + xc, none⟩ = some (.int .i64 p) ∧ wx.cell? ⟨w.heap.size, 0, none⟩ = some (.slice h.A N.w.length h.c) ∧ wx.cell? ⟨w.heap.size, 1, none⟩ = some (.slice h.L N.l.length h.d) ∧ wx.cell? ⟨w.heap.size, 2, none⟩ = some (.slice h.C N.c.length h.e)) (by kernel_rfl) (HXK.out _ (Below.refl _ _).drew) (fun hHeld => ?_)
                obtain ⟨wn1, hwn1⟩ : ∃ w', w' = wz.drew := ⟨_, rfl⟩
                rw [← hwn1] at hHeld ⊢
                have bn1 : Below wz.heap.size wz wn1 := by rw [hwn1]; exact (Below.refl _ _).drew
                clear hwn1
                have FB_n2 := Lib.hid ((FB_0.out).trans ((bn1).mono (FB_0.out).size))
                clear FB_0
                refine wpAnyH_take (i := 0) (v := ?vn3) rfl (by kernel_rfl) (by kernel_rfl) (by kernel_rfl) (fun _ _ _ h => h) (Or.inl ⟨by rfl, ?yn3⟩) (by assumption) ?_
                case yn3 => (intro w hSw; (try dsimp only at hSw); go_simp; all_goals (with_reducible rfl))
                (try simp only [Act.put, List.setIfInBounds_toArray, List.set_cons_zero, List.set_cons_succ, List.getElem_toArray, List.getElem_cons_succ, List.getElem_cons_zero])
                refine wpAnyH_take (i := 1) (v := ?vn4) rfl (by kernel_rfl) (by kernel_rfl) (by kernel_rfl) (fun _ _ _ h => h) (Or.inl ⟨by rfl, ?yn4⟩) (by assumption) ?_
                case yn4 => (intro w hSw; (try dsimp only at hSw); go_simp; all_goals (with_reducible rfl))
                (try simp only [Act.put, List.setIfInBounds_toArray, List.set_cons_zero, List.set_cons_succ, List.getElem_toArray, List.getElem_cons_succ, List.getElem_cons_zero])
                refine wpAnyH_take (i := 2) (v := ?vn5) rfl (by kernel_rfl) (by kernel_rfl) (by kernel_rfl) (fun _ _ _ h => h) (Or.inl ⟨by rfl, ?yn5⟩) (by assumption) ?_
                case yn5 => (intro w hSw; (try dsimp only at hSw); go_simp; all_goals (with_reducible rfl))
                (try simp only [Act.put, List.setIfInBounds_toArray, List.set_cons_zero, List.set_cons_succ, List.getElem_toArray, List.getElem_cons_succ, List.getElem_cons_zero])
                refine wpAnyH_take (i := 3) (v := ?vn6) rfl (by kernel_rfl) (by kernel_rfl) (by kernel_rfl) (fun _ _ _ h => h) (Or.inl ⟨by rfl, ?yn6⟩) (by assumption) ?_
                case yn6 => (intro w hSw; (try dsimp only at hSw); go_simp; all_goals (with_reducible rfl))
                (try simp only [Act.put, List.setIfInBounds_toArray, List.set_cons_zero, List.set_cons_succ, List.getElem_toArray, List.getElem_cons_succ, List.getElem_cons_zero])
                refine wpAnyH_take (i := 4) (v := ?vn7) rfl (by kernel_rfl) (by kernel_rfl) (by kernel_rfl) (fun _ _ _ h => h) (Or.inl ⟨by rfl, ?yn7⟩) (by assumption) ?_
                case yn7 => (intro w hSw; (try dsimp only at hSw); go_simp; all_goals (with_reducible rfl))
                (try simp only [Act.put, List.setIfInBounds_toArray, List.set_cons_zero, List.set_cons_succ, List.getElem_toArray, List.getElem_cons_succ, List.getElem_cons_zero])
                refine wpAnyH_take (i := 5) (v := ?vn8) rfl (by kernel_rfl) (by kernel_rfl) (by kernel_rfl) (fun _ _ _ h => h) (Or.inl ⟨by rfl, ?yn8⟩) (by assumption) ?_
                case yn8 => (intro w hSw; (try dsimp only at hSw); go_simp; all_goals (with_reducible rfl))
                (try simp only [Act.put, List.setIfInBounds_toArray, List.set_cons_zero, List.set_cons_succ, List.getElem_toArray, List.getElem_cons_succ, List.getElem_cons_zero])
                refine wpAnyH_ready (rs := [6]) (by kernel_rfl) (by simp) ?_
                refine AllReadyH.cons rfl (fun K hK => ?_) ?_
                · go_simp
                  refine (HFK.out wn1 (HBZ.out.trans (FB_n2.out.mono HBZ.out.size))).mono ?_
                  rintro e wn9 ⟨rfl, beln9⟩
                  dsimp only
                  have FB_n10 := Lib.hid ((FB_n2.out).trans ((beln9).mono (FB_n2.out).size))
                  clear FB_n2
                  clear beln9
                  refine hK.out _ _ (HXK.out _ FB_n10.out) (fun hHeld => ?_)
                  clear hK K
                  (try simp only [Act.put, List.setIfInBounds_toArray, List.set_cons_zero, List.set_cons_succ, List.getElem_toArray, List.getElem_cons_succ, List.getElem_cons_zero])
                  refine wpAnyH_ready (rs := [7]) (by kernel_rfl) (by simp) ?_
                  refine AllReadyH.cons rfl (fun K hK => ?_) ?_
                  · go_simp
                    refine (HHQ.out wn9 (HBZ.out.trans (FB_n10.out.mono HBZ.out.size))).mono ?_
                    rintro e wq ⟨rfl, hwq⟩
                    have hwq := hwq.symm
                    subst hwq
                    dsimp only
                    refine hK.out _ _ (hHeld) (fun hHeld => ?_)
                    clear hK K
                    (try simp only [Act.put, List.setIfInBounds_toArray, List.set_cons_zero, List.set_cons_succ, List.getElem_toArray, List.getElem_cons_succ, List.getElem_cons_zero])
                    refine wpAnyH_done (by kernel_rfl) ?_ _
                    have HS := Lib.hid (HP.out.below FB_n10.out)
                    have hzw := FB_n10.out.size
                    have hsxl := Nat.lt_of_lt_of_le HS.out.sxl HS.out.size
                    have HBS := HS.out.bel.size
                    have HSX : Hid (∀ wx : World, Below wn9.heap.size wn9 wx → wx.cell? ⟨sx, 2, none⟩ = some (.slice h4.C CS.length h4.e) ∧ wx.cell? ⟨bK, oK + k, none⟩ = some (.int .i64 xc) ∧ wx.cell? ⟨bN, oN + xc, none⟩ = some (.int .i64 p)) := Lib.hid fun wx hx => ⟨(three_cells ((hx.block sx hsxl).trans HS.out.box)).2.2, (HXK.out wx (FB_n10.out.trans (hx.mono FB_n10.out.size))).1, (HXK.out wx (FB_n10.out.trans (hx.mono FB_n10.out.size))).2.1⟩
                    go_upto_region 22 with (fail)
                    have FB_0 := Lib.hid (Below.refl wn9.heap.size wn9)
                    refine wp_region_C_drew (c := 12) (S := fun wx => wx.cell? ⟨sx, 2, none⟩ = some (.slice h4.C CS.length h4.e) ∧ wx.cell? ⟨bK, oK + k, none⟩ = some (.int .i64 xc) ∧ wx.cell? ⟨bN, oN + xc, none⟩ = some (.int .i64 p)) (by kernel_rfl) (HSX.out _ (Below.refl _ _).drew) (fun hHeld => ?_)
                    obtain ⟨wv1, hwv1⟩ : ∃ w', w' = wn9.drew := ⟨_, rfl⟩
                    rw [← hwv1] at hHeld ⊢
                    have bv1 : Below wn9.heap.size wn9 wv1 := by rw [hwv1]; exact (Below.refl _ _).drew
                    clear hwv1
                    have FB_v2 := Lib.hid ((FB_0.out).trans ((bv1).mono (FB_0.out).size))
                    clear FB_0
                    refine wpAnyC_take [0, 1, 10, 11, 12] (i := 0) (v := ?vv3) rfl (by kernel_rfl) (by kernel_rfl) (by kernel_rfl) (by kernel_rfl) (fun _ _ _ h => h) (Or.inl ⟨by rfl, ?yv3⟩) (by assumption) ?_
                    case yv3 => (intro w hSw; (try dsimp only at hSw); go_simp; all_goals (with_reducible rfl))
                    (try simp only [Act.put, List.setIfInBounds_toArray, List.set_cons_zero, List.set_cons_succ, List.getElem_toArray, List.getElem_cons_succ, List.getElem_cons_zero])
                    refine wpAnyC_take [1, 10, 11, 12] (i := 1) (v := ?vv4) rfl (by kernel_rfl) (by kernel_rfl) (by kernel_rfl) (by kernel_rfl) (fun _ _ _ h => h) (Or.inl ⟨by rfl, ?yv4⟩) (by assumption) ?_
                    case yv4 => (intro w hSw; (try dsimp only at hSw); go_simp; all_goals (with_reducible rfl))
                    (try simp only [Act.put, List.setIfInBounds_toArray, List.set_cons_zero, List.set_cons_succ, List.getElem_toArray, List.getElem_cons_succ, List.getElem_cons_zero])
                    refine wpAnyC_take [2, 7, 8, 9, 10, 11, 12] (i := 2) (v := ?vv5) rfl (by kernel_rfl) (by kernel_rfl) (by kernel_rfl) (by kernel_rfl) (fun _ _ _ h => h) (Or.inl ⟨by rfl, ?yv5⟩) (by assumption) ?_
                    case yv5 => (intro w hSw; (try dsimp only at hSw); go_simp; all_goals (with_reducible rfl))
                    (try simp only [Act.put, List.setIfInBounds_toArray, List.set_cons_zero, List.set_cons_succ, List.getElem_toArray, List.getElem_cons_succ, List.getElem_cons_zero])
                    refine wpAnyC_take [3, 5, 6, 7, 8, 9, 10, 11, 12] (i := 3) (v := ?vv6) rfl (by kernel_rfl) (by kernel_rfl) (by kernel_rfl) (by kernel_rfl) (fun _ _ _ h => h) (Or.inl ⟨by rfl, ?yv6⟩) (by assumption) ?_
                    case yv6 => (intro w hSw; (try dsimp only at hSw); go_simp; all_goals (with_reducible rfl))
                    (try simp only [Act.put, List.setIfInBounds_toArray, List.set_cons_zero, List.set_cons_succ, List.getElem_toArray, List.getElem_cons_succ, List.getElem_cons_zero])
                    refine wpAnyC_take [4, 5, 6, 7, 8, 9, 10, 11, 12] (i := 4) (v := ?vv7) rfl (by kernel_rfl) (by kernel_rfl) (by kernel_rfl) (by kernel_rfl) (fun _ _ _ h => h) (Or.inl ⟨by rfl, ?yv7⟩) (by assumption) ?_
                    case yv7 => (intro w hSw; (try dsimp only at hSw); go_simp; all_goals (with_reducible rfl))
                    (try simp only [Act.put, List.setIfInBounds_toArray, List.set_cons_zero, List.set_cons_succ, List.getElem_toArray, List.getElem_cons_succ, List.getElem_cons_zero])
                    refine wpAnyC_take [5, 6, 7, 8, 9, 10, 11, 12] (i := 5) (v := ?vv8) rfl (by kernel_rfl) (by kernel_rfl) (by kernel_rfl) (by kernel_rfl) (fun _ _ _ h => h) (Or.inl ⟨by rfl, ?yv8⟩) (by assumption) ?_
                    case yv8 => (intro w hSw; (try dsimp only at hSw); go_simp; all_goals (with_reducible rfl))
                    (try simp only [Act.put, List.setIfInBounds_toArray, List.set_cons_zero, List.set_cons_succ, List.getElem_toArray, List.getElem_cons_succ, List.getElem_cons_zero])
                    refine wpAnyC_take [6, 7, 8, 9, 10, 11, 12] (i := 6) (v := ?vv9) rfl (by kernel_rfl) (by kernel_rfl) (by kernel_rfl) (by kernel_rfl) (fun _ _ _ h => h) (Or.inl ⟨by rfl, ?yv9⟩) (by assumption) ?_
                    case yv9 => (intro w hSw; (try dsimp only at hSw); go_simp; all_goals (with_reducible rfl))
                    (try simp only [Act.put, List.setIfInBounds_toArray, List.set_cons_zero, List.set_cons_succ, List.getElem_toArray, List.getElem_cons_succ, List.getElem_cons_zero])
                    refine wpAnyC_take [7, 8, 9, 10, 11, 12] (i := 7) (v := ?vv10) rfl (by kernel_rfl) (by kernel_rfl) (by kernel_rfl) (by kernel_rfl) (fun _ _ _ h => h) (Or.inl ⟨by rfl, ?yv10⟩) (by assumption) ?_
                    case yv10 => (intro w hSw; (try dsimp only at hSw); go_simp; all_goals (with_reducible rfl))
                    (try simp only [Act.put, List.setIfInBounds_toArray, List.set_cons_zero, List.set_cons_succ, List.getElem_toArray, List.getElem_cons_succ, List.getElem_cons_zero])
                    refine wpAnyC_take [8, 9, 10, 11, 12] (i := 8) (v := ?vv11) rfl (by kernel_rfl) (by kernel_rfl) (by kernel_rfl) (by kernel_rfl) (fun _ _ _ h => h) (Or.inl ⟨by rfl, ?yv11⟩) (by assumption) ?_
                    case yv11 => (intro w hSw; (try dsimp only at hSw); go_simp; all_goals (with_reducible rfl))
                    (try simp only [Act.put, List.setIfInBounds_toArray, List.set_cons_zero, List.set_cons_succ, List.getElem_toArray, List.getElem_cons_succ, List.getElem_cons_zero])
                    refine wpAnyC_one (i := 9) (by kernel_rfl) (by rfl) rfl (fun K hK => ?_)
                    go_simp
                    have FBU := FB_v2
                    obtain ⟨wv12, hwv12⟩ : ∃ w', w' = wv1.alloc (.cells #[.int .i64 p] 2) := ⟨_, rfl⟩
                    rw [← hwv12]
                    have bv12 : Below wv1.heap.size wv1 wv12 := by rw [hwv12]; exact (Below.refl _ _).alloc (Nat.le_refl _) _
                    have HW9 := Lib.hid hwv12
                    clear hwv12
                    have FB_v13 := Lib.hid ((FB_v2.out).trans ((bv12).mono (FB_v2.out).size))
                    clear FB_v2
                    clear bv12
                    refine hK.out _ _ (HSX.out _ FB_v13.out) (fun hHeld => ?_)
                    clear hK K
                    (try simp only [Act.put, List.setIfInBounds_toArray, List.set_cons_zero, List.set_cons_succ, List.getElem_toArray, List.getElem_cons_succ, List.getElem_cons_zero])
                    refine wpAnyC_one (i := 10) (by kernel_rfl) (by rfl) rfl (fun K hK => ?_)
                    have OW := Lib.hid (own_below HS.out.own.c FB_v13.out (Nat.le_refl _))
                    have hz9 := FB_v13.out.size
                    obtain ⟨H8, hH8⟩ : ∃ q, wv12.heap.size = q := ⟨_, rfl⟩
                    have HN9 := Lib.hid (oneQ wv1 (.int .i64 p) 2)
                    rw [← HW9.out] at HN9
                    refine step_append_lies _ rfl _ _ 24 rfl w0.heap.size 2 i0 (.int .i64 0) 1 8 Tryz.underlying24 HI.out HZ0.out HZ1.out HZ2.out rfl (by decide) _ _ _ rfl OW.out ⟨wv1.heap.size, 0, none⟩ 1 1 [.int .i64 p] rfl rfl HN9.out (by intro u hu; simp at hu; subst hu; rfl) (by decide) (by simp only [maxLen]; (try dsimp only); omega) (by (try dsimp only); omega) (by omega) H8 hH8 ?_
                    intro g9 cap9 w9 hown9 hgrow9 hat9 hlt9
                    have O9 : w9.ownsRow w0.heap.size 2 1 (.slice (some ⟨g9, 0, none⟩) (ccU N PK cs (k + 1)).length cap9) (ccU N PK cs (k + 1)).length ((ccU N PK cs (k + 1)).map (Value.int .i64)) := by rw [HLS.out, HSU.out, List.map_append]; exact hown9
                    have p9 := HS.out.pushC FB_v13.out O9 hgrow9 (hat9.imp (fun e => e.symm) (fun e => congrArg some (e.trans hH8.symm)))
                    rw [HLS.out] at p9
                    have hx9 := (hgrow9.block sx (Nat.lt_of_lt_of_le hsxl FB_v13.out.size) (fun e2 => (HS.out.far sx HS.out.sxl HS.out.sxf).c e2.symm)).trans ((FB_v13.out.block sx hsxl).trans HS.out.box)
                    have HB9 := Lib.hid ((HS.out.bel.trans (FB_v13.out.mono HS.out.bel.size)).grown hgrow9 (by omega) (fun q hq => (HS.out.own.c.lt q hq).1))
                    have hsw := HSX.out _ FB_v13.out
                    have HC9 := Lib.hid (And.intro ((HB9.out.cell (p := ⟨bK, oK + k, none⟩) hKb2).trans HK0.out) ((World.cell?_of_block (a := ⟨bN, oN + xc, none⟩) (hgrow9.block bN (by have := HS.out.bel.size; omega) (fun e => HFN.out.c e.symm))).trans hsw.2.2))
                    clear hsw
                    have HP9 := Lib.hid p9; have HX9 := Lib.hid hx9
                    clear p9 hx9 hown9 hgrow9 hat9 hlt9 hH8 OW
                    clear O9
                    refine hK.out _ _ (⟨(three_cells HX9.out).2.2, HC9.out⟩) (fun hHeld => ?_)
                    clear hK K
                    (try simp only [Act.put, List.setIfInBounds_toArray, List.set_cons_zero, List.set_cons_succ, List.getElem_toArray, List.getElem_cons_succ, List.getElem_cons_zero])
                    refine wpAnyC_take [11, 12] (i := 11) (v := ?vv14) rfl (by kernel_rfl) (by kernel_rfl) (by kernel_rfl) (by kernel_rfl) (fun _ _ _ h => h) (Or.inl ⟨by rfl, ?yv14⟩) (by assumption) ?_
                    case yv14 => (intro w hSw; (try dsimp only at hSw); go_simp; all_goals (with_reducible rfl))
                    (try simp only [Act.put, List.setIfInBounds_toArray, List.set_cons_zero, List.set_cons_succ, List.getElem_toArray, List.getElem_cons_succ, List.getElem_cons_zero])
                    refine wpAnyC_last (by kernel_rfl) rfl (fun K hK => ?_)
                    obtain ⟨a0, a1, a2⟩ := three_cells HX9.out
                    have f0 := frozen_of_row _ _ 0 _ _ HX9.out; have f1 := frozen_of_row _ _ 1 _ _ HX9.out; have f2 := frozen_of_row _ _ 2 _ _ HX9.out
                    go_simp
                    clear a0 a1 a2 f0 f1 f2
                    refine hK.out _ _ ?_
                    clear hK K hHeld
                    (try simp only [Act.put, List.setIfInBounds_toArray, List.set_cons_zero, List.set_cons_succ, List.getElem_toArray, List.getElem_cons_succ, List.getElem_cons_zero])
                    refine wpAnyH_done (by kernel_rfl) ?_ _
                    go_wp2
                    go_roundw
                    case rel => exact ⟨k + 1, by omega, by go_num, _, HP9.out⟩
                    case measure => simp [intOf]; omega
                  exact AllReadyH.nil
                exact AllReadyH.nil
            · have hkl : k = cs.length := by omega
              subst hkl
              have HP0 := Lib.hid PP
              have gx := PP.box
              obtain ⟨x0, x1, x2⟩ := three_cells gx
              have BZ := Lib.hid PP.bel
              have q1 := HK2.out _ BZ.out
              obtain ⟨a0, a1, a2⟩ := three_cells q1
              have f0 := frozen_of_row _ _ 0 _ _ q1; have f1 := frozen_of_row _ _ 1 _ _ q1; have f2 := frozen_of_row _ _ 2 _ _ q1
              have Q1 := Lib.hid q1
              have OF := Lib.hid PP.own
              clear PP gx q1
              dsimp only at x0 x1 x2 OF
              generalize ccU N PK cs cs.length = CS at *
              go_wp2
              (try simp only [Exit.inBlock, Exit.then])
              refine bodyPost_ret (results_cell_row rfl _ _ (w.heap.size + 1) _ _ (0, 0) _ rfl (set3_at Q1.out _ _ _) Tryz.underlying30 rfl (by kernel_rfl)) rfl ?_
              exact copied_eq HEND.out (nlDone HB0.out BZ.out OF.out hs0)
end Go.Proofs.YtfdpkhiiboghiaaGreatDoor
