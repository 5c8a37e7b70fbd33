/- The program's LinkedNet. Made by mkldp.py. -/
import Derived.Test.YtfanapddopafiaaDoorLdC
import Derived.Test.YtfanapddopafiaaDoorLdD
import Derived.Test.YtfanapddopafiaaDoorMtP
import Derived.Test.YtfanapddopafiaaDoorQPgJ
import Derived.Test.YtfanapddopafiaaDoorBaseI
import Derived.Deep.RegionHeldLaw
import Derived.Deep.DeepCutAuto
namespace Go.Proofs.YtfanapddopafiaaDoor
set_option linter.unusedSimpArgs false
set_option linter.unusedVariables false
open Go.ChangeAt Go.ChangeShapes Go.RowKit Go.WideShapes

theorem OwnN.setL {w w' : World} {lo : Nat} {h : NH} {N : Nt} {L : Option Addr} {d : Nat} {ls : List Lk} (o : OwnN w lo w.heap.size h N) (hb : Below w.heap.size w w') (hlo : lo ≤ w.heap.size) (hl : w'.ownsRow w.heap.size 71 4 (.slice L ls.length d) ls.length ((flL ls).map (Value.int .i64))) :
    OwnN w' lo w'.heap.size ⟨h.A, h.c, h.hs, L, d, h.C, h.e⟩ ⟨N.w, ls, N.c⟩ := by
  have o2 := (o.below hb).size
  exact {
    q := o2.q
    l := hl.mono hlo
    c := o2.c
    lt := fun b e => (hl.lt b e).2
    ct := o2.ct
    lq := fun b e => by
      have h1 := (hl.lt b e).1
      have f := o.far_ge h1
      exact ⟨f.a, f.i⟩
    cq := o2.cq
    lc := fun b e e2 => by
      have h1 := (hl.lt b e).1
      exact (o.far_ge h1).c e2 }
theorem FarN.setL {w' : World} {b m : Nat} {h : NH} {N : Nt} {L : Option Addr} {d : Nat} {ls : List Lk} (f : FarN h N b) (hl : w'.ownsRow m 71 4 (.slice L ls.length d) ls.length ((flL ls).map (Value.int .i64))) (hb : b < m) : FarN ⟨h.A, h.c, h.hs, L, d, h.C, h.e⟩ ⟨N.w, ls, N.c⟩ b :=
  ⟨f.a, f.i, fun e => by have := (hl.lt b e).1; omega, f.c⟩
/-- Another row of links, in memory of its own. -/
theorem PlSt.setL {wb w0 wr u : World} {sx : Nat} {hT h : NH} {T M : Nt} {L : Option Addr} {d : Nat} {ls : List Lk} (p : PlSt wb w0 wr sx hT T h M) (hb : Below wr.heap.size wr u) (hl : u.ownsRow wr.heap.size 71 4 (.slice L ls.length d) ls.length ((flL ls).map (Value.int .i64))) :
    PlSt wb w0 (u.setCell ⟨sx, 1, none⟩ (.slice L ls.length d)) sx hT T ⟨h.A, h.c, h.hs, L, d, h.C, h.e⟩ ⟨M.w, ls, M.c⟩ := by
  have o5 := p.own.setL hb p.bel.size hl
  have hsb : ∀ b, b < w0.heap.size → FarN hT T b → FarN ⟨h.A, h.c, h.hs, L, d, h.C, h.e⟩ ⟨M.w, ls, M.c⟩ b := fun b h1 h2 => (p.far b h1 h2).setL hl (Nat.lt_of_lt_of_le h1 p.size)
  have hk : ∀ b, b < w0.heap.size → u.heap[b]? = wr.heap[b]? := fun b h1 => hb.block b (Nat.lt_of_lt_of_le h1 p.size)
  have hB : Below wb.heap.size wb u := p.bel.trans (hb.mono p.bel.size)
  have es : (u.setCell ⟨sx, 1, none⟩ (.slice L ls.length d)).heap.size = u.heap.size := by simp
  exact {
    own := by
      have := o5.farSet (hsb sx p.sxl p.sxf) 1 (.slice L ls.length d)
      rw [es]; exact this
    far := hsb
    keep := fun b h1 h2 h3 => (Below.heap_setCell _ _ _ _ (by show b ≠ sx; exact h3)).trans ((hk b h1).trans (p.keep b h1 h2 h3))
    box := set1_at ((hk sx p.sxl).trans p.box) _
    bel := hB.setCell (p := ⟨sx, 1, none⟩) p.sxb _
    size := by rw [es]; exact Nat.le_trans p.size hb.size
    sxl := p.sxl
    sxf := p.sxf
    sxb := p.sxb }
theorem FarN.nil' (b : Nat) : FarN NH.nil Nt.nil b := ⟨(by intro e; cases e), (fun i hi => by exact absurd hi (by simp [Nt.nil])), (by intro e; cases e), (by intro e; cases e)⟩
theorem PlSt.new (w : World) : PlSt w (w.alloc (.cells #[.slice none 0 0, .slice none 0 0, .slice none 0 0] 31)) (w.alloc (.cells #[.slice none 0 0, .slice none 0 0, .slice none 0 0] 31)) w.heap.size NH.nil Nt.nil NH.nil Nt.nil where
  own := OwnN.nil _ _ _
  far b _ _ := FarN.nil' b
  keep b _ _ _ := rfl
  box := heap_alloc_new _ _
  bel := (Below.refl _ _).alloc (Nat.le_refl _) _
  size := Nat.le_refl _
  sxl := by simp
  sxf := FarN.nil' _
  sxb := Nat.le_refl _
/-- The net, or nothing. -/
def pickL (b : Bool) (N : Nt) : Nt := if b then N else Nt.nil
/-- What LinkedNet holds: the net that it builds. -/
def LdSt (w1 : World) (sx : Nat) (M : Nt) (wx : World) : Prop := ∃ (w2 : World) (h : NH), PlSt w1 w2 wx sx NH.nil Nt.nil h M
theorem pushRow {wb w0 wr u' : World} {sx : Nat} {hT h : NH} {T M : Nt} {v : Value} {z : Int} (p : PlSt wb w0 wr sx hT T h M) (hown : u'.ownsRow wb.heap.size 2 1 v (M.c.length + 1) (M.c.map (Value.int .i64) ++ [.int .i64 z])) (hg : (wr.alloc (.cells #[.int .i64 z] 2)).grownBy u' (Value.slice h.C M.c.length h.e).ownBlock)
    (hat : v.ownBlock = (Value.slice h.C M.c.length h.e).ownBlock ∨ v.ownBlock = some (wr.alloc (.cells #[.int .i64 z] 2)).heap.size) :
    ∃ C e, v = .slice C (M.c.length + 1) e ∧ PlSt wb w0 (u'.setCell ⟨sx, 2, none⟩ v) sx hT T ⟨h.A, h.c, h.hs, h.L, h.d, C, e⟩ ⟨M.w, M.l, M.c ++ [z]⟩ ∧ u'.heap[sx]? = wr.heap[sx]? := by
  obtain ⟨C, e, rfl⟩ := own_shape hown
  have hl : (M.c ++ [z]).length = M.c.length + 1 := by simp
  have hb : Below wr.heap.size wr (wr.alloc (.cells #[.int .i64 z] 2)) := (Below.refl _ _).alloc (Nat.le_refl _) _
  refine ⟨C, e, rfl, ?_, (hg.block sx (Nat.lt_of_lt_of_le p.sxl (Nat.le_trans p.size hb.size)) (fun e2 => (p.far sx p.sxl p.sxf).c e2.symm)).trans (hb.block sx (Nat.lt_of_lt_of_le p.sxl p.size))⟩
  have := p.pushC (u := wr.alloc (.cells #[.int .i64 z] 2)) (u' := u') (C := C) (e := e) (cs := M.c ++ [z]) ((Below.refl _ _).alloc (Nat.le_refl _) _) (by rw [hl, List.map_append]; exact hown) hg (by rw [hl]; exact hat)
  rw [hl] at this
  exact this
theorem rowV_oneW (hs : Nat → Option Addr × Nat) (qs : List (List Int)) : ∀ u ∈ rowV hs qs, u.oneCell' = true := by
  intro u hu
  obtain ⟨i, hi, rfl⟩ := List.getElem_of_mem hu
  have h1 : i < qs.length := by rw [rowV_len] at hi; exact hi
  have := rowV_at (hs := hs) h1
  rw [List.getElem?_eq_getElem hi] at this
  rw [Option.some.inj this]
  rfl
theorem oneW (w : World) (v : Value) (t : TypeId) : ∀ j u, [v][j]? = some u → (w.alloc (.cells #[v] t)).cell? ((⟨w.heap.size, 0, none⟩ : Addr).add j) = some u := by
  intro j u hu
  match j, hu with
  | 0, hu => obtain rfl := Option.some.inj hu; simp [Addr.add]
  | k + 1, hu => simp at hu
theorem twoC {w : World} {b : Nat} {x y : Value} {t : TypeId} (h : w.heap[b]? = some (.cells #[x, y] t (0, 0))) : w.cell? ⟨b, 0, none⟩ = some x ∧ w.cell? ⟨b, 1, none⟩ = some y :=
  ⟨cell_of_row _ _ 0 _ _ (0, 0) h, cell_of_row _ _ 1 _ _ (0, 0) h⟩
theorem pushRows {wb w0 wr u u' : World} {sx : Nat} {hT h : NH} {T M : Nt} {v : Value} {A2 : Option Addr} {c2 n : Nat} {hs2 : Nat → Option Addr × Nat} {rs : List (List Int)} (p : PlSt wb w0 wr sx hT T h M) (hb : Below wr.heap.size wr u) (hn : rs.length = n)
    (own2 : OwnQ u wr.heap.size u.heap.size (.slice A2 n c2) hs2 rs)
    (hown : u'.ownsRow wb.heap.size 24 1 v (M.w.length + n) (rowV h.hs M.w ++ rowV hs2 rs)) (hg : u.grownBy u' (Value.slice h.A M.w.length h.c).ownBlock)
    (hat : v.ownBlock = (Value.slice h.A M.w.length h.c).ownBlock ∨ v.ownBlock = some u.heap.size) :
    ∃ A' c', v = .slice A' (M.w.length + n) c' ∧ (∃ h', PlSt wb w0 (u'.setCell ⟨sx, 0, none⟩ v) sx hT T h' ⟨M.w ++ rs, M.l, M.c⟩) ∧ u'.heap[sx]? = wr.heap[sx]? := by
  subst hn
  obtain ⟨A', c', rfl⟩ := own_shape hown
  have hl : (M.w ++ rs).length = M.w.length + rs.length := by simp
  have hx := (hg.block sx (Nat.lt_of_lt_of_le p.sxl (Nat.le_trans p.size hb.size)) (fun e2 => (p.far sx p.sxl p.sxf).a e2.symm)).trans (hb.block sx (Nat.lt_of_lt_of_le p.sxl p.size))
  have := p.pushWs hb own2 hown hg hat
  rw [hl] at this
  exact ⟨A', c', rfl, ⟨_, this⟩, hx⟩
theorem ldDone {w w0 u : World} {N : Nt} {h : NH} (hb : Below w.heap.size w w0) (b4 : Below w0.heap.size w0 u) (o : OwnN u w0.heap.size u.heap.size h N) (hs : w.heap.size + 2 ≤ w0.heap.size) :
    CopiedN w N (.returned (.agg #[.slice h.A N.w.length h.c, .slice h.L N.l.length h.d, .slice h.C N.c.length h.e])) (((u.setCell ⟨w.heap.size + 1, 0, none⟩ (.slice h.A N.w.length h.c)).setCell ⟨w.heap.size + 1, 1, none⟩ (.slice h.L N.l.length h.d)).setCell ⟨w.heap.size + 1, 2, none⟩ (.slice h.C N.c.length h.e)) :=
  ⟨h, rfl, (own_setN (own_setN (own_setN o (by omega) _) (by omega) _) (by omega) _).more (by omega) (by simp), set3_below (hb.trans (b4.mono hb.size)) (show w.heap.size ≤ w.heap.size + 1 by omega) _ _ _⟩
set_option maxRecDepth 100000 in
set_option maxHeartbeats 1000000 in
theorem ld_no (A B : Option Addr) (n c m d : Nat) (qs : List (List Int)) (M : List Int) (w : World) (h : RdQ w w.heap.size A n qs) (hM : RdI w w.heap.size B m M) (hn : n ≤ 1048576) (hm : m ≤ 1048576) (ht : Arit w) (hu : Dual w) (hv : imB qs M = false) :
    Calls Tryd.prog 25 #[.agg #[.slice A n c], .slice B m d] w (GivesNB w Nt.nil false) := by
  have hl := h.len
  subst hl
  have hl2 := hM.len
  subst hl2
  obtain ⟨w0, hw0⟩ : ∃ w0, w0 = (w.alloc (.cells #[.slice A qs.length c] 47)).alloc (.cells #[.slice none 0 0, .slice none 0 0, .slice none 0 0] 31) := ⟨_, rfl⟩
  obtain ⟨hb, g0, g1, hsz⟩ := two_any' w (.cells #[.slice A qs.length c] 47) (.cells #[.slice none 0 0, .slice none 0 0, .slice none 0 0] 31)
  rw [← hw0] at hb g0 g1 hsz
  have hs0 : w.heap.size + 2 ≤ w0.heap.size := by omega
  have HK : Hid (∀ wx : World, Below w0.heap.size w0 wx → wx.cell? ⟨w.heap.size, 0, none⟩ = some (.slice A qs.length c)) := Lib.hid fun wx hx => cell_of_row _ _ 0 _ _ (0, 0) ((hx.block w.heap.size (by omega)).trans g0)
  have HK2 := Lib.hid (fun (wx : World) (hx : Below w0.heap.size w0 wx) => (hx.block (w.heap.size + 1) (by omega)).trans g1)
  have HR := Lib.hid (fun (wx : World) (hx : Below w0.heap.size w0 wx) => show RdQ wx wx.heap.size A qs.length qs from ((h.below (hb.trans (hx.mono hb.size))).more (Nat.le_trans hb.size hx.size)))
  have HRL := Lib.hid (fun (wx : World) (hx : Below w0.heap.size w0 wx) => show RdQ wx w.heap.size A qs.length qs from (h.below (hb.trans (hx.mono hb.size))))
  have HM := Lib.hid (fun (wx : World) (hx : Below w0.heap.size w0 wx) => show RdI wx wx.heap.size B M.length M from ((hM.below (hb.trans (hx.mono hb.size))).more (Nat.le_trans hb.size hx.size)))
  have HTD := Lib.hid (fun (wx : World) (hx : Below w0.heap.size w0 wx) => And.intro (show Arit wx from (ht.below hb ht.lt).below hx (Nat.lt_of_lt_of_le ht.lt hb.size)) (show Dual wx from (hu.below hb hu.lt).below hx (Nat.lt_of_lt_of_le hu.lt hb.size)))
  have hV := isMates_impl A B qs.length c M.length d qs M w0 (HR.out _ (Below.refl _ _)) (HM.out _ (Below.refl _ _)) hn hm (HTD.out _ (Below.refl _ _)).1
  have HB0 := Lib.hid hb
  have y0 := HK.out _ (Below.refl _ w0)
  clear hb g0 g1 hsz h hM ht hu
  rw [hv] at hV
  have HV := Lib.hid hV
  clear hV hv
  go_enter Tryd.func25, Tryd.ntmps25
  go_upto_region 1 with (fail)
  rw [← hw0]
  clear hw0
  go_wp2_with (fail)
  refine HV.out.mono ?_
  rintro e u1 ⟨rfl, bel⟩
  have B1 := Lib.hid bel
  have O1 := Lib.hid (OwnN.nil u1 w0.heap.size u1.heap.size)
  clear bel y0
  have q1 := HK2.out _ B1.out
  obtain ⟨a0, a1, a2⟩ := three_cells q1
  have f0 := frozen_of_row _ _ 0 _ _ q1; have f1 := frozen_of_row _ _ 1 _ _ q1; have f2 := frozen_of_row _ _ 2 _ _ q1
  have Q1 := Lib.hid q1
  clear q1
  go_wp2
  (try simp only [Exit.inBlock, Exit.then])
  refine bodyPost_ret (results_cell_row_tmp rfl _ _ (w.heap.size + 1) _ _ (0, 0) _ rfl (set3_at Q1.out _ _ _) Tryd.underlying31 rfl (by kernel_rfl)) rfl ?_
  exact givesNB_of (ldDone HB0.out B1.out O1.out hs0)
set_option maxRecDepth 100000 in
set_option maxHeartbeats 1000000 in
theorem ld_ok2 (A B : Option Addr) (n c m d : Nat) (qs : List (List Int)) (M : List Int) (w : World) (h : RdQ w w.heap.size A n qs) (hM : RdI w w.heap.size B m M) (hn : n ≤ 1048576) (hm : m ≤ 1048576) (ht : Arit w) (hu : Dual w) (hv : imB qs M = true) (bb : Bool) (hX : valN (ldN qs M) = bb) :
    Calls Tryd.prog 25 #[.agg #[.slice A n c], .slice B m d] w (GivesNB w (pickL bb (ldN qs M)) bb) := by
  have HOK := Lib.hid (ld_ok hv)
  have HSM := Lib.hid (ld_small (ld_ok hv))
  have hl := h.len
  subst hl
  have hl2 := hM.len
  subst hl2
  obtain ⟨w0, hw0⟩ : ∃ w0, w0 = (w.alloc (.cells #[.slice A qs.length c] 47)).alloc (.cells #[.slice none 0 0, .slice none 0 0, .slice none 0 0] 31) := ⟨_, rfl⟩
  obtain ⟨hb, g0, g1, hsz⟩ := two_any' w (.cells #[.slice A qs.length c] 47) (.cells #[.slice none 0 0, .slice none 0 0, .slice none 0 0] 31)
  rw [← hw0] at hb g0 g1 hsz
  have hs0 : w.heap.size + 2 ≤ w0.heap.size := by omega
  have HK : Hid (∀ wx : World, Below w0.heap.size w0 wx → wx.cell? ⟨w.heap.size, 0, none⟩ = some (.slice A qs.length c)) := Lib.hid fun wx hx => cell_of_row _ _ 0 _ _ (0, 0) ((hx.block w.heap.size (by omega)).trans g0)
  have HK2 := Lib.hid (fun (wx : World) (hx : Below w0.heap.size w0 wx) => (hx.block (w.heap.size + 1) (by omega)).trans g1)
  have HR := Lib.hid (fun (wx : World) (hx : Below w0.heap.size w0 wx) => show RdQ wx wx.heap.size A qs.length qs from ((h.below (hb.trans (hx.mono hb.size))).more (Nat.le_trans hb.size hx.size)))
  have HRL := Lib.hid (fun (wx : World) (hx : Below w0.heap.size w0 wx) => show RdQ wx w.heap.size A qs.length qs from (h.below (hb.trans (hx.mono hb.size))))
  have HM := Lib.hid (fun (wx : World) (hx : Below w0.heap.size w0 wx) => show RdI wx wx.heap.size B M.length M from ((hM.below (hb.trans (hx.mono hb.size))).more (Nat.le_trans hb.size hx.size)))
  have HTD := Lib.hid (fun (wx : World) (hx : Below w0.heap.size w0 wx) => And.intro (show Arit wx from (ht.below hb ht.lt).below hx (Nat.lt_of_lt_of_le ht.lt hb.size)) (show Dual wx from (hu.below hb hu.lt).below hx (Nat.lt_of_lt_of_le hu.lt hb.size)))
  have hV := isMates_impl A B qs.length c M.length d qs M w0 (HR.out _ (Below.refl _ _)) (HM.out _ (Below.refl _ _)) hn hm (HTD.out _ (Below.refl _ _)).1
  have HB0 := Lib.hid hb
  have y0 := HK.out _ (Below.refl _ w0)
  clear hb g0 g1 hsz h hM ht hu
  rw [hv] at hV
  have HV := Lib.hid hV
  have HX := Lib.hid hX
  have hn10 := HOK.out.n
  obtain ⟨i0, hi0, hz0, hz1, hz2⟩ := info_parts info_i64
  have HI := Lib.hid hi0; have HZ0 := Lib.hid hz0; have HZ1 := Lib.hid hz1; have HZ2 := Lib.hid hz2
  obtain ⟨i4, hi4, hz40, hz41, hz42⟩ := info_parts_s
  have HI4 := Lib.hid hi4; have HZ40 := Lib.hid hz40; have HZ41 := Lib.hid hz41; have HZ42 := Lib.hid hz42
  clear hV hv hX hi0 hz0 hz1 hz2 hi4 hz40 hz41 hz42
  go_enter Tryd.func25, Tryd.ntmps25
  go_upto_region 1 with (fail)
  rw [← hw0]
  clear hw0
  go_wp2_with (fail)
  refine HV.out.mono ?_
  rintro e u1 ⟨rfl, bel⟩
  have B1 := Lib.hid bel
  clear bel y0
  have y0 := HK.out _ ((B1.out).trans (((Below.refl _ _).alloc (Nat.le_refl _) (.cells #[.slice none 0 0, .slice none 0 0, .slice none 0 0] 31)).mono B1.out.size))
  have P0 := Lib.hid (PlSt.new u1)
  obtain ⟨u2, hu2⟩ : ∃ u2, u2 = u1.alloc (.cells #[.slice none 0 0, .slice none 0 0, .slice none 0 0] 31) := ⟨_, rfl⟩
  rw [← hu2] at P0
  obtain ⟨sx, hsx⟩ : ∃ s, u1.heap.size = s := ⟨_, rfl⟩
  have HSX0 := Lib.hid hsx
  rw [hsx] at P0
  have HU2 := Lib.hid hu2
  have hs1 := B1.out.size
  clear hu2 hsx
  go_wp2_with (fail)
  rw [← HU2.out, HSX0.out]
  clear y0
  go_loopw [17] (fun i wr => ∃ k : Nat, k ≤ qs.length ∧ i = .int .i64 k ∧ LdSt u1 sx ⟨wsU qs k, [], csU qs k⟩ wr) (fun i _ => qs.length - (intOf i).toNat)
  case atStart => exact ⟨0, Nat.zero_le _, rfl, _, _, P0.out⟩
  case round =>
    obtain ⟨k, hk, rfl, w2, hh, PP⟩ := hrel
    by_cases hlt : k < qs.length
    · have HP0 := Lib.hid PP
      have HBW : Hid (Below w0.heap.size w0 wr) := Lib.hid (B1.out.trans (PP.bel.mono B1.out.size))
      obtain ⟨b, off, hA, hbb, hcells⟩ := (HRL.out w0 (Below.refl _ _)).2 (by omega)
      obtain ⟨A', c', hcell0, hcc, hrd⟩ := hcells k hlt
      have hcell := (HBW.out.cell (p := ⟨b, off + k, none⟩) (by show b < w0.heap.size; omega)).trans hcell0
      have hvf : validB (qs.getD k []) = true := HOK.out.v _ (getD_mem hlt)
      have h24 := (valid_len hvf).2.1
      have HSW := Lib.hid (wsU_succ (qs := qs) hlt)
      have HSC := Lib.hid (csU_succ qs k)
      have hwl := HOK.out.t k (by omega)
      have hwl2 := HOK.out.t (k + 1) (by omega)
      have HCL := Lib.hid (csU_len qs k)
      have HPL := Lib.hid (parts_len (qs.getD k []))
      obtain ⟨f, hf⟩ : ∃ f, qs.getD k [] = f := ⟨_, rfl⟩
      rw [hf] at hcell hcc hrd hvf h24 HSW HPL
      have HFW := Lib.hid (fun (wx : World) (hx : Below w0.heap.size w0 wx) => formsWithin_any A' c' f wx ((hrd.below (hx.mono (show w.heap.size ≤ w0.heap.size by omega))).more (Nat.le_trans (show w.heap.size ≤ w0.heap.size by omega) hx.size)) (HTD.out wx hx).1 hcc hvf)
      rw [HSW.out, List.length_append, HPL.out] at hwl2
      have gx := PP.box
      obtain ⟨x0, x1, x2⟩ := three_cells gx
      have fr0 := frozen_of_row _ _ 0 _ _ gx; have fr1 := frozen_of_row _ _ 1 _ _ gx; have fr2 := frozen_of_row _ _ 2 _ _ gx
      have hoc : wr.ownsRow u1.heap.size 2 1 (.slice hh.C (csU qs k).length hh.e) (csU qs k).length ((csU qs k).map (Value.int .i64)) := PP.own.c
      have HBS := PP.bel.size
      dsimp only at x0 x1 x2
      obtain ⟨W, hW⟩ : ∃ W, wsU qs k = W := ⟨_, rfl⟩
      obtain ⟨CS, hCS⟩ : ∃ CS, csU qs k = CS := ⟨_, rfl⟩
      rw [hW] at x0 hwl hwl2 HP0 HSW HSC
      rw [hCS] at x2 hoc HP0 HSC HCL
      have hcl : CS.length ≤ 10 := by have := HCL.out; omega
      clear PP gx hcells hcell0 hrd hvf hf hW hCS
      subst hA
      go_wp2_with (at_builtin; refine wpList_append_own_at _ rfl _ _ 24 rfl u1.heap.size 2 i0 (.int .i64 0) 1 8 Tryd.underlying24 HI.out HZ0.out HZ1.out HZ2.out rfl (by decide) _ _ _ rfl (hoc.alloc _) ⟨wr.heap.size, 0, none⟩ 1 1 [.int .i64 W.length] rfl rfl ?c1 ?c2 ?c3 ?c4 ?c5 ?_)
      case c1 => exact oneW _ _ _
      case c2 => intro u hu; simp at hu; subst hu; rfl
      case c3 => unfold maxLen; omega
      case c4 => omega
      case c5 => simp; omega
      intro v7 w7 hown7 hgrow7 _ hat7
      obtain ⟨C7, e7, rfl, p7, x7⟩ := pushRow HP0.out hown7 hgrow7 (by rw [World.size_alloc]; exact hat7)
      have gx7 := x7.trans HP0.out.box
      have fr0 := frozen_of_row _ _ 0 _ _ gx7; have fr1 := frozen_of_row _ _ 1 _ _ gx7; have fr2 := frozen_of_row _ _ 2 _ _ gx7
      obtain ⟨x0, x1, x2⟩ := three_cells gx7
      have b7 := p7.bel
      have hs7 := p7.size
      have HB7 : Hid (Below wr.heap.size wr (w7.setCell ⟨sx, 2, none⟩ (.slice C7 (CS.length + 1) e7)) → True) := Lib.hid fun _ => trivial
      obtain ⟨u8, hu8⟩ : ∃ u8, u8 = w7.setCell ⟨sx, 2, none⟩ (.slice C7 (CS.length + 1) e7) := ⟨_, rfl⟩
      have HU8 := Lib.hid hu8
      have hu8' := hu8
      dsimp only at p7
      rw [← hu8] at p7 b7 hs7
      have HP8 := Lib.hid p7
      have HB8 : Hid (Below w0.heap.size w0 u8) := Lib.hid (B1.out.trans (b7.mono B1.out.size))
      clear hown7 hgrow7 hat7 hoc x7 p7 b7 hs7 hu8 hu8' HB7
      go_upto_region 8 with (fail)
      rw [← HU8.out]
      clear x0 x1 x2 fr0 fr1 fr2 gx7
      have HSX : Hid (∀ wx : World, Below u8.heap.size u8 wx → wx.cell? ⟨w.heap.size, 0, none⟩ = some (.slice (some ⟨b, off, none⟩) qs.length c)) := Lib.hid fun wx hx => HK.out wx (HB8.out.trans (hx.mono HB8.out.size))
      have HFX := Lib.hid (HP8.out.box)
      have FB_0 := Lib.hid (Below.refl u8.heap.size u8)
      have FX_0 := HFX
      clear HFX
      refine wp_region_held_drew (S := fun wx => wx.cell? ⟨w.heap.size, 0, none⟩ = some (.slice (some ⟨b, off, none⟩) qs.length c)) (by kernel_rfl) (HSX.out _ (Below.refl _ _).drew) (fun hHeld => ?_)
      obtain ⟨wp1, hwp1⟩ : ∃ w', w' = u8.drew := ⟨_, rfl⟩
      rw [← hwp1] at hHeld ⊢
      have bp1 : Below u8.heap.size u8 wp1 := by rw [hwp1]; exact (Below.refl _ _).drew
      clear hwp1
      have FB_p2 := Lib.hid ((FB_0.out).trans ((bp1).mono (FB_0.out).size))
      have FX_p3 := Lib.hid (((bp1).block _ (Array.getElem?_eq_some_iff.1 (FX_0.out)).1).trans (FX_0.out))
      clear FB_0 FX_0
      refine wpAnyH_take (i := 0) (v := ?vp4) rfl (by kernel_rfl) (by kernel_rfl) (by kernel_rfl) (fun _ _ _ h => h) (Or.inl ⟨by rfl, ?yp4⟩) (by assumption) ?_
      case yp4 => (intro w hSw; (try dsimp only at hSw); go_simp; all_goals (with_reducible rfl))
      (try simp only [Act.put, List.setIfInBounds_toArray, List.set_cons_zero, List.set_cons_succ, List.getElem_toArray, List.getElem_cons_succ, List.getElem_cons_zero])
      refine wpAnyH_take (i := 2) (v := ?vp5) rfl (by kernel_rfl) (by kernel_rfl) (by kernel_rfl) (fun _ _ _ h => h) (Or.inl ⟨by rfl, ?yp5⟩) (by assumption) ?_
      case yp5 => (intro w hSw; (try dsimp only at hSw); go_simp; all_goals (with_reducible rfl))
      (try simp only [Act.put, List.setIfInBounds_toArray, List.set_cons_zero, List.set_cons_succ, List.getElem_toArray, List.getElem_cons_succ, List.getElem_cons_zero])
      refine wpAnyH_ready (rs := [1, 3]) (by kernel_rfl) (by simp) ?_
      refine AllReadyH.cons rfl (fun K hK => ?_) ?_
      · obtain ⟨q0, q1, q2⟩ := three_cells FX_p3.out
        go_simp
        clear q0 q1 q2
        refine hK.out _ _ (hHeld) (fun hHeld => ?_)
        clear hK K
        (try simp only [Act.put, List.setIfInBounds_toArray, List.set_cons_zero, List.set_cons_succ, List.getElem_toArray, List.getElem_cons_succ, List.getElem_cons_zero])
        refine wpAnyH_ready (rs := [3]) (by kernel_rfl) (by simp) ?_
        refine AllReadyH.cons rfl (fun K hK => ?_) ?_
        · go_simp
          have FQp6 := FB_p2
          refine (HFW.out wp1 (HB8.out.trans (FB_p2.out.mono HB8.out.size))).mono ?_
          rintro e wp6 ⟨g9, hs9, rfl, ownp6, belp6⟩
          dsimp only
          have FB_p7 := Lib.hid ((FB_p2.out).trans ((belp6).mono (FB_p2.out).size))
          have FX_p8 := Lib.hid (((belp6).block _ (Array.getElem?_eq_some_iff.1 (FX_p3.out)).1).trans (FX_p3.out))
          clear FB_p2 FX_p3
          have OWN := Lib.hid (ownp6.more FQp6.out.size (Nat.le_refl _))
          clear ownp6 belp6 FQp6
          refine hK.out _ _ (HSX.out _ FB_p7.out) (fun hHeld => ?_)
          clear hK K
          (try simp only [Act.put, List.setIfInBounds_toArray, List.set_cons_zero, List.set_cons_succ, List.getElem_toArray, List.getElem_cons_succ, List.getElem_cons_zero])
          refine wpAnyH_ready (rs := [4]) (by kernel_rfl) (by simp) ?_
          refine AllReadyH.cons rfl (fun K hK => ?_) ?_
          · have hz8 := HP8.out.bel.size; have hz9 := FB_p7.out.size
            have OW := Lib.hid (own_below HP8.out.own.q.outer FB_p7.out (Nat.le_refl _))
            have OUT : wp6.ownsRow u8.heap.size 24 1 (.slice (some ⟨g9, 0, none⟩) f.length f.length) f.length (rowV hs9 (parts f)) := by have := OWN.out.outer; rwa [HPL.out] at this
            refine step_atX rfl _ _ 22 rfl u1.heap.size 24 i4 (.slice none 0 0) 24 Tryd.underlying22 HI4.out HZ40.out HZ41.out HZ42.out rfl _ _ _ rfl OW.out (some ⟨g9, 0, none⟩) f.length f.length u8.heap.size _ rfl OUT (rowV_oneW _ _) (by simp only [maxLen]; (try dsimp only); omega) (by (try dsimp only); omega) (by omega) ?_
            intro v9 w9 hown9 hgrow9 hat9
            obtain ⟨A9, c9, rfl, ⟨h9, p9⟩, x9⟩ := pushRows HP8.out FB_p7.out HPL.out OWN.out hown9 hgrow9 hat9
            have HB9 := Lib.hid ((HB8.out.trans (FB_p7.out.mono HB8.out.size)).grown hgrow9 (by have := HB8.out.size; omega) (fun q hq => Nat.le_trans hs1 (HP8.out.own.q.outer.lt q hq).1))
            have HP9 := Lib.hid p9; have HX9 := Lib.hid (x9.trans HP8.out.box)
            clear p9 x9 hown9 hgrow9 hat9 OUT OW
            refine hK.out _ _ (HK.out _ HB9.out) (fun hHeld => ?_)
            clear hK K
            (try simp only [Act.put, List.setIfInBounds_toArray, List.set_cons_zero, List.set_cons_succ, List.getElem_toArray, List.getElem_cons_succ, List.getElem_cons_zero])
            refine wpAnyH_take (i := 5) (v := ?vp9) rfl (by kernel_rfl) (by kernel_rfl) (by kernel_rfl) (fun _ _ _ h => h) (Or.inl ⟨by rfl, ?yp9⟩) (by assumption) ?_
            case yp9 => (intro w hSw; (try dsimp only at hSw); go_simp; all_goals (with_reducible rfl))
            (try simp only [Act.put, List.setIfInBounds_toArray, List.set_cons_zero, List.set_cons_succ, List.getElem_toArray, List.getElem_cons_succ, List.getElem_cons_zero])
            refine wpAnyH_ready (rs := [6]) (by kernel_rfl) (by simp) ?_
            refine AllReadyH.cons rfl (fun K hK => ?_) ?_
            · obtain ⟨a0, a1, a2⟩ := three_cells HX9.out
              have f0 := frozen_of_row _ _ 0 _ _ HX9.out; have f1 := frozen_of_row _ _ 1 _ _ HX9.out; have f2 := frozen_of_row _ _ 2 _ _ HX9.out
              go_simp
              clear a0 a1 a2 f0 f1 f2
              refine hK.out _ _ (HK.out _ (HB9.out.setCell (p := ⟨sx, 0, none⟩) (Nat.le_trans hs1 HP8.out.sxb) _)) (fun hHeld => ?_)
              clear hK K
              (try simp only [Act.put, List.setIfInBounds_toArray, List.set_cons_zero, List.set_cons_succ, List.getElem_toArray, List.getElem_cons_succ, List.getElem_cons_zero])
              refine wpAnyH_done (by kernel_rfl) ?_ _
              go_wp2
              go_roundw
              case rel => exact ⟨k + 1, by omega, by go_num, (by rw [HSW.out, HSC.out]; exact ⟨w2, _, HP9.out⟩)⟩
              case measure => simp [intOf]; omega
            exact AllReadyH.nil
          exact AllReadyH.nil
        exact AllReadyH.nil
      refine AllReadyH.cons rfl (fun K hK => ?_) ?_
      · go_simp
        have FQp10 := FB_p2
        refine (HFW.out wp1 (HB8.out.trans (FB_p2.out.mono HB8.out.size))).mono ?_
        rintro e wp10 ⟨g9, hs9, rfl, ownp10, belp10⟩
        dsimp only
        have FB_p11 := Lib.hid ((FB_p2.out).trans ((belp10).mono (FB_p2.out).size))
        have FX_p12 := Lib.hid (((belp10).block _ (Array.getElem?_eq_some_iff.1 (FX_p3.out)).1).trans (FX_p3.out))
        clear FB_p2 FX_p3
        have OWN := Lib.hid (ownp10.more FQp10.out.size (Nat.le_refl _))
        clear ownp10 belp10 FQp10
        refine hK.out _ _ (HSX.out _ FB_p11.out) (fun hHeld => ?_)
        clear hK K
        (try simp only [Act.put, List.setIfInBounds_toArray, List.set_cons_zero, List.set_cons_succ, List.getElem_toArray, List.getElem_cons_succ, List.getElem_cons_zero])
        refine wpAnyH_ready (rs := [1]) (by kernel_rfl) (by simp) ?_
        refine AllReadyH.cons rfl (fun K hK => ?_) ?_
        · obtain ⟨q0, q1, q2⟩ := three_cells FX_p12.out
          go_simp
          clear q0 q1 q2
          refine hK.out _ _ (hHeld) (fun hHeld => ?_)
          clear hK K
          (try simp only [Act.put, List.setIfInBounds_toArray, List.set_cons_zero, List.set_cons_succ, List.getElem_toArray, List.getElem_cons_succ, List.getElem_cons_zero])
          refine wpAnyH_ready (rs := [4]) (by kernel_rfl) (by simp) ?_
          refine AllReadyH.cons rfl (fun K hK => ?_) ?_
          · have hz8 := HP8.out.bel.size; have hz9 := FB_p11.out.size
            have OW := Lib.hid (own_below HP8.out.own.q.outer FB_p11.out (Nat.le_refl _))
            have OUT : wp10.ownsRow u8.heap.size 24 1 (.slice (some ⟨g9, 0, none⟩) f.length f.length) f.length (rowV hs9 (parts f)) := by have := OWN.out.outer; rwa [HPL.out] at this
            refine step_atX rfl _ _ 22 rfl u1.heap.size 24 i4 (.slice none 0 0) 24 Tryd.underlying22 HI4.out HZ40.out HZ41.out HZ42.out rfl _ _ _ rfl OW.out (some ⟨g9, 0, none⟩) f.length f.length u8.heap.size _ rfl OUT (rowV_oneW _ _) (by simp only [maxLen]; (try dsimp only); omega) (by (try dsimp only); omega) (by omega) ?_
            intro v9 w9 hown9 hgrow9 hat9
            obtain ⟨A9, c9, rfl, ⟨h9, p9⟩, x9⟩ := pushRows HP8.out FB_p11.out HPL.out OWN.out hown9 hgrow9 hat9
            have HB9 := Lib.hid ((HB8.out.trans (FB_p11.out.mono HB8.out.size)).grown hgrow9 (by have := HB8.out.size; omega) (fun q hq => Nat.le_trans hs1 (HP8.out.own.q.outer.lt q hq).1))
            have HP9 := Lib.hid p9; have HX9 := Lib.hid (x9.trans HP8.out.box)
            clear p9 x9 hown9 hgrow9 hat9 OUT OW
            refine hK.out _ _ (HK.out _ HB9.out) (fun hHeld => ?_)
            clear hK K
            (try simp only [Act.put, List.setIfInBounds_toArray, List.set_cons_zero, List.set_cons_succ, List.getElem_toArray, List.getElem_cons_succ, List.getElem_cons_zero])
            refine wpAnyH_take (i := 5) (v := ?vp13) rfl (by kernel_rfl) (by kernel_rfl) (by kernel_rfl) (fun _ _ _ h => h) (Or.inl ⟨by rfl, ?yp13⟩) (by assumption) ?_
            case yp13 => (intro w hSw; (try dsimp only at hSw); go_simp; all_goals (with_reducible rfl))
            (try simp only [Act.put, List.setIfInBounds_toArray, List.set_cons_zero, List.set_cons_succ, List.getElem_toArray, List.getElem_cons_succ, List.getElem_cons_zero])
            refine wpAnyH_ready (rs := [6]) (by kernel_rfl) (by simp) ?_
            refine AllReadyH.cons rfl (fun K hK => ?_) ?_
            · obtain ⟨a0, a1, a2⟩ := three_cells HX9.out
              have f0 := frozen_of_row _ _ 0 _ _ HX9.out; have f1 := frozen_of_row _ _ 1 _ _ HX9.out; have f2 := frozen_of_row _ _ 2 _ _ HX9.out
              go_simp
              clear a0 a1 a2 f0 f1 f2
              refine hK.out _ _ (HK.out _ (HB9.out.setCell (p := ⟨sx, 0, none⟩) (Nat.le_trans hs1 HP8.out.sxb) _)) (fun hHeld => ?_)
              clear hK K
              (try simp only [Act.put, List.setIfInBounds_toArray, List.set_cons_zero, List.set_cons_succ, List.getElem_toArray, List.getElem_cons_succ, List.getElem_cons_zero])
              refine wpAnyH_done (by kernel_rfl) ?_ _
              go_wp2
              go_roundw
              case rel => exact ⟨k + 1, by omega, by go_num, (by rw [HSW.out, HSC.out]; exact ⟨w2, _, HP9.out⟩)⟩
              case measure => simp [intOf]; omega
            exact AllReadyH.nil
          exact AllReadyH.nil
        exact AllReadyH.nil
      exact AllReadyH.nil
    · have hkn : k = qs.length := by omega
      subst hkn
      have HLD : Hid (ldN qs M = ⟨wsQ qs, axW (lfW (wsQ qs)) M ++ joW (wsQ qs), csU qs qs.length⟩) := Lib.hid rfl
      have HP0 := Lib.hid (show PlSt u1 w2 wr sx NH.nil Nt.nil hh ⟨wsQ qs, [], csU qs qs.length⟩ from PP)
      have HBW : Hid (Below w0.heap.size w0 wr) := Lib.hid (B1.out.trans (PP.bel.mono B1.out.size))
      have ok1 := HOK.out.w; have ok2 := HOK.out.m; have ok3 := HOK.out.i; have ok4 := HOK.out.p; have ok5 := HOK.out.x; have ok6 := HOK.out.g; have ok7 := HOK.out.l
      rw [HLD.out] at HX HSM
      have ax := axW_len (lfW (wsQ qs)) M
      have jo := joW_len (wsQ qs)
      clear HOK PP
      generalize wsQ qs = W at *
      generalize csU qs qs.length = CS at *
      have hrw : ∀ wx : World, Below wr.heap.size wr wx → RdQ wx wx.heap.size hh.A W.length W := fun wx hx => (HP0.out.below hx).own.rd.1
      have HLV := Lib.hid (fun (wx : World) (hx : Below wr.heap.size wr wx) => leavesAmong_any hh.A W.length hh.c W wx (hrw wx hx) (by omega) ok4)
      have HJN := Lib.hid (fun (wx : World) (hx : Below wr.heap.size wr wx) => joinsAmong_any hh.A W.length hh.c W wx (hrw wx hx) (by omega) ok4 ok5 (fun k => by have := ok6 k; omega))
      have HAX := Lib.hid (fun (wx : World) (Al : Option Addr) (cl : Nat) (hx : Below wr.heap.size wr wx) (r : RdI wx wx.heap.size Al (lfW W).length (lfW W)) => axiomsBetween_any Al B cl d (lfW W) M wx r (HM.out wx (HBW.out.trans (hx.mono HBW.out.size))) (by omega) ok3 ok2)
      generalize lfW W = LV at *
      generalize axW LV M = AX at *
      generalize joW W = JO at *
      have HCC := Lib.hid (fun (wx : World) (g c : Nat) (v1 v2 : Value) (c0 : wx.cell? ⟨g, 0, none⟩ = some v1) (c1 : wx.cell? ⟨g, 1, none⟩ = some v2) (hg : g < wx.heap.size) (h1 : PartK wx wx.heap.size v1 AX) (h2 : PartK wx wx.heap.size v2 JO) => concat2_any g c v1 v2 AX JO wx c0 c1 hg h1 h2 (by omega))
      generalize AX ++ JO = XL at *
      have gx := HP0.out.box
      obtain ⟨x0, x1, x2⟩ := three_cells gx
      dsimp only at x0
      have HSXL : Hid (sx < wr.heap.size) := Lib.hid (Nat.lt_of_lt_of_le HP0.out.sxl HP0.out.size)
      clear x1 x2 gx hrw ok1 ok2 ok3 ok4 ok5 ok6 ok7 ax jo
      clear hn10 hlt hk
      go_upto_region 10 with (fail)
      go_cut [] (fun wx => LdSt u1 sx ⟨W, XL, CS⟩ wx)
      case first =>
        have HSX : Hid (∀ wx : World, Below wr.heap.size wr wx → wx.cell? ⟨sx, 0, none⟩ = some (.slice hh.A W.length hh.c)) := Lib.hid fun wx hx => (three_cells ((hx.block sx HSXL.out).trans HP0.out.box)).1
        have FB_0 := Lib.hid (Below.refl wr.heap.size wr)
        clear x0
        refine wp_region_held_drew (S := fun wx => wx.cell? ⟨sx, 0, none⟩ = some (.slice hh.A W.length hh.c)) (by kernel_rfl) (HSX.out _ (Below.refl _ _).drew) (fun hHeld => ?_)
        obtain ⟨wr1, hwr1⟩ : ∃ w', w' = wr.drew := ⟨_, rfl⟩
        rw [← hwr1] at hHeld ⊢
        have br1 : Below wr.heap.size wr wr1 := by rw [hwr1]; exact (Below.refl _ _).drew
        clear hwr1
        have FB_r2 := Lib.hid ((FB_0.out).trans ((br1).mono (FB_0.out).size))
        clear FB_0
        refine wpAnyH_take (i := 0) (v := ?vr3) rfl (by kernel_rfl) (by kernel_rfl) (by kernel_rfl) (fun _ _ _ h => h) (Or.inl ⟨by rfl, ?yr3⟩) (by assumption) ?_
        case yr3 => (intro w hSw; (try dsimp only at hSw); go_simp; all_goals (with_reducible rfl))
        (try simp only [Act.put, List.setIfInBounds_toArray, List.set_cons_zero, List.set_cons_succ, List.getElem_toArray, List.getElem_cons_succ, List.getElem_cons_zero])
        refine wpAnyH_take (i := 3) (v := ?vr4) rfl (by kernel_rfl) (by kernel_rfl) (by kernel_rfl) (fun _ _ _ h => h) (Or.inl ⟨by rfl, ?yr4⟩) (by assumption) ?_
        case yr4 => (intro w hSw; (try dsimp only at hSw); go_simp; all_goals (with_reducible rfl))
        (try simp only [Act.put, List.setIfInBounds_toArray, List.set_cons_zero, List.set_cons_succ, List.getElem_toArray, List.getElem_cons_succ, List.getElem_cons_zero])
        refine wpAnyH_take (i := 5) (v := ?vr5) rfl (by kernel_rfl) (by kernel_rfl) (by kernel_rfl) (fun _ _ _ h => h) (Or.inl ⟨by rfl, ?yr5⟩) (by assumption) ?_
        case yr5 => (intro w hSw; (try dsimp only at hSw); go_simp; all_goals (with_reducible rfl))
        (try simp only [Act.put, List.setIfInBounds_toArray, List.set_cons_zero, List.set_cons_succ, List.getElem_toArray, List.getElem_cons_succ, List.getElem_cons_zero])
        refine wpAnyH_take (i := 1) (v := ?vr6) rfl (by kernel_rfl) (by kernel_rfl) (by kernel_rfl) (fun _ _ _ h => h) (Or.inl ⟨by rfl, ?yr6⟩) (by assumption) ?_
        case yr6 => (intro w hSw; (try dsimp only at hSw); go_simp; all_goals (with_reducible rfl))
        (try simp only [Act.put, List.setIfInBounds_toArray, List.set_cons_zero, List.set_cons_succ, List.getElem_toArray, List.getElem_cons_succ, List.getElem_cons_zero])
        refine wpAnyH_take (i := 6) (v := ?vr7) rfl (by kernel_rfl) (by kernel_rfl) (by kernel_rfl) (fun _ _ _ h => h) (Or.inl ⟨by rfl, ?yr7⟩) (by assumption) ?_
        case yr7 => (intro w hSw; (try dsimp only at hSw); go_simp; all_goals (with_reducible rfl))
        (try simp only [Act.put, List.setIfInBounds_toArray, List.set_cons_zero, List.set_cons_succ, List.getElem_toArray, List.getElem_cons_succ, List.getElem_cons_zero])
        refine wpAnyH_ready (rs := [2]) (by kernel_rfl) (by simp) ?_
        refine AllReadyH.cons rfl (fun K hK => ?_) ?_
        · go_simp
          refine (HLV.out wr1 FB_r2.out).mono ?_
          rintro e wr8 ⟨Alr8, clr8, rfl, ownr8, belr8⟩
          dsimp only
          have FB_r9 := Lib.hid ((FB_r2.out).trans ((belr8).mono (FB_r2.out).size))
          clear FB_r2
          have FV_r8 := Lib.hid (RdI.of_own ownr8)
          clear ownr8 belr8
          refine hK.out _ _ (HSX.out _ FB_r9.out) (fun hHeld => ?_)
          clear hK K
          (try simp only [Act.put, List.setIfInBounds_toArray, List.set_cons_zero, List.set_cons_succ, List.getElem_toArray, List.getElem_cons_succ, List.getElem_cons_zero])
          refine wpAnyH_ready (rs := [4]) (by kernel_rfl) (by simp) ?_
          refine AllReadyH.cons rfl (fun K hK => ?_) ?_
          · go_simp
            refine (HAX.out wr8 Alr8 clr8 FB_r9.out FV_r8.out).mono ?_
            rintro e wr10 ⟨Aar10, car10, rfl, ownr10, belr10⟩
            dsimp only
            have FB_r11 := Lib.hid ((FB_r9.out).trans ((belr10).mono (FB_r9.out).size))
            have FV_r12 := Lib.hid (((FV_r8.out).below (belr10)).more (belr10).size)
            clear FB_r9 FV_r8
            have FA_r10 := Lib.hid (PartK.of_own ownr10)
            clear ownr10 belr10
            refine hK.out _ _ (HSX.out _ FB_r11.out) (fun hHeld => ?_)
            clear hK K
            (try simp only [Act.put, List.setIfInBounds_toArray, List.set_cons_zero, List.set_cons_succ, List.getElem_toArray, List.getElem_cons_succ, List.getElem_cons_zero])
            refine wpAnyH_ready (rs := [7]) (by kernel_rfl) (by simp) ?_
            refine AllReadyH.cons rfl (fun K hK => ?_) ?_
            · go_simp
              refine (HJN.out wr10 FB_r11.out).mono ?_
              rintro e wr13 ⟨Ajr13, cjr13, rfl, ownr13, belr13⟩
              dsimp only
              have FB_r14 := Lib.hid ((FB_r11.out).trans ((belr13).mono (FB_r11.out).size))
              have FV_r15 := Lib.hid (((FV_r12.out).below (belr13)).more (belr13).size)
              have FA_r16 := Lib.hid (((FA_r10.out).below (belr13)).more (belr13).size)
              clear FB_r11 FV_r12 FA_r10
              have FJ_r13 := Lib.hid (PartK.of_own ownr13)
              clear ownr13 belr13
              refine hK.out _ _ (HSX.out _ FB_r14.out) (fun hHeld => ?_)
              clear hK K
              (try simp only [Act.put, List.setIfInBounds_toArray, List.set_cons_zero, List.set_cons_succ, List.getElem_toArray, List.getElem_cons_succ, List.getElem_cons_zero])
              refine wpAnyH_ready (rs := [8]) (by kernel_rfl) (by simp) ?_
              refine AllReadyH.cons rfl (fun K hK => ?_) ?_
              · go_simp
                obtain ⟨wr17, hwr17⟩ : ∃ w', w' = wr13.alloc (.cells #[.slice Aar10 AX.length car10, .slice Ajr13 JO.length cjr13] 29) := ⟨_, rfl⟩
                rw [← hwr17]
                have br17 : Below wr13.heap.size wr13 wr17 := by rw [hwr17]; exact (Below.refl _ _).alloc (Nat.le_refl _) _
                have gr17 : wr17.heap[wr13.heap.size]? = some (.cells #[.slice Aar10 AX.length car10, .slice Ajr13 JO.length cjr13] 29 (0, 0)) := by rw [hwr17]; exact heap_alloc_new _ _
                clear hwr17
                have FB_r18 := Lib.hid ((FB_r14.out).trans ((br17).mono (FB_r14.out).size))
                have FV_r19 := Lib.hid (((FV_r15.out).below (br17)).more (br17).size)
                have FA_r20 := Lib.hid (((FA_r16.out).below (br17)).more (br17).size)
                have FJ_r21 := Lib.hid (((FJ_r13.out).below (br17)).more (br17).size)
                clear FB_r14 FV_r15 FA_r16 FJ_r13
                obtain ⟨gar22, hgr22⟩ : ∃ b, wr13.heap.size = b := ⟨_, rfl⟩
                have GB_r22 := Lib.hid gr17
                rw [hgr22] at GB_r22 ⊢
                clear hgr22 gr17 br17
                refine hK.out _ _ (HSX.out _ FB_r18.out) (fun hHeld => ?_)
                clear hK K
                (try simp only [Act.put, List.setIfInBounds_toArray, List.set_cons_zero, List.set_cons_succ, List.getElem_toArray, List.getElem_cons_succ, List.getElem_cons_zero])
                refine wpAnyH_ready (rs := [9]) (by kernel_rfl) (by simp) ?_
                refine AllReadyH.cons rfl (fun K hK => ?_) ?_
                · go_simp
                  obtain ⟨q0, q1⟩ := twoC GB_r22.out
                  have FQr23 := FB_r18
                  have HGr23 := Lib.hid (Array.getElem?_eq_some_iff.1 GB_r22.out).1
                  refine (HCC.out wr17 gar22 2 _ _ q0 q1 (Array.getElem?_eq_some_iff.1 GB_r22.out).1 FA_r20.out FJ_r21.out).mono ?_
                  rintro e wr23 ⟨Ac, cc, rfl, ownr23, belr23⟩
                  dsimp only
                  have FB_r24 := Lib.hid ((FB_r18.out).trans ((belr23).mono (FB_r18.out).size))
                  have FV_r25 := Lib.hid (((FV_r19.out).below (belr23)).more (belr23).size)
                  have FA_r26 := Lib.hid (((FA_r20.out).below (belr23)).more (belr23).size)
                  have FJ_r27 := Lib.hid (((FJ_r21.out).below (belr23)).more (belr23).size)
                  have GB_r28 := Lib.hid (((belr23).block _ (Array.getElem?_eq_some_iff.1 (GB_r22.out)).1).trans (GB_r22.out))
                  clear FB_r18 FV_r19 FA_r20 FJ_r21 GB_r22
                  have P9 := Lib.hid (HP0.out.setL FB_r24.out (ownr23.mono FQr23.out.size))
                  have X9 := Lib.hid ((FB_r24.out.block sx HSXL.out).trans HP0.out.box)
                  clear ownr23 belr23 q0 q1
                  refine hK.out _ _ (HSX.out _ FB_r24.out) (fun hHeld => ?_)
                  clear hK K
                  (try simp only [Act.put, List.setIfInBounds_toArray, List.set_cons_zero, List.set_cons_succ, List.getElem_toArray, List.getElem_cons_succ, List.getElem_cons_zero])
                  refine wpAnyH_take (i := 10) (v := ?vr29) rfl (by kernel_rfl) (by kernel_rfl) (by kernel_rfl) (fun _ _ _ h => h) (Or.inl ⟨by rfl, ?yr29⟩) (by assumption) ?_
                  case yr29 => (intro w hSw; (try dsimp only at hSw); go_simp; all_goals (with_reducible rfl))
                  (try simp only [Act.put, List.setIfInBounds_toArray, List.set_cons_zero, List.set_cons_succ, List.getElem_toArray, List.getElem_cons_succ, List.getElem_cons_zero])
                  refine wpAnyH_ready (rs := [11]) (by kernel_rfl) (by simp) ?_
                  refine AllReadyH.cons rfl (fun K hK => ?_) ?_
                  · obtain ⟨a0, a1, a2⟩ := three_cells X9.out
                    have f0 := frozen_of_row _ _ 0 _ _ X9.out; have f1 := frozen_of_row _ _ 1 _ _ X9.out; have f2 := frozen_of_row _ _ 2 _ _ X9.out
                    go_simp
                    clear a0 a1 a2 f0 f1 f2
                    refine hK.out _ _ ((three_cells P9.out.box).1) (fun hHeld => ?_)
                    clear hK K
                    (try simp only [Act.put, List.setIfInBounds_toArray, List.set_cons_zero, List.set_cons_succ, List.getElem_toArray, List.getElem_cons_succ, List.getElem_cons_zero])
                    refine wpAnyH_done (by kernel_rfl) ?_ _
                    go_wp2_with (fail)
                    go_meet
                    exact ⟨_, _, P9.out⟩
                  exact AllReadyH.nil
                exact AllReadyH.nil
              exact AllReadyH.nil
            exact AllReadyH.nil
          exact AllReadyH.nil
        exact AllReadyH.nil
      case rest =>
        obtain ⟨w3, h9, PP⟩ := hcut
        have P9 := Lib.hid PP
        have B9 : Hid (Below w0.heap.size w0 wc) := Lib.hid (B1.out.trans (PP.bel.mono B1.out.size))
        obtain ⟨k0, k1, k2⟩ := three_cells PP.box
        clear PP x0
        cases bb with
        | false =>
          have HV9 := Lib.hid (checked_no h9 _ wc P9.out.own.rd HSM.out (HTD.out wc B9.out).1 (HTD.out wc B9.out).2 HX.out)
          go_wp2_with (fail)
          refine HV9.out.mono ?_
          rintro e u10 ⟨rfl, bel⟩
          have B10 := Lib.hid (B9.out.trans (bel.mono B9.out.size))
          have O10 := Lib.hid (OwnN.nil u10 w0.heap.size u10.heap.size)
          clear bel k0 k1 k2
          have q1 := HK2.out _ B10.out
          obtain ⟨a0, a1, a2⟩ := three_cells q1
          have f0 := frozen_of_row _ _ 0 _ _ q1; have f1 := frozen_of_row _ _ 1 _ _ q1; have f2 := frozen_of_row _ _ 2 _ _ q1
          have Q1 := Lib.hid q1
          clear q1
          go_wp2
          (try simp only [Exit.inBlock, Exit.then])
          refine bodyPost_ret (results_cell_row_tmp rfl _ _ (w.heap.size + 1) _ _ (0, 0) _ rfl (set3_at Q1.out _ _ _) Tryd.underlying31 rfl (by kernel_rfl)) rfl ?_
          exact givesNB_of (ldDone HB0.out B10.out O10.out hs0)
        | true =>
          have HV9 := Lib.hid (checked_yes h9 _ wc P9.out.own.rd HSM.out (HTD.out wc B9.out).1 (HTD.out wc B9.out).2 HX.out)
          go_wp2_with (fail)
          refine HV9.out.mono ?_
          rintro e u10 ⟨rfl, bel⟩
          have B10 := Lib.hid (B9.out.trans (bel.mono B9.out.size))
          have O10 := Lib.hid (((P9.out.own.below bel).size).more hs1 (Nat.le_refl _))
          clear bel k0 k1 k2
          have q1 := HK2.out _ B10.out
          obtain ⟨a0, a1, a2⟩ := three_cells q1
          have f0 := frozen_of_row _ _ 0 _ _ q1; have f1 := frozen_of_row _ _ 1 _ _ q1; have f2 := frozen_of_row _ _ 2 _ _ q1
          have Q1 := Lib.hid q1
          clear q1
          go_wp2
          (try simp only [Exit.inBlock, Exit.then])
          refine bodyPost_ret (results_cell_row_tmp rfl _ _ (w.heap.size + 1) _ _ (0, 0) _ rfl (set3_at Q1.out _ _ _) Tryd.underlying31 rfl (by kernel_rfl)) rfl ?_
          show GivesNB w (ldN qs M) true _ _
          rw [HLD.out]
          exact givesNB_of (ldDone HB0.out B10.out O10.out hs0)
/-- LinkedNet of the program. -/
theorem linkedNet_impl (A B : Option Addr) (n c m d : Nat) (qs : List (List Int)) (M : List Int) (w : World) (h : RdQ w w.heap.size A n qs) (hM : RdI w w.heap.size B m M) (hn : n ≤ 1048576) (hm : m ≤ 1048576) (ht : Arit w) (hu : Dual w) :
    Calls Tryd.prog 25 #[.agg #[.slice A n c], .slice B m d] w (GivesNB w (ldV qs M) (ldB qs M)) := by
  cases him : imB qs M with
  | false =>
    have e : ldB qs M = false := by unfold ldB; rw [him]; rfl
    have e2 : ldV qs M = Nt.nil := by unfold ldV; rw [e]; rfl
    rw [e, e2]
    exact ld_no A B n c m d qs M w h hM hn hm ht hu him
  | true =>
    have e : ldB qs M = valN (ldN qs M) := by unfold ldB; rw [him]; rfl
    have e2 : ldV qs M = pickL (valN (ldN qs M)) (ldN qs M) := by unfold ldV pickL; rw [e]
    rw [e, e2]
    exact ld_ok2 A B n c m d qs M w h hM hn hm ht hu him _ rfl
end Go.Proofs.YtfanapddopafiaaDoor
