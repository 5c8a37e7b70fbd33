/- The links of a kind, of the model. The sequent of the conclusions of a net, of the model. The program's ConclusionSeq. Answers of chapter 8 are small. -/
import Derived.Test.YtfanapddopafiaaDoorQPgG
import Derived.Test.YtfanapddopafiaaDoorQMath
import Derived.Test.YtfanapddopafiaaDoorQNetC
import Derived.Test.YtfanapddopafiaaDoorSeqV
import Derived.Test.YtfanapddopafiaaDoorQCopyS
import Derived.Deep.RegionHeldLaw
import Derived.Test.YtfanapddopafiaaDoorQSubA
namespace Go.Proofs.YtfanapddopafiaaDoor
set_option linter.unusedSimpArgs false
set_option linter.unusedVariables false
section
open Go.ChangeAt Go.ChangeShapes Go.RowKit Go.WideShapes

/-- The links of a kind among the first k. -/
def kinU (x : Int) (ls : List Lk) (k : Nat) : List Int := ((List.range k).filter fun i => (ls.getD i Lk.nil).k == x).map fun i : Nat => (i : Int)
theorem kinU_zero (x : Int) (ls : List Lk) : kinU x ls 0 = [] := rfl
theorem kinU_yes {x : Int} {ls : List Lk} {k : Nat} (h : (ls.getD k Lk.nil).k = x) : kinU x ls (k + 1) = kinU x ls k ++ [(k : Int)] := by
  unfold kinU; rw [List.range_succ, List.filter_append, List.map_append]
  simp only [List.filter_cons, List.filter_nil]
  rw [if_pos (by simpa using h)]; rfl
theorem kinU_no {x : Int} {ls : List Lk} {k : Nat} (h : ¬ (ls.getD k Lk.nil).k = x) : kinU x ls (k + 1) = kinU x ls k := by
  unfold kinU; rw [List.range_succ, List.filter_append, List.map_append]
  simp only [List.filter_cons, List.filter_nil]
  rw [if_neg (by simpa using h)]; simp
theorem kinU_len (x : Int) (ls : List Lk) (k : Nat) : (kinU x ls k).length ≤ k := by
  unfold kinU
  rw [List.length_map]
  exact Nat.le_trans (List.length_filter_le _ _) (by simp)
/-- LinksOfKind. -/
def kinN (N : Nt) (x : Int) : List Int := if valN N then kinU x N.l N.l.length else []
theorem kinN_len (N : Nt) (x : Int) : (kinN N x).length ≤ 48 := by
  unfold kinN
  cases hv : valN N with
  | false => simp
  | true => rw [if_pos rfl]; exact Nat.le_trans (kinU_len x N.l _) (valN_size hv).2
/-- No round, or the net is valid. -/
def OrV (k : Nat) (N : Nt) : Prop := k = 0 ∨ valN N = true
theorem gives_of {w w' : World} {v : Value} {n : Nat} {xs ys : List Int} {b : Nat} (h : w'.ownsRow b 2 1 v n (xs.map (Value.int .i64))) (hn : n = xs.length) (hx : xs = ys) (hb : w.heap.size ≤ b) (bel : Below w.heap.size w w') : Gives w ys (.returned v) w' := by
  subst hn; subst hx
  obtain ⟨A, c, rfl⟩ := own_shape h
  exact ⟨A, c, rfl, h.mono hb, bel⟩
set_option maxRecDepth 100000 in
set_option maxHeartbeats 4000000 in
theorem sLinksOfKind_any (h : NH) (N : Nt) (x : Int) (w : World) (r : RdN w w.heap.size h N) (hn : N.w.length ≤ 1048576) (hl : N.l.length ≤ 1048576) (hc : N.c.length ≤ 1048576) :
    Calls Tryd.prog 50 #[.agg #[.slice h.A N.w.length h.c, .slice h.L N.l.length h.d, .slice h.C N.c.length h.e], .int .i64 x] w (Gives w (kinN N x)) := by
  obtain ⟨i0, hi0, hz0, hz1, hz2⟩ := info_parts info_i64
  have HI := Lib.hid hi0; have HZ0 := Lib.hid hz0; have HZ1 := Lib.hid hz1; have HZ2 := Lib.hid hz2
  obtain ⟨w0, hw0⟩ : ∃ w0, w0 = w.alloc (.cells #[.slice h.A N.w.length h.c, .slice h.L N.l.length h.d, .slice h.C N.c.length h.e] 31) := ⟨_, rfl⟩
  obtain ⟨hb, hh, hsz⟩ := box3_any w (.slice h.A N.w.length h.c) (.slice h.L N.l.length h.d) (.slice h.C N.c.length h.e) 31
  rw [← hw0] at hb hh hsz
  have hs0 : w.heap.size + 1 ≤ w0.heap.size := by omega
  have HK : Hid (∀ w', Below w0.heap.size w0 w' → w'.cell? ⟨w.heap.size, 0, none⟩ = some (.slice h.A N.w.length h.c) ∧ w'.cell? ⟨w.heap.size, 1, none⟩ = some (.slice h.L N.l.length h.d) ∧ w'.cell? ⟨w.heap.size, 2, none⟩ = some (.slice h.C N.c.length h.e)) := Lib.hid fun w' hw => three_cells ((hw.block _ (by omega)).trans hh)
  have HR := Lib.hid (fun (w' : World) (hw : Below w0.heap.size w0 w') => ((r.below (hb.trans (hw.mono hb.size))).more (Nat.le_trans hb.size hw.size)))
  have HV := Lib.hid (fun (w' : World) (hw : Below w0.heap.size w0 w') => sValidNet_any h N w' ((r.below (hb.trans (hw.mono hb.size))).more (Nat.le_trans hb.size hw.size)) hn hl hc)
  have HB0 := Lib.hid hb
  have h0 : (w0.alloc (.cells #[] 2)).ownsRow w0.heap.size 2 1 (.slice (some ⟨w.heap.size + 1, 0, none⟩) 0 0) 0 ((kinU x N.l 0).map (Value.int .i64)) := by rw [← hsz]; exact World.ownsRow_made w0 #[] 0 (Nat.le_refl _) (by simp [maxLen]) rfl
  have hb1 : Below w0.heap.size w0 (w0.alloc (.cells #[] 2)) := (Below.refl _ _).alloc (Nat.le_refl _) _
  have H0 := Lib.hid h0; have HB1 := Lib.hid hb1
  clear hb hh hsz r hi0 hz0 hz1 hz2 h0 hb1
  go_enter Tryd.func50, Tryd.ntmps50
  go_wp2
  rw [← hw0]
  clear hw0
  go_loopw [5, 6] (fun v i wx => ∃ k : Nat, k ≤ N.l.length ∧ i = .int .i64 k ∧ OrV k N ∧ wx.ownsRow w0.heap.size 2 1 v (kinU x N.l k).length ((kinU x N.l k).map (Value.int .i64)) ∧ Below w0.heap.size w0 wx) (fun _ i _ => N.l.length - (intOf i).toNat)
  case atStart => exact ⟨0, Nat.zero_le _, rfl, .inl rfl, H0.out, HB1.out⟩
  case round =>
    obtain ⟨k, hk, rfl, hor, hO, hB⟩ := hrel
    clear H0 HB1
    obtain ⟨y0, y1, y2⟩ := HK.out _ hB
    by_cases hlt : k < N.l.length
    · have hV := HV.out _ hB
      cases hv : valN N with
      | false =>
        have hk0 : k = 0 := by rcases (show k = 0 ∨ valN N = true from hor) with e | e; exact e; rw [hv] at e; cases e
        subst hk0
        have HE : Hid (kinU x N.l 0 = kinN N x) := Lib.hid (by unfold kinN; rw [hv]; rfl)
        rw [hv] at hV
        have HVV := Lib.hid hV; have HO := Lib.hid hO; have HB := Lib.hid hB
        clear hV hO hB hor hv
        go_wp2_with (fail)
        refine HVV.out.mono ?_
        rintro e w1 ⟨rfl, bel⟩
        have HG := Lib.hid (gives_of (own_below HO.out bel (Nat.le_refl _)) rfl HE.out (Nat.le_trans (Nat.le_succ _) hs0) (HB0.out.trans ((HB.out.trans (bel.mono HB.out.size)).mono HB0.out.size)))
        clear bel
        go_wp2
        go_ret
        exact HG.out
      | true =>
        rw [hv] at hV
        obtain ⟨b, off, hA, hbb, hcells⟩ := (HR.out _ hB).2.1.at (by omega)
        obtain ⟨x0, _, _, _⟩ := hcells k hlt
        obtain ⟨l, hl'⟩ : ∃ l, N.l.getD k Lk.nil = l := ⟨_, rfl⟩
        rw [hl'] at x0
        have hx0 := x0
        have HVV := Lib.hid hV; have HO := Lib.hid hO; have HB := Lib.hid hB; have HA := Lib.hid hA; have HVT := Lib.hid hv
        clear hV hO hB hor hv hcells hA x0
        by_cases hkd : l.k = x
        · have hd : (l.k == x) = true := by simpa using hkd
          have HS := Lib.hid (kinU_yes (x := x) (ls := N.l) (k := k) (by rw [hl']; exact hkd))
          clear hkd hl'
          have hln := kinU_len x N.l k
          go_wp2_with (fail)
          refine HVV.out.mono ?_
          rintro e w1 ⟨rfl, bel⟩
          have HB1 := Lib.hid (HB.out.trans (bel.mono HB.out.size))
          have x0 := (bel.cell (p := ⟨b, off + k * 4, none⟩) hbb).trans hx0
          have HO1 := Lib.hid (own_below HO.out bel (Nat.le_refl _))
          have hsz1 := HB1.out.size
          clear bel y0 y1 y2 hx0
          obtain ⟨y0, y1, y2⟩ := HK.out _ HB1.out
          rw [HA.out] at y1
          have HLN : Hid ((kinU x N.l (k + 1)).length = (kinU x N.l k).length + 1) := Lib.hid (by rw [HS.out]; simp)
          go_wp2_with (at_builtin; refine wpList_append_own _ rfl _ _ 24 rfl w0.heap.size 2 i0 (.int .i64 0) 1 8 Tryd.underlying24 HI.out HZ0.out HZ1.out HZ2.out rfl (by decide) _ _ _ rfl (HO1.out.alloc _) ⟨w1.heap.size, 0, none⟩ 1 1 [.int .i64 k] rfl rfl ?c1 ?c2 ?c3 ?c4 ?c5 ?_)
          case c1 => exact cell_one_new _ _ _
          case c2 => intro u hu; simp at hu; subst hu; rfl
          case c3 => unfold maxLen; omega
          case c4 => omega
          case c5 => simp; omega
          intro v' w2 hown' hgrow _
          have hb2 := Lib.hid ((HB1.out.alloc hsz1 (.cells #[.int .i64 k] 2)).grown hgrow (by simp; omega) (fun q hq => (HO1.out.lt q hq).1))
          have hown2 : w2.ownsRow w0.heap.size 2 1 v' (kinU x N.l (k + 1)).length ((kinU x N.l (k + 1)).map (Value.int .i64)) := by
            rw [HLN.out, HS.out, List.map_append]; exact hown'
          have hown1 := Lib.hid hown2
          clear hown' hgrow hown2 hsz1
          go_wp2
          go_roundw
          case rel => exact ⟨k + 1, by omega, by go_num, .inr HVT.out, hown1.out, hb2.out⟩
          case measure => simp [intOf]; omega
        · have hd : (l.k == x) = false := by simpa using hkd
          have HS := Lib.hid (kinU_no (x := x) (ls := N.l) (k := k) (by rw [hl']; exact hkd))
          clear hkd hl'
          go_wp2_with (fail)
          refine HVV.out.mono ?_
          rintro e w1 ⟨rfl, bel⟩
          have HB1 := Lib.hid (HB.out.trans (bel.mono HB.out.size))
          have x0 := (bel.cell (p := ⟨b, off + k * 4, none⟩) hbb).trans hx0
          have HO1 := own_below HO.out bel (Nat.le_refl _)
          rw [← HS.out] at HO1
          have HO2 := Lib.hid HO1
          clear bel y0 y1 y2 hx0 HO1
          obtain ⟨y0, y1, y2⟩ := HK.out _ HB1.out
          rw [HA.out] at y1
          go_wp2
          go_roundw
          case rel => exact ⟨k + 1, by omega, by go_num, .inr HVT.out, HO2.out, HB1.out⟩
          case measure => simp [intOf]; omega
    · have hkl : k = N.l.length := by omega
      subst hkl
      have HE : Hid (kinU x N.l N.l.length = kinN N x) := Lib.hid (by
        unfold kinN
        cases hv : valN N with
        | true => rfl
        | false =>
          rcases (show N.l.length = 0 ∨ valN N = true from hor) with e | e
          · rw [e]; rfl
          · rw [hv] at e; cases e)
      have HG := Lib.hid (gives_of hO rfl HE.out (Nat.le_trans (Nat.le_succ _) hs0) (HB0.out.trans (hB.mono HB0.out.size)))
      clear hO hB hor
      go_wp2
      go_ret
      exact HG.out
end
section
open Go.ChangeAt Go.ChangeShapes Go.RowKit Go.WideShapes

/-- The formulas of the conclusions. -/
def cfL (N : Nt) : List (List Int) := N.c.map (wAt N.w)
/-- ConclusionSeq. -/
def cqB (N : Nt) : Bool := valN N && validQ (cfL N)
def cqL (N : Nt) : List (List Int) := if cqB N = true then cfL N else []
theorem cqB_no {N : Nt} (h : valN N = false) : cqB N = false := by unfold cqB; rw [h]; rfl
theorem cqB_is {N : Nt} (h : valN N = true) : cqB N = validQ (cfL N) := by unfold cqB; rw [h]; rfl
theorem cqL_no {N : Nt} (h : cqB N = false) : cqL N = [] := by unfold cqL; rw [h]; rfl
theorem cqL_yes {N : Nt} (h : cqB N = true) : cqL N = cfL N := by unfold cqL; rw [if_pos h]
theorem cqL_small (N : Nt) : (cqL N).length ≤ 1048576 ∧ total (cqL N) ≤ 1048576 := by
  cases h : cqB N with
  | false => rw [cqL_no h]; simp [total]
  | true =>
    rw [cqL_yes h]
    have hv : validQ (cfL N) = true := by
      cases hn : valN N with
      | false => rw [cqB_no hn] at h; cases h
      | true => rw [cqB_is hn] at h; exact h
    have h1 := validQ_len hv
    have h2 : total (cfL N) ≤ 24 * (cfL N).length := total_valid (List.all_eq_true.2 fun q hq => validQ_mem hv hq)
    omega
theorem mapW_take {ws : List (List Int)} {cs : List Int} {k : Nat} (h : k < cs.length) : (cs.take k).map (wAt ws) ++ [wAt ws (cs.getD k 0)] = (cs.take (k + 1)).map (wAt ws) := by
  rw [takeL_succ (d := 0) h, List.map_append]; rfl
theorem gSeqB_mk {w w' : World} {V V' : List (List Int)} {b b' : Bool} {hs : Nat → Option Addr × Nat} {A : Option Addr} {c n : Nat} (h1 : V.length = n) (own : OwnQ w' w.heap.size w'.heap.size (.slice A n c) hs V) (bel : Below w.heap.size w w') (hV : V = V') (hb : b = b') :
    GivesSeqB w V' b' (.returned (.tuple #[.agg #[.slice A n c], .bool b])) w' := by
  subst hV; subst hb; subst h1
  exact ⟨hs, A, c, rfl, own, bel⟩
set_option maxRecDepth 100000 in
set_option maxHeartbeats 4000000 in
theorem sConclusionSeq_any (h : NH) (N : Nt) (w : World) (r : RdN w w.heap.size h N) (hn : N.w.length ≤ 1048576) (hl : N.l.length ≤ 1048576) (hc : N.c.length ≤ 1048576) :
    Calls Tryd.prog 48 #[.agg #[.slice h.A N.w.length h.c, .slice h.L N.l.length h.d, .slice h.C N.c.length h.e]] w (GivesSeqB w (cqL N) (cqB N)) := by
  obtain ⟨i0, hi0, hz0, hz1, hz2⟩ := info_parts_s
  have HI := Lib.hid hi0; have HZ0 := Lib.hid hz0; have HZ1 := Lib.hid hz1; have HZ2 := Lib.hid hz2
  obtain ⟨w3, hw3⟩ : ∃ w3, w3 = ((w.alloc (.cells #[.slice h.A N.w.length h.c, .slice h.L N.l.length h.d, .slice h.C N.c.length h.e] 31)).alloc (.cells #[.slice none 0 0] 47)).alloc (.cells #[.slice none 0 0] 47) := ⟨_, rfl⟩
  obtain ⟨hb, g0, g1, g2, hsz⟩ := three_any' w (.cells #[.slice h.A N.w.length h.c, .slice h.L N.l.length h.d, .slice h.C N.c.length h.e] 31) (.cells #[.slice none 0 0] 47) (.cells #[.slice none 0 0] 47)
  rw [← hw3] at hb g0 g1 g2 hsz
  obtain ⟨y0, y1, y2⟩ := three_cells g0
  have z0 := cell_of_row _ _ 0 _ _ (0, 0) g2
  have hs3 : w.heap.size + 3 ≤ w3.heap.size := by omega
  have G0 := Lib.hid g0; have G1 := Lib.hid g1; have G2 := Lib.hid g2
  have HV := Lib.hid (sValidNet_any h N w3 ((r.below hb).more hb.size) hn hl hc)
  have HR := Lib.hid r
  have HB0 := Lib.hid hb
  clear hb hsz r hi0 hz0 hz1 hz2 g0 g1 g2
  cases hv : valN N with
  | false =>
    have hs := cqB_no hv
    have HN := Lib.hid (And.intro (cqL_no hs) hs)
    rw [hv] at HV
    clear hv hs
    go_enter Tryd.func48, Tryd.ntmps48
    go_wp2_with (fail)
    rw [← hw3]
    clear hw3
    refine HV.out.mono ?_
    rintro e w4 ⟨rfl, bel⟩
    have q7 := (bel.block (w.heap.size + 1) (by omega)).trans G1.out
    have p7 := (bel.block (w.heap.size + 1 + 1) (by omega)).trans G2.out
    have x0 := cell_of_row _ _ 0 _ _ (0, 0) q7; have x1 := frozen_of_row _ _ 0 _ _ q7
    have x2 := cell_of_row _ _ 0 _ _ (0, 0) p7
    have HB7 := Lib.hid ((HB0.out.trans (bel.mono HB0.out.size)).setCell (p := ⟨w.heap.size + 1, 0, none⟩) (by show w.heap.size ≤ w.heap.size + 1; omega) (.slice none 0 0))
    have H7 := Lib.hid (cell_set (u := .slice none 0 0) q7)
    clear q7 p7 bel y0 y1 y2 z0
    go_wp2
    (try simp only [Exit.inBlock, Exit.then])
    refine bodyPost_ret (results_cell_row_tmp rfl _ _ (w.heap.size + 1) _ _ (0, 0) _ rfl H7.out Tryd.underlying47 rfl (by kernel_rfl)) rfl ?_
    exact gSeqB_mk (hs := fun _ => (none, 0)) rfl (OwnQ.nil _ _ _ _) HB7.out HN.out.1.symm HN.out.2.symm
  | true =>
    rw [hv] at HV
    have his := cqB_is hv
    have hcl := valN_conc_le hv
    have hws := (valN_size hv).1
    have HIN := Lib.hid (fun k (hk : k < N.c.length) => all_at (d := 0) (valN_concl hv) hk)
    have HFV := Lib.hid (fun x (hx : inW N.w.length x = true) => formN_valid (wAt_valid (valN_forms hv) hx))
    clear hv
    go_enter Tryd.func48, Tryd.ntmps48
    go_wp2_with (fail)
    rw [← hw3]
    clear hw3
    refine HV.out.mono ?_
    rintro e w5 ⟨rfl, bel⟩
    have hs5 := bel.size
    have P5 := Lib.hid ((bel.block (w.heap.size + 1 + 1) (by omega)).trans G2.out)
    have Q5 := Lib.hid ((bel.block (w.heap.size + 1) (by omega)).trans G1.out)
    have R5 := Lib.hid ((bel.block w.heap.size (by omega)).trans G0.out)
    have HB5 := Lib.hid (HB0.out.trans (bel.mono HB0.out.size))
    obtain ⟨b6, hb6'⟩ : ∃ b6, b6 = w.heap.size + 1 + 1 := ⟨_, rfl⟩
    have hb01 : w.heap.size + 1 < b6 := by omega
    have hb65 : b6 < w5.heap.size := by omega
    rw [← hb6'] at P5 z0
    clear bel y0 y1 y2
    go_wp2
    rw [← hb6']
    clear hb6'
    go_loopw [5] (fun i wr => ∃ (k : Nat) (hs : Nat → Option Addr × Nat) (A2 : Option Addr) (c2 : Nat), k ≤ N.c.length ∧ i = .int .i64 k ∧ wr.heap[b6]? = some (.cells #[.slice A2 k c2] 47 (0, 0)) ∧
      OwnQ wr w5.heap.size wr.heap.size (.slice A2 k c2) hs ((N.c.take k).map (wAt N.w)) ∧ Below b6 w5 wr) (fun i _ => N.c.length - (intOf i).toNat)
    case atStart => exact ⟨0, fun _ => (none, 0), none, 0, Nat.zero_le _, rfl, P5.out, OwnQ.nil _ _ _ _, Below.refl _ _⟩
    case round =>
      obtain ⟨k, hs, A2, c2, hk, rfl, hb6, hown, hbl⟩ := hrel
      have hsr := hbl.size
      have k1 := cell_of_row _ _ 0 _ _ (0, 0) hb6
      obtain ⟨y0, y1, y2⟩ := three_cells ((hbl.block w.heap.size (by omega)).trans R5.out)
      have q6 := (hbl.block (w.heap.size + 1) (by omega)).trans Q5.out
      have HBW := Lib.hid (HB5.out.trans (hbl.mono (by omega)))
      have HLEN : Hid (((N.c.take k).map (wAt N.w)).length = k) := Lib.hid (by rw [List.length_map, List.length_take]; omega)
      by_cases hlt : k < N.c.length
      · have hin := HIN.out k hlt
        obtain ⟨bc, offc, hC, hbc, hcc⟩ := HR.out.2.2.2 (by omega)
        have kc := (HBW.out.cell (p := ⟨bc, offc + k, none⟩) hbc).trans (hcc k hlt)
        have hfv := HFV.out _ hin
        have hnx := mapW_take (ws := N.w) hlt
        obtain ⟨z, hz⟩ : ∃ z, N.c.getD k 0 = z := ⟨_, rfl⟩
        rw [hz] at kc hin hfv hnx
        obtain ⟨_, hix, ez⟩ := inW_yes hin
        obtain ⟨bw, offw, hA, hbw, hcw⟩ := HR.out.1.2 (by omega)
        obtain ⟨A', c', hcell, hcc', hrd⟩ := hcw z.toNat hix
        have kw := (HBW.out.cell (p := ⟨bw, offw + z.toNat, none⟩) hbw).trans hcell
        rw [hC] at y2
        rw [hA] at y0
        rw [show wAt N.w z = N.w.getD z.toNat [] from rfl] at hfv hnx
        have hlz := (valid_len hfv).1
        have hlz2 := (valid_len hfv).2.1
        have HD := Lib.hid (copyInts_any (.slice A' (N.w.getD z.toNat []).length c') (N.w.getD z.toNat []) wr.drew (Part.of_rd ((hrd.below HBW.out).more HBW.out.size) (by omega)) (by omega))
        generalize N.w.getD z.toNat [] = dq at *
        generalize z.toNat = iz at *
        subst ez
        have HNX := Lib.hid hnx
        have HO := Lib.hid hown; have HB6 := Lib.hid hb6; have HBL := Lib.hid hbl; have HCC := Lib.hid hC; have HAA := Lib.hid hA
        clear hown hb6 hbl hcell hrd q6 hC hA hcc hcw hz hin hfv hnx
        go_wp2_with (fail)
        go_region_law
          (first
            | (go_simp
               go_at_call 57
               refine HD.out.mono ?_
               rintro e w6 ⟨A6, c6, rfl, own6, bel6'⟩
               have bel6 := undrew bel6'
               obtain ⟨o6, n6, bs6⟩ := push_in (A6 := A6) (c6 := c6) (dq := dq) HO.out HLEN.out (by omega) bel6
               have O6 := Lib.hid o6
               have N6 := Lib.hid n6
               have BS6 := Lib.hid bs6
               have k1' := (bel6.cell (p := ⟨b6, 0, none⟩) (by show b6 < _; omega)).trans k1
               have hx6 := bel6.trans ((box_below w6 (.slice A6 dq.length c6) 24).mono bel6.size)
               have k1'' := (hx6.cell (p := ⟨b6, 0, none⟩) (by show b6 < _; omega)).trans k1
               have OW6 := Lib.hid own6
               have BE6 := Lib.hid bel6
               clear own6 bel6 bel6' o6 n6 bs6 hx6
               dsimp only)
            | (refine step_append_lies _ rfl _ _ _ rfl _ 24 i0 (.slice none 0 0) 1 24 Tryd.underlying22 HI.out HZ0.out HZ1.out HZ2.out rfl (by decide) _ _ _ rfl O6.out ⟨w6.heap.size, 0, none⟩ 1 1 [.slice A6 dq.length c6] rfl rfl N6.out (by simp [Value.oneCell']) (by decide) (by simp only [maxLen]; omega) (by omega) BS6.out _ rfl ?_
               intro g cap w7 hown7 hgrow7 hat7 hlt7
               obtain ⟨cl7, hf7, F1, F2, F3⟩ := push_out HO.out HLEN.out (by omega) (by omega) HBL.out HB6.out BE6.out OW6.out hown7 hgrow7 hat7
               have hk8 := (cl7 ⟨b6, 0, none⟩ (by show b6 < _; omega)).trans k1
               rw [HNX.out] at F2
               have G1 := Lib.hid F1
               have G2 := Lib.hid F2
               have G3 := Lib.hid F3
               clear hown7 hgrow7 hat7 cl7 F1 F2 F3))
        all_goals
          go_wp2
          go_roundw
          case rel => exact ⟨k + 1, _, _, _, by omega, by go_num, G1.out, G2.out, G3.out⟩
          case measure => simp [intOf]; omega
      · have hkl : k = N.c.length := by omega
        subst hkl
        rw [List.take_of_length_le (Nat.le_refl _)] at hown HLEN
        have hcap : N.c.length ≤ c2 := by
          have := hown.outer
          rw [HLEN.out] at this
          exact (own_cap this).1
        have HVS := Lib.hid (sValidSeq_any A2 N.c.length c2 (cfL N) wr (hown.rd HLEN.out) (by omega) hcap)
        have HO := Lib.hid hown; have HB6 := Lib.hid hb6; have HBL := Lib.hid hbl; have Q6 := Lib.hid q6
        clear hown hb6 hbl q6
        cases hvv : validQ (cfL N) with
        | false =>
          rw [hvv] at HVS his
          have HN := Lib.hid (And.intro (cqL_no his) his)
          clear his hvv
          go_wp2_with (fail)
          refine HVS.out.mono ?_
          rintro e w7 ⟨rfl, bel7⟩
          have q7 := (bel7.block (w.heap.size + 1) (by omega)).trans Q6.out
          have x0 := cell_of_row _ _ 0 _ _ (0, 0) q7; have x1 := frozen_of_row _ _ 0 _ _ q7
          have HB7 := Lib.hid ((HBW.out.trans (bel7.mono HBW.out.size)).setCell (p := ⟨w.heap.size + 1, 0, none⟩) (by show w.heap.size ≤ w.heap.size + 1; omega) (.slice none 0 0))
          have H7 := Lib.hid (cell_set (u := .slice none 0 0) q7)
          clear q7 bel7
          go_wp2
          (try simp only [Exit.inBlock, Exit.then])
          refine bodyPost_ret (results_cell_row_tmp rfl _ _ (w.heap.size + 1) _ _ (0, 0) _ rfl H7.out Tryd.underlying47 rfl (by kernel_rfl)) rfl ?_
          exact gSeqB_mk (hs := fun _ => (none, 0)) rfl (OwnQ.nil _ _ _ _) HB7.out HN.out.1.symm HN.out.2.symm
        | true =>
          rw [hvv] at HVS his
          have HN := Lib.hid (And.intro (cqL_yes his) his)
          clear his hvv
          go_wp2_with (fail)
          refine HVS.out.mono ?_
          rintro e w7 ⟨rfl, bel7⟩
          have q7 := (bel7.block (w.heap.size + 1) (by omega)).trans Q6.out
          have p7 := (bel7.block b6 (by omega)).trans HB6.out
          have x0 := cell_of_row _ _ 0 _ _ (0, 0) q7; have x1 := frozen_of_row _ _ 0 _ _ q7
          have x2 := cell_of_row _ _ 0 _ _ (0, 0) p7
          obtain ⟨h7, o7, b7⟩ := seq_out2 (HBW.out.trans (bel7.mono HBW.out.size)) (b := w.heap.size + 1) (by omega) (show w.heap.size + 1 < w5.heap.size by omega) q7 ((HO.out.below bel7).more (Nat.le_refl _) bel7.size)
          have H7 := Lib.hid h7; have O7 := Lib.hid o7; have B7 := Lib.hid b7
          clear q7 p7 h7 o7 b7 bel7
          go_wp2
          (try simp only [Exit.inBlock, Exit.then])
          refine bodyPost_ret (results_cell_row_tmp rfl _ _ (w.heap.size + 1) _ _ (0, 0) _ rfl H7.out Tryd.underlying47 rfl (by kernel_rfl)) rfl ?_
          exact gSeqB_mk HLEN.out O7.out B7.out HN.out.1.symm HN.out.2.symm
end
section
set_option linter.unusedSimpArgs false
set_option linter.unusedVariables false
open Go.ChangeAt Go.ChangeShapes Go.RowKit Go.WideShapes

set_option maxRecDepth 100000 in
set_option maxHeartbeats 4000000 in
theorem conclusionSeq_impl (h : NH) (N : Nt) (w : World) (r : RdN w w.heap.size h N) (sm : SmallN N) (ht : Arit w) (hu : Dual w) :
    Calls Tryd.prog 52 #[.agg #[.slice h.A N.w.length h.c, .slice h.L N.l.length h.d, .slice h.C N.c.length h.e]] w (GivesSeqB w (cqL N) (cqB N)) := by
  obtain ⟨i0, hi0, hz0, hz1, hz2⟩ := info_parts_s
  have HI := Lib.hid hi0; have HZ0 := Lib.hid hz0; have HZ1 := Lib.hid hz1; have HZ2 := Lib.hid hz2
  obtain ⟨w3, hw3⟩ : ∃ w3, w3 = (w.alloc (.cells #[.slice h.A N.w.length h.c, .slice h.L N.l.length h.d, .slice h.C N.c.length h.e] 31)).alloc (.cells #[.slice none 0 0] 47) := ⟨_, rfl⟩
  obtain ⟨hb, g0, g1, hsz⟩ := two_any' w (.cells #[.slice h.A N.w.length h.c, .slice h.L N.l.length h.d, .slice h.C N.c.length h.e] 31) (.cells #[.slice none 0 0] 47)
  rw [← hw3] at hb g0 g1 hsz
  obtain ⟨y0, y1, y2⟩ := three_cells g0
  have hs3 : w.heap.size + 2 ≤ w3.heap.size := by omega
  have G0 := Lib.hid g0; have G1 := Lib.hid g1
  have HV := Lib.hid (validNet_impl h N w3 ((r.below hb).more hb.size) sm (ht.below hb ht.lt) (hu.below hb hu.lt))
  have HR := Lib.hid r
  have HB0 := Lib.hid hb
  have HT := Lib.hid ht
  clear hb hsz r hi0 hz0 hz1 hz2 g0 g1 hu sm
  cases hv : valN N with
  | false =>
    have hs := cqB_no hv
    have HN := Lib.hid (And.intro (cqL_no hs) hs)
    rw [hv] at HV
    clear hv hs
    go_enter Tryd.func52, Tryd.ntmps52
    go_wp2_with (fail)
    rw [← hw3]
    clear hw3
    refine HV.out.mono ?_
    rintro e w4 ⟨rfl, bel⟩
    have q7 := (bel.block (w.heap.size + 1) (by omega)).trans G1.out
    have x0 := cell_of_row _ _ 0 _ _ (0, 0) q7; have x1 := frozen_of_row _ _ 0 _ _ q7
    have HB7 := Lib.hid ((HB0.out.trans (bel.mono HB0.out.size)).setCell (p := ⟨w.heap.size + 1, 0, none⟩) (by show w.heap.size ≤ w.heap.size + 1; omega) (.slice none 0 0))
    have H7 := Lib.hid (cell_set (u := .slice none 0 0) q7)
    clear q7 bel y0 y1 y2
    go_wp2
    (try simp only [Exit.inBlock, Exit.then])
    refine bodyPost_ret (results_cell_row_tmp rfl _ _ (w.heap.size + 1) _ _ (0, 0) _ rfl H7.out Tryd.underlying47 rfl (by kernel_rfl)) rfl ?_
    exact gSeqB_mk (hs := fun _ => (none, 0)) rfl (OwnQ.nil _ _ _ _) HB7.out HN.out.1.symm HN.out.2.symm
  | true =>
    rw [hv] at HV
    have his := cqB_is hv
    have hcl := valN_conc_le hv
    have hws := (valN_size hv).1
    have HIN := Lib.hid (fun k (hk : k < N.c.length) => all_at (d := 0) (valN_concl hv) hk)
    have HFV := Lib.hid (fun x (hx : inW N.w.length x = true) => formN_valid (wAt_valid (valN_forms hv) hx))
    clear hv
    go_enter Tryd.func52, Tryd.ntmps52
    go_wp2_with (fail)
    rw [← hw3]
    clear hw3
    refine HV.out.mono ?_
    rintro e w4 ⟨rfl, bel⟩
    obtain ⟨w5, hw5⟩ : ∃ w5, w5 = w4.alloc (.cells #[.slice none 0 0] 47) := ⟨_, rfl⟩
    have bx : Below w4.heap.size w4 w5 := by rw [hw5]; exact (Below.refl _ _).alloc (Nat.le_refl _) _
    have p5 : w5.heap[w4.heap.size]? = some (.cells #[.slice none 0 0] 47 (0, 0)) := by rw [hw5]; exact heap_alloc_new _ _
    have s5 : w4.heap.size < w5.heap.size := by rw [hw5]; simp
    have hs5 := bel.size
    have Q5 := Lib.hid ((bx.block (w.heap.size + 1) (by omega)).trans ((bel.block (w.heap.size + 1) (by omega)).trans G1.out))
    have R5 := Lib.hid ((bx.block w.heap.size (by omega)).trans ((bel.block w.heap.size (by omega)).trans G0.out))
    have HB5 := Lib.hid (HB0.out.trans ((bel.trans (bx.mono hs5)).mono HB0.out.size))
    clear y0 y1 y2
    obtain ⟨y0, y1, y2⟩ := three_cells R5.out
    have HW5 := Lib.hid hw5
    rw [hw5] at y0 y1 y2
    obtain ⟨b6, hb6'⟩ : ∃ b6, w4.heap.size = b6 := ⟨_, rfl⟩
    have hb01 : w.heap.size + 1 < b6 := by omega
    rw [hb6'] at p5 s5
    have hb65 : b6 < w5.heap.size := s5
    have P5 := Lib.hid p5
    have HB6' := Lib.hid hb6'
    clear bel bx p5 s5 hs5 hw5 hb6'
    go_wp2
    rw [HB6'.out, ← HW5.out]
    clear HB6' HW5 y0 y1 y2
    go_loopw [14] (fun i wr => ∃ (k : Nat) (hs : Nat → Option Addr × Nat) (A2 : Option Addr) (c2 : Nat), k ≤ N.c.length ∧ i = .int .i64 k ∧ wr.heap[b6]? = some (.cells #[.slice A2 k c2] 47 (0, 0)) ∧
      OwnQ wr w5.heap.size wr.heap.size (.slice A2 k c2) hs ((N.c.take k).map (wAt N.w)) ∧ Below b6 w5 wr) (fun i _ => N.c.length - (intOf i).toNat)
    case atStart => exact ⟨0, fun _ => (none, 0), none, 0, Nat.zero_le _, rfl, P5.out, OwnQ.nil _ _ _ _, Below.refl _ _⟩
    case round =>
      obtain ⟨k, hs, A2, c2, hk, rfl, hb6, hown, hbl⟩ := hrel
      have hsr := hbl.size
      have k1 := cell_of_row _ _ 0 _ _ (0, 0) hb6
      obtain ⟨y0, y1, y2⟩ := three_cells ((hbl.block w.heap.size (by omega)).trans R5.out)
      have q6 := (hbl.block (w.heap.size + 1) (by omega)).trans Q5.out
      have HBW := Lib.hid (HB5.out.trans (hbl.mono (by omega)))
      have HLEN : Hid (((N.c.take k).map (wAt N.w)).length = k) := Lib.hid (by rw [List.length_map, List.length_take]; omega)
      by_cases hlt : k < N.c.length
      · have hin := HIN.out k hlt
        obtain ⟨bc, offc, hC, hbc, hcc⟩ := HR.out.2.2.2 (by omega)
        have kc := (HBW.out.cell (p := ⟨bc, offc + k, none⟩) hbc).trans (hcc k hlt)
        have hfv := HFV.out _ hin
        have hnx := mapW_take (ws := N.w) hlt
        obtain ⟨z, hz⟩ : ∃ z, N.c.getD k 0 = z := ⟨_, rfl⟩
        rw [hz] at kc hin hfv hnx
        obtain ⟨_, hix, ez⟩ := inW_yes hin
        obtain ⟨bw, offw, hA, hbw, hcw⟩ := HR.out.1.2 (by omega)
        obtain ⟨A', c', hcell, hcc', hrd⟩ := hcw z.toNat hix
        have kw := (HBW.out.cell (p := ⟨bw, offw + z.toNat, none⟩) hbw).trans hcell
        rw [hC] at y2
        rw [hA] at y0
        rw [show wAt N.w z = N.w.getD z.toNat [] from rfl] at hfv hnx
        have hlz := (valid_len hfv).1
        have hlz2 := (valid_len hfv).2.1
        have HD := Lib.hid (clone_any (.slice A' (N.w.getD z.toNat []).length c') (N.w.getD z.toNat []) wr.drew (Part.of_rd ((hrd.below HBW.out).more HBW.out.size) (by omega)) (by omega))
        generalize N.w.getD z.toNat [] = dq at *
        generalize z.toNat = iz at *
        subst ez
        have HNX := Lib.hid hnx
        have HO := Lib.hid hown; have HB6 := Lib.hid hb6; have HBL := Lib.hid hbl; have HCC := Lib.hid hC; have HAA := Lib.hid hA
        clear hown hb6 hbl hcell hrd q6 hC hA hcc hcw hz hin hfv hnx
        (try rw [HCC.out])
        go_wp2_with (fail)
        go_region_law
          (first
            | (go_simp
               go_at_call 86
               refine HD.out.mono ?_
               rintro e w6 ⟨A6, c6, rfl, own6, bel6'⟩
               have bel6 := undrew bel6'
               obtain ⟨o6, n6, bs6⟩ := push_in (A6 := A6) (c6 := c6) (dq := dq) HO.out HLEN.out (by omega) bel6
               have O6 := Lib.hid o6
               have N6 := Lib.hid n6
               have BS6 := Lib.hid bs6
               have k1' := (bel6.cell (p := ⟨b6, 0, none⟩) (by show b6 < _; omega)).trans k1
               have hx6 := bel6.trans ((box_below w6 (.slice A6 dq.length c6) 24).mono bel6.size)
               have k1'' := (hx6.cell (p := ⟨b6, 0, none⟩) (by show b6 < _; omega)).trans k1
               have OW6 := Lib.hid own6
               have BE6 := Lib.hid bel6
               clear own6 bel6 bel6' o6 n6 bs6 hx6
               dsimp only)
            | (refine step_append_lies _ rfl _ _ _ rfl _ 24 i0 (.slice none 0 0) 1 24 Tryd.underlying22 HI.out HZ0.out HZ1.out HZ2.out rfl (by decide) _ _ _ rfl O6.out ⟨w6.heap.size, 0, none⟩ 1 1 [.slice A6 dq.length c6] rfl rfl N6.out (by simp [Value.oneCell']) (by decide) (by simp only [maxLen]; omega) (by omega) BS6.out _ rfl ?_
               intro g cap w7 hown7 hgrow7 hat7 hlt7
               obtain ⟨cl7, hf7, F1, F2, F3⟩ := push_out HO.out HLEN.out (by omega) (by omega) HBL.out HB6.out BE6.out OW6.out hown7 hgrow7 hat7
               have hk8 := (cl7 ⟨b6, 0, none⟩ (by show b6 < _; omega)).trans k1
               rw [HNX.out] at F2
               have G1 := Lib.hid F1
               have G2 := Lib.hid F2
               have G3 := Lib.hid F3
               clear hown7 hgrow7 hat7 cl7 F1 F2 F3))
        all_goals
          go_wp2
          go_roundw
          case rel => exact ⟨k + 1, _, _, _, by omega, by go_num, G1.out, G2.out, G3.out⟩
          case measure => simp [intOf]; omega
      · have hkl : k = N.c.length := by omega
        subst hkl
        rw [List.take_of_length_le (Nat.le_refl _)] at hown HLEN
        have hcap : N.c.length ≤ c2 := by
          have := hown.outer
          rw [HLEN.out] at this
          exact (own_cap this).1
        have HVS := Lib.hid (validSeq_impl A2 N.c.length c2 (cfL N) wr (hown.rd HLEN.out) (by unfold maxLen; omega) (HT.out.below HBW.out HT.out.lt))
        have HO := Lib.hid hown; have HB6 := Lib.hid hb6; have HBL := Lib.hid hbl; have Q6 := Lib.hid q6
        clear hown hb6 hbl q6
        cases hvv : validQ (cfL N) with
        | false =>
          rw [hvv] at HVS his
          have HN := Lib.hid (And.intro (cqL_no his) his)
          clear his hvv
          go_wp2_with (fail)
          refine HVS.out.mono ?_
          rintro e w7 ⟨rfl, bel7⟩
          have q7 := (bel7.block (w.heap.size + 1) (by omega)).trans Q6.out
          have x0 := cell_of_row _ _ 0 _ _ (0, 0) q7; have x1 := frozen_of_row _ _ 0 _ _ q7
          have HB7 := Lib.hid ((HBW.out.trans (bel7.mono HBW.out.size)).setCell (p := ⟨w.heap.size + 1, 0, none⟩) (by show w.heap.size ≤ w.heap.size + 1; omega) (.slice none 0 0))
          have H7 := Lib.hid (cell_set (u := .slice none 0 0) q7)
          clear q7 bel7
          go_wp2
          (try simp only [Exit.inBlock, Exit.then])
          refine bodyPost_ret (results_cell_row_tmp rfl _ _ (w.heap.size + 1) _ _ (0, 0) _ rfl H7.out Tryd.underlying47 rfl (by kernel_rfl)) rfl ?_
          exact gSeqB_mk (hs := fun _ => (none, 0)) rfl (OwnQ.nil _ _ _ _) HB7.out HN.out.1.symm HN.out.2.symm
        | true =>
          rw [hvv] at HVS his
          have HN := Lib.hid (And.intro (cqL_yes his) his)
          clear his hvv
          go_wp2_with (fail)
          refine HVS.out.mono ?_
          rintro e w7 ⟨rfl, bel7⟩
          have q7 := (bel7.block (w.heap.size + 1) (by omega)).trans Q6.out
          have p7 := (bel7.block b6 (by omega)).trans HB6.out
          have x0 := cell_of_row _ _ 0 _ _ (0, 0) q7; have x1 := frozen_of_row _ _ 0 _ _ q7
          have x2 := cell_of_row _ _ 0 _ _ (0, 0) p7
          obtain ⟨h7, o7, b7⟩ := seq_out2 (HBW.out.trans (bel7.mono HBW.out.size)) (b := w.heap.size + 1) (by omega) (show w.heap.size + 1 < w5.heap.size by omega) q7 ((HO.out.below bel7).more (Nat.le_refl _) bel7.size)
          have H7 := Lib.hid h7; have O7 := Lib.hid o7; have B7 := Lib.hid b7
          clear q7 p7 h7 o7 b7 bel7
          go_wp2
          (try simp only [Exit.inBlock, Exit.then])
          refine bodyPost_ret (results_cell_row_tmp rfl _ _ (w.heap.size + 1) _ _ (0, 0) _ rfl H7.out Tryd.underlying47 rfl (by kernel_rfl)) rfl ?_
          exact gSeqB_mk HLEN.out O7.out B7.out HN.out.1.symm HN.out.2.symm
end
section
open Go.ChangeAt Go.ChangeShapes Go.RowKit Go.WideShapes
end
end Go.Proofs.YtfanapddopafiaaDoor
