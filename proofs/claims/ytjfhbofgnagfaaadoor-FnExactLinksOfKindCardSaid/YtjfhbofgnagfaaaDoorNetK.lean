/- The links of a kind, of the model. -/
import Derived.Test.YtjfhbofgnagfaaaDoorNetZ
import Derived.Test.YtjfhbofgnagfaaaDoorMark
namespace Go.Proofs.YtjfhbofgnagfaaaDoor
open Go.ChangeAt Go.ChangeShapes Go.RowKit Go.WideShapes

/-- The links of a kind among the first k. -/
def kinU (x : Int) (ls : List Lk) (k : Nat) : List Int := ((List.range k).filter fun i => (ls.getD i Lk.nil).k == x).map fun i : Nat => (i : Int)
theorem kinU_zero (x : Int) (ls : List Lk) : kinU x ls 0 = [] := rfl
theorem kinU_yes {x : Int} {ls : List Lk} {k : Nat} (h : (ls.getD k Lk.nil).k = x) : kinU x ls (k + 1) = kinU x ls k ++ [(k : Int)] := by
  unfold kinU; rw [List.range_succ, List.filter_append, List.map_append]
  simp only [List.filter_cons, List.filter_nil]
  rw [if_pos (by simpa using h)]; rfl
theorem kinU_no {x : Int} {ls : List Lk} {k : Nat} (h : ¬ (ls.getD k Lk.nil).k = x) : kinU x ls (k + 1) = kinU x ls k := by
  unfold kinU; rw [List.range_succ, List.filter_append, List.map_append]
  simp only [List.filter_cons, List.filter_nil]
  rw [if_neg (by simpa using h)]; simp
theorem kinU_len (x : Int) (ls : List Lk) (k : Nat) : (kinU x ls k).length ≤ k := by
  unfold kinU
  rw [List.length_map]
  exact Nat.le_trans (List.length_filter_le _ _) (by simp)
/-- LinksOfKind. -/
def kinN (N : Nt) (x : Int) : List Int := if valN N then kinU x N.l N.l.length else []
theorem kinN_len (N : Nt) (x : Int) : (kinN N x).length ≤ 48 := by
  unfold kinN
  cases hv : valN N with
  | false => simp
  | true => rw [if_pos rfl]; exact Nat.le_trans (kinU_len x N.l _) (valN_size hv).2
/-- No round, or the net is valid. -/
def OrV (k : Nat) (N : Nt) : Prop := k = 0 ∨ valN N = true
theorem gives_of {w w' : World} {v : Value} {n : Nat} {xs ys : List Int} {b : Nat} (h : w'.ownsRow b 2 1 v n (xs.map (Value.int .i64))) (hn : n = xs.length) (hx : xs = ys) (hb : w.heap.size ≤ b) (bel : Below w.heap.size w w') : Gives w ys (.returned v) w' := by
  subst hn; subst hx
  obtain ⟨A, c, rfl⟩ := own_shape h
  exact ⟨A, c, rfl, h.mono hb, bel⟩
set_option maxRecDepth 100000 in
set_option maxHeartbeats 4000000 in
theorem sLinksOfKind_any (h : NH) (N : Nt) (x : Int) (w : World) (r : RdN w w.heap.size h N) (hn : N.w.length ≤ 1048576) (hl : N.l.length ≤ 1048576) (hc : N.c.length ≤ 1048576) :
    Calls Tryd.prog 40 #[.agg #[.slice h.A N.w.length h.c, .slice h.L N.l.length h.d, .slice h.C N.c.length h.e], .int .i64 x] w (Gives w (kinN N x)) := by
  obtain ⟨i0, hi0, hz0, hz1, hz2⟩ := info_parts info_i64
  have HI := Lib.hid hi0; have HZ0 := Lib.hid hz0; have HZ1 := Lib.hid hz1; have HZ2 := Lib.hid hz2
  obtain ⟨w0, hw0⟩ : ∃ w0, w0 = w.alloc (.cells #[.slice h.A N.w.length h.c, .slice h.L N.l.length h.d, .slice h.C N.c.length h.e] 28) := ⟨_, rfl⟩
  obtain ⟨hb, hh, hsz⟩ := box3_any w (.slice h.A N.w.length h.c) (.slice h.L N.l.length h.d) (.slice h.C N.c.length h.e) 28
  rw [← hw0] at hb hh hsz
  have hs0 : w.heap.size + 1 ≤ w0.heap.size := by omega
  have HK : Hid (∀ w', Below w0.heap.size w0 w' → w'.cell? ⟨w.heap.size, 0, none⟩ = some (.slice h.A N.w.length h.c) ∧ w'.cell? ⟨w.heap.size, 1, none⟩ = some (.slice h.L N.l.length h.d) ∧ w'.cell? ⟨w.heap.size, 2, none⟩ = some (.slice h.C N.c.length h.e)) := Lib.hid fun w' hw => three_cells ((hw.block _ (by omega)).trans hh)
  have HR := Lib.hid (fun (w' : World) (hw : Below w0.heap.size w0 w') => ((r.below (hb.trans (hw.mono hb.size))).more (Nat.le_trans hb.size hw.size)))
  have HV := Lib.hid (fun (w' : World) (hw : Below w0.heap.size w0 w') => sValidNet_any h N w' ((r.below (hb.trans (hw.mono hb.size))).more (Nat.le_trans hb.size hw.size)) hn hl hc)
  have HB0 := Lib.hid hb
  have h0 : (w0.alloc (.cells #[] 2)).ownsRow w0.heap.size 2 1 (.slice (some ⟨w.heap.size + 1, 0, none⟩) 0 0) 0 ((kinU x N.l 0).map (Value.int .i64)) := by rw [← hsz]; exact World.ownsRow_made w0 #[] 0 (Nat.le_refl _) (by simp [maxLen]) rfl
  have hb1 : Below w0.heap.size w0 (w0.alloc (.cells #[] 2)) := (Below.refl _ _).alloc (Nat.le_refl _) _
  have H0 := Lib.hid h0; have HB1 := Lib.hid hb1
  clear hb hh hsz r hi0 hz0 hz1 hz2 h0 hb1
  go_enter Tryd.func40, Tryd.ntmps40
  go_wp2
  rw [← hw0]
  clear hw0
  go_loopw [5, 6] (fun v i wx => ∃ k : Nat, k ≤ N.l.length ∧ i = .int .i64 k ∧ OrV k N ∧ wx.ownsRow w0.heap.size 2 1 v (kinU x N.l k).length ((kinU x N.l k).map (Value.int .i64)) ∧ Below w0.heap.size w0 wx) (fun _ i _ => N.l.length - (intOf i).toNat)
  case atStart => exact ⟨0, Nat.zero_le _, rfl, .inl rfl, H0.out, HB1.out⟩
  case round =>
    obtain ⟨k, hk, rfl, hor, hO, hB⟩ := hrel
    clear H0 HB1
    obtain ⟨y0, y1, y2⟩ := HK.out _ hB
    by_cases hlt : k < N.l.length
    · have hV := HV.out _ hB
      cases hv : valN N with
      | false =>
        have hk0 : k = 0 := by rcases (show k = 0 ∨ valN N = true from hor) with e | e; exact e; rw [hv] at e; cases e
        subst hk0
        have HE : Hid (kinU x N.l 0 = kinN N x) := Lib.hid (by unfold kinN; rw [hv]; rfl)
        rw [hv] at hV
        have HVV := Lib.hid hV; have HO := Lib.hid hO; have HB := Lib.hid hB
        clear hV hO hB hor hv
        go_wp2_with (fail)
        refine HVV.out.mono ?_
        rintro e w1 ⟨rfl, bel⟩
        have HG := Lib.hid (gives_of (own_below HO.out bel (Nat.le_refl _)) rfl HE.out (Nat.le_trans (Nat.le_succ _) hs0) (HB0.out.trans ((HB.out.trans (bel.mono HB.out.size)).mono HB0.out.size)))
        clear bel
        go_wp2
        go_ret
        exact HG.out
      | true =>
        rw [hv] at hV
        obtain ⟨b, off, hA, hbb, hcells⟩ := (HR.out _ hB).2.1.at (by omega)
        obtain ⟨x0, _, _, _⟩ := hcells k hlt
        obtain ⟨l, hl'⟩ : ∃ l, N.l.getD k Lk.nil = l := ⟨_, rfl⟩
        rw [hl'] at x0
        have hx0 := x0
        have HVV := Lib.hid hV; have HO := Lib.hid hO; have HB := Lib.hid hB; have HA := Lib.hid hA; have HVT := Lib.hid hv
        clear hV hO hB hor hv hcells hA x0
        by_cases hkd : l.k = x
        · have hd : (l.k == x) = true := by simpa using hkd
          have HS := Lib.hid (kinU_yes (x := x) (ls := N.l) (k := k) (by rw [hl']; exact hkd))
          clear hkd hl'
          have hln := kinU_len x N.l k
          go_wp2_with (fail)
          refine HVV.out.mono ?_
          rintro e w1 ⟨rfl, bel⟩
          have HB1 := Lib.hid (HB.out.trans (bel.mono HB.out.size))
          have x0 := (bel.cell (p := ⟨b, off + k * 4, none⟩) hbb).trans hx0
          have HO1 := Lib.hid (own_below HO.out bel (Nat.le_refl _))
          have hsz1 := HB1.out.size
          clear bel y0 y1 y2 hx0
          obtain ⟨y0, y1, y2⟩ := HK.out _ HB1.out
          rw [HA.out] at y1
          have HLN : Hid ((kinU x N.l (k + 1)).length = (kinU x N.l k).length + 1) := Lib.hid (by rw [HS.out]; simp)
          go_wp2_with (at_builtin; refine wpList_append_own _ rfl _ _ 26 rfl w0.heap.size 2 i0 (.int .i64 0) 1 8 Tryd.underlying26 HI.out HZ0.out HZ1.out HZ2.out rfl (by decide) _ _ _ rfl (HO1.out.alloc _) ⟨w1.heap.size, 0, none⟩ 1 1 [.int .i64 k] rfl rfl ?c1 ?c2 ?c3 ?c4 ?c5 ?_)
          case c1 => exact cell_one_new _ _ _
          case c2 => intro u hu; simp at hu; subst hu; rfl
          case c3 => unfold maxLen; omega
          case c4 => omega
          case c5 => simp; omega
          intro v' w2 hown' hgrow _
          have hb2 := Lib.hid ((HB1.out.alloc hsz1 (.cells #[.int .i64 k] 2)).grown hgrow (by simp; omega) (fun q hq => (HO1.out.lt q hq).1))
          have hown2 : w2.ownsRow w0.heap.size 2 1 v' (kinU x N.l (k + 1)).length ((kinU x N.l (k + 1)).map (Value.int .i64)) := by
            rw [HLN.out, HS.out, List.map_append]; exact hown'
          have hown1 := Lib.hid hown2
          clear hown' hgrow hown2 hsz1
          go_wp2
          go_roundw
          case rel => exact ⟨k + 1, by omega, by go_num, .inr HVT.out, hown1.out, hb2.out⟩
          case measure => simp [intOf]; omega
        · have hd : (l.k == x) = false := by simpa using hkd
          have HS := Lib.hid (kinU_no (x := x) (ls := N.l) (k := k) (by rw [hl']; exact hkd))
          clear hkd hl'
          go_wp2_with (fail)
          refine HVV.out.mono ?_
          rintro e w1 ⟨rfl, bel⟩
          have HB1 := Lib.hid (HB.out.trans (bel.mono HB.out.size))
          have x0 := (bel.cell (p := ⟨b, off + k * 4, none⟩) hbb).trans hx0
          have HO1 := own_below HO.out bel (Nat.le_refl _)
          rw [← HS.out] at HO1
          have HO2 := Lib.hid HO1
          clear bel y0 y1 y2 hx0 HO1
          obtain ⟨y0, y1, y2⟩ := HK.out _ HB1.out
          rw [HA.out] at y1
          go_wp2
          go_roundw
          case rel => exact ⟨k + 1, by omega, by go_num, .inr HVT.out, HO2.out, HB1.out⟩
          case measure => simp [intOf]; omega
    · have hkl : k = N.l.length := by omega
      subst hkl
      have HE : Hid (kinU x N.l N.l.length = kinN N x) := Lib.hid (by
        unfold kinN
        cases hv : valN N with
        | true => rfl
        | false =>
          rcases (show N.l.length = 0 ∨ valN N = true from hor) with e | e
          · rw [e]; rfl
          · rw [hv] at e; cases e)
      have HG := Lib.hid (gives_of hO rfl HE.out (Nat.le_trans (Nat.le_succ _) hs0) (HB0.out.trans (hB.mono HB0.out.size)))
      clear hO hB hor
      go_wp2
      go_ret
      exact HG.out
end Go.Proofs.YtjfhbofgnagfaaaDoor
