/- KindCounts: the mathematics; the model. -/
import Derived.Test.YtdcommmefehlgaaDoorQNetK
namespace Go.Proofs.YtdcommmefehlgaaDoor
set_option linter.unusedSimpArgs false
set_option linter.unusedVariables false
open Go.ChangeAt Go.ChangeShapes Go.RowKit Go.WideShapes

/-- How many links of a list have the kind x + 1. -/
def kcF (ls : List Lk) (x : Nat) : Int := concN (ls.map fun l => l.k - 1) x
theorem kcF_step {ls : List Lk} {k : Nat} (h : k < ls.length) (x : Nat) : kcF (ls.take (k + 1)) x = kcF (ls.take k) x + one (((ls.getD k Lk.nil).k - 1).toNat = x) := by
  unfold kcF
  rw [takeL_succ (d := Lk.nil) h, List.map_append]
  simp [concN]
theorem kcF_le (ls : List Lk) (x : Nat) : 0 ≤ kcF ls x ∧ kcF ls x ≤ (ls.length : Int) := by
  have := concN_le (ls.map fun l => l.k - 1) x
  rw [List.length_map] at this
  exact this
/-- KindCounts. -/
def kcN (N : Nt) : List Int := if valN N then cnts 4 (kcF N.l) else []
theorem kcN_len (N : Nt) : (kcN N).length ≤ 4 := by
  unfold kcN
  cases valN N with
  | false => simp
  | true => rw [if_pos rfl, cnts_len]; exact Nat.le_refl _
theorem kcN_yes {N : Nt} (h : valN N = true) : kcN N = cnts 4 (kcF N.l) := by unfold kcN; rw [if_pos h]
theorem kcN_no {N : Nt} (h : valN N = false) : kcN N = [] := by unfold kcN; rw [h]; rfl
/-- The place where a link is counted. -/
theorem kind_at {N : Nt} {k : Nat} (hv : valN N = true) (hk : k < N.l.length) : ∃ j : Nat, j < 4 ∧ (N.l.getD k Lk.nil).k = (j : Int) + 1 := by
  rcases fitsN_kind (all_at (d := Lk.nil) (valN_fits hv) hk) with e | e | e | e
  · exact ⟨0, by omega, by omega⟩
  · exact ⟨1, by omega, by omega⟩
  · exact ⟨2, by omega, by omega⟩
  · exact ⟨3, by omega, by omega⟩
theorem cnt_gives {w w' : World} {g : Nat} {f : Nat → Int} {xs : List Int} (h : CntAt w' g 4 f) (hx : cnts 4 f = xs) (hb : w.heap.size ≤ g) (bel : Below w.heap.size w w') : Gives w xs (.returned (.slice (some ⟨g, 0, none⟩) 4 4)) w' := by
  subst hx
  exact gives_of (n := 4) h (cnts_len _ _).symm rfl hb bel
set_option maxRecDepth 100000 in
set_option maxHeartbeats 4000000 in
theorem sKindCounts_any (h : NH) (N : Nt) (w : World) (r : RdN w w.heap.size h N) (hn : N.w.length ≤ 1048576) (hl : N.l.length ≤ 1048576) (hc : N.c.length ≤ 1048576) :
    Calls Tryd.prog 18 #[.agg #[.slice h.A N.w.length h.c, .slice h.L N.l.length h.d, .slice h.C N.c.length h.e]] w (Gives w (kcN N)) := by
  obtain ⟨i0, hi0, hz0, hz1, hz2⟩ := info_parts info_i64
  have HI := Lib.hid hi0; have HZ0 := Lib.hid hz0; have HZ1 := Lib.hid hz1; have HZ2 := Lib.hid hz2
  have HBY : Hid (i0.bytes * 4 ≤ 281474976710656) := Lib.hid (by rw [hz2]; omega)
  have hml : (4 : Nat) ≤ maxLen := by unfold maxLen; omega
  obtain ⟨w0, hw0⟩ : ∃ w0, w0 = w.alloc (.cells #[.slice h.A N.w.length h.c, .slice h.L N.l.length h.d, .slice h.C N.c.length h.e] 30) := ⟨_, rfl⟩
  obtain ⟨hb, hh, hsz⟩ := box3_any w (.slice h.A N.w.length h.c) (.slice h.L N.l.length h.d) (.slice h.C N.c.length h.e) 30
  rw [← hw0] at hb hh hsz
  have hs0 : w.heap.size + 1 ≤ w0.heap.size := by omega
  have HK : Hid (∀ w', Below w0.heap.size w0 w' → w'.cell? ⟨w.heap.size, 0, none⟩ = some (.slice h.A N.w.length h.c) ∧ w'.cell? ⟨w.heap.size, 1, none⟩ = some (.slice h.L N.l.length h.d) ∧ w'.cell? ⟨w.heap.size, 2, none⟩ = some (.slice h.C N.c.length h.e)) := Lib.hid fun w' hw => three_cells ((hw.block _ (by omega)).trans hh)
  have HV := Lib.hid (sValidNet_any h N w0 ((r.below hb).more hb.size) hn hl hc)
  have HR := Lib.hid (fun (w' : World) (hw : Below w0.heap.size w0 w') => ((r.below (hb.trans (hw.mono hb.size))).more (Nat.le_trans hb.size hw.size)))
  have HB0 := Lib.hid hb
  obtain ⟨y0, y1, y2⟩ := three_cells hh
  clear hb hh hsz r hi0 hz0 hz1 hz2
  cases hv : valN N with
  | false =>
    have HE := Lib.hid (kcN_no hv)
    rw [hv] at HV
    clear hv
    go_enter Tryd.func18, Tryd.ntmps18
    go_wp2_with (fail)
    rw [← hw0]
    clear hw0
    refine HV.out.mono ?_
    rintro e w1 ⟨rfl, bel⟩
    have HB1 := Lib.hid (HB0.out.trans (bel.mono HB0.out.size))
    clear bel
    go_wp2
    go_ret
    exact HE.out.symm ▸ (⟨none, 0, rfl, World.ownsRow_nil _ _ _ _, HB1.out⟩ : Gives w [] (.returned (.slice none 0 0)) _)
  | true =>
    have HE := Lib.hid (kcN_yes hv)
    have HVT := Lib.hid hv
    rw [hv] at HV
    have hl48 := (valN_size hv).2
    clear hv
    go_enter Tryd.func18, Tryd.ntmps18
    go_wp2_with (fail)
    rw [← hw0]
    clear hw0
    refine HV.out.mono ?_
    rintro e w1 ⟨rfl, bel⟩
    have HB1 := Lib.hid bel
    clear bel y0 y1 y2
    obtain ⟨y0, y1, y2⟩ := HK.out _ HB1.out
    go_wp2_with (at_make; refine wpList_make_full _ rfl _ _ _ rfl w1.heap.size 2 i0 (.int .i64 0) 1 Tryd.underlying24 HI.out HZ0.out HZ1.out _ _ _ _ 4 rfl rfl rfl rfl HBY.out hml (Nat.le_refl _) ?_; intro w2 hown hg; have hbel : Below w1.heap.size w1 w2 := (Below.refl _ _).grown hg (Nat.le_refl _) (by intro k hk; cases hk); have HO1 := Lib.hid (cnt_new hown); have HB2 := Lib.hid (HB1.out.trans (hbel.mono HB1.out.size)); clear y0 y1 y2 hown hg hbel; obtain ⟨y0, y1, y2⟩ := HK.out _ HB2.out)
    have hg0 := HB1.out.size
    generalize w1.heap.size = g at *
    go_loopw [4] (fun i wx => ∃ k : Nat, k ≤ N.l.length ∧ i = .int .i64 k ∧ CntAt wx g 4 (fun x => kcF (N.l.take k) x) ∧ Below w0.heap.size w0 wx) (fun i _ => N.l.length - (intOf i).toNat)
    case atStart => exact ⟨0, Nat.zero_le _, rfl, HO1.out, HB2.out⟩
    case round =>
      obtain ⟨k, hk, rfl, hO, hB⟩ := hrel
      clear HO1 HB2 y0 y1 y2
      obtain ⟨y0, y1, y2⟩ := HK.out _ hB
      by_cases hlt : k < N.l.length
      · obtain ⟨b, off, hA, hbb, hcells⟩ := (HR.out _ hB).2.1.at (by omega)
        obtain ⟨x0, _, _, _⟩ := hcells k hlt
        obtain ⟨j, hj, ej⟩ := kind_at HVT.out hlt
        have hst := fun x => kcF_step hlt x
        rw [ej] at x0
        simp only [ej] at hst
        have hle := kcF_le (N.l.take k) j
        rw [List.length_take] at hle
        have hu := hO.cell hj
        have hf := hO.frozen j
        have hp := hO.bump hj
        obtain ⟨q, hq⟩ : ∃ q, kcF (N.l.take k) j = q := ⟨_, rfl⟩
        (try dsimp only at hu); (try dsimp only at hp)
        rw [hq] at hu hp
        have hq0 : 0 ≤ q ∧ q ≤ 1000 := by omega
        have HP : Hid (CntAt (wr.setCell ⟨g, j, none⟩ (.int .i64 (q + 1))) g 4 (fun x => kcF (N.l.take (k + 1)) x)) := Lib.hid (hp.ext fun x _ => by rw [hst x, show ((j : Int) + 1 - 1).toNat = j by omega])
        have HB := Lib.hid (hB.setCell (p := ⟨g, j, none⟩) hg0 (.int .i64 (q + 1)))
        have HA := Lib.hid hA
        rw [hA] at y1
        have hj4 : (j : Int) < 4 := by omega
        clear hst hle hp hq hO hB hcells hA ej HB1
        go_wp2
        go_roundw
        case rel => exact ⟨k + 1, by omega, by go_num, HP.out, HB.out⟩
        case measure => simp [intOf]; omega
      · have hkl : k = N.l.length := by omega
        subst hkl
        rw [List.take_length] at hO
        have HG := Lib.hid (cnt_gives hO HE.out.symm (Nat.le_trans HB0.out.size hg0) (HB0.out.trans (hB.mono HB0.out.size)))
        clear hO hB
        go_wp2
        go_ret
        exact HG.out
end Go.Proofs.YtdcommmefehlgaaDoor
