/- The parsing of a net: readyLinks, parsedBy, IsFiringSequence, ReadyLinks, PartsAfter. -/
import Derived.Test.YtgpocnapkflihaaDoorPaC
import Derived.Test.YtgpocnapkflihaaDoorPaD
import Derived.Deep.RegionHeldLaw
import Derived.Deep.DeepCutAuto
import Derived.BigQuiet
namespace Go.Proofs.YtgpocnapkflihaaDoor
set_option linter.unusedSimpArgs false
set_option linter.unusedVariables false
open Go.ChangeAt Go.ChangeShapes Go.RowKit Go.WideShapes

/-- The ready links among the first k. -/
def alU (N : Nt) (fs : List Int) (k : Nat) : List Int := ((List.range k).map fun k : Nat => (k : Int)).filter fun k => okF N fs k
theorem alU_all (N : Nt) (fs : List Int) : alU N fs N.l.length = allQ N fs := rfl
theorem alU_len (N : Nt) (fs : List Int) (k : Nat) : (alU N fs k).length ≤ k := by
  unfold alU
  exact Nat.le_trans (List.length_filter_le _ _) (by simp)
theorem alU_yes {N : Nt} {fs : List Int} {k : Nat} (h : okF N fs (k : Int) = true) : alU N fs (k + 1) = alU N fs k ++ [(k : Int)] := by
  unfold alU
  rw [List.range_succ, List.map_append, List.filter_append]
  simp [h]
theorem alU_no {N : Nt} {fs : List Int} {k : Nat} (h : okF N fs (k : Int) = false) : alU N fs (k + 1) = alU N fs k := by
  unfold alU
  rw [List.range_succ, List.map_append, List.filter_append]
  simp [h]
set_option maxRecDepth 100000 in
set_option maxHeartbeats 1000000 in
theorem readyLinks_any (h : NH) (N : Nt) (g : Nat) (fs : List Int) (r : PzH) (w : World) (hv : valN N = true) (s : PzS w g h N fs r) :
    Calls Tryd.prog 61 #[.pointer (some ⟨g, 0, none⟩)] w (Gives w (allQ N fs)) := by
  have h48l := (valN_size hv).2
  obtain ⟨i0, hi0, hz0, hz1, hz2⟩ := info_parts info_i64
  have HI := Lib.hid hi0; have HZ0 := Lib.hid hz0; have HZ1 := Lib.hid hz1; have HZ2 := Lib.hid hz2
  have HR := Lib.hid (fun (k : Nat) (hk : k < N.l.length) (wx : World) (hx : Below w.heap.size w wx) => isReady_any h N g fs r k wx hv (s.below hx) hk)
  have m0 := s.box.three.1
  clear hi0 hz0 hz1 hz2 s hv
  go_enter Tryd.func61, Tryd.ntmps61
  go_wp2
  clear m0
  go_loopw [3, 11] (fun v i wr => ∃ k : Nat, k ≤ N.l.length ∧ i = .int .i64 k ∧ wr.ownsRow w.heap.size 2 1 v (alU N fs k).length ((alU N fs k).map (Value.int .i64)) ∧ Below w.heap.size w wr) (fun _ i _ => N.l.length - (intOf i).toNat)
  case atStart => exact ⟨0, Nat.zero_le _, rfl, World.ownsRow_nil _ _ _ _, Below.refl _ _⟩
  case round =>
    obtain ⟨k, hk, rfl, hO, hB⟩ := hrel
    by_cases hlt : k < N.l.length
    · have HRK := Lib.hid (HR.out k hlt _ hB)
      have hln := alU_len N fs k
      have HYE := Lib.hid (fun e => alU_yes (N := N) (fs := fs) (k := k) e)
      have HNO := Lib.hid (fun e => alU_no (N := N) (fs := fs) (k := k) e)
      have HO := Lib.hid hO; have HB := Lib.hid hB
      clear hO hB
      generalize okF N fs (k : Int) = b at *
      cases b with
      | false =>
        have HS := Lib.hid (HNO.out rfl)
        go_wp2_with (fail)
        refine HRK.out.mono ?_
        rintro e w1 ⟨rfl, bel1⟩
        have HB1 := Lib.hid (HB.out.trans (bel1.mono HB.out.size))
        have ho1 := own_below HO.out bel1 (Nat.le_refl _)
        rw [← HS.out] at ho1
        have HO1 := Lib.hid ho1
        clear ho1
        clear bel1 HO HB HYE HNO HRK
        go_wp2
        go_roundw
        case rel => exact ⟨k + 1, by omega, by go_num, HO1.out, HB1.out⟩
        case measure => simp [intOf]; omega
      | true =>
        have HS := Lib.hid (HYE.out rfl)
        have HLN : Hid ((alU N fs (k + 1)).length = (alU N fs k).length + 1) := Lib.hid (by rw [HS.out]; simp)
        go_wp2_with (fail)
        refine HRK.out.mono ?_
        rintro e w1 ⟨rfl, bel1⟩
        have HB1 := Lib.hid (HB.out.trans (bel1.mono HB.out.size))
        have HO1 := Lib.hid (own_below HO.out bel1 (Nat.le_refl _))
        have hsz1 := HB1.out.size
        clear bel1 HO HB HYE HNO HRK
        go_wp2_with (at_builtin; refine wpList_append_own _ rfl _ _ 24 rfl w.heap.size 2 i0 (.int .i64 0) 1 8 Tryd.underlying24 HI.out HZ0.out HZ1.out HZ2.out rfl (by decide) _ _ _ rfl (HO1.out.alloc _) ⟨w1.heap.size, 0, none⟩ 1 1 [.int .i64 k] rfl rfl ?c1 ?c2 ?c3 ?c4 ?c5 ?_)
        case c1 => exact cell_one_new _ _ _
        case c2 => intro u hu; simp at hu; subst hu; rfl
        case c3 => unfold maxLen; omega
        case c4 => omega
        case c5 => simp; omega
        intro v' w2 hown' hgrow _
        have hb2 := Lib.hid ((HB1.out.alloc hsz1 (.cells #[.int .i64 k] 2)).grown hgrow (by simp; omega) (fun q hq => (HO1.out.lt q hq).1))
        have hown2 : w2.ownsRow w.heap.size 2 1 v' (alU N fs (k + 1)).length ((alU N fs (k + 1)).map (Value.int .i64)) := by
          rw [HLN.out, HS.out, List.map_append]; exact hown'
        have hown1 := Lib.hid hown2
        clear hown' hgrow hown2 hsz1
        go_wp2
        go_roundw
        case rel => exact ⟨k + 1, by omega, by go_num, hown1.out, hb2.out⟩
        case measure => simp [intOf]; omega
    · have hkn : k = N.l.length := by omega
      subst hkn
      rw [alU_all] at hO
      obtain ⟨A5, c5, rfl⟩ := own_shapeP hO
      have HG : Hid (Gives w (allQ N fs) (.returned (.slice A5 (allQ N fs).length c5)) wr) := Lib.hid ⟨A5, c5, rfl, hO, hB⟩
      clear hO hB HI HZ0 HZ1 HZ2
      generalize (allQ N fs).length = q at *
      go_wp2
      go_ret
      exact HG.out
/-- What parsedBy leaves. -/
def GivesPB (w : World) (h : NH) (N : Nt) (fs : List Int) (e : Ending) (w' : World) : Prop :=
  Below w.heap.size w w' ∧ ((valN N && isF N fs) = true ∧ (∃ g r', e = .returned (.tuple #[.pointer (some ⟨g, 0, none⟩), .bool true]) ∧ w.heap.size ≤ g ∧ PzS w' g h N fs r') ∨ (valN N && isF N fs) = false ∧ e = .returned (.tuple #[.pointer none, .bool false]))
end Go.Proofs.YtgpocnapkflihaaDoor
