/- What more is wanted behind the base. -/
import Derived.Test.YtdcommmefehlgaaDoorAny
import Derived.Test.YtdcommmefehlgaaDoorDice
import Derived.Test.YtdcommmefehlgaaDoorDrawV
import Derived.Test.YtdcommmefehlgaaDoorNetT
import Derived.Test.YtdcommmefehlgaaDoorNetX
import Derived.Test.YtdcommmefehlgaaDoorNetY
import Derived.Test.YtdcommmefehlgaaDoorPgD
import Derived.Test.YtdcommmefehlgaaDoorPgE
import Derived.Test.YtdcommmefehlgaaDoorPgF
import Derived.Test.YtdcommmefehlgaaDoorPgM
import Derived.Test.YtdcommmefehlgaaDoorPgO
import Derived.Test.YtdcommmefehlgaaDoorPgS
import Derived.Test.YtdcommmefehlgaaDoorQBytes
import Derived.Test.YtdcommmefehlgaaDoorQDual
import Derived.Test.YtdcommmefehlgaaDoorQMath
import Derived.Test.YtdcommmefehlgaaDoorQNetA
import Derived.Test.YtdcommmefehlgaaDoorQNetK
import Derived.Test.YtdcommmefehlgaaDoorQNetO
import Derived.Test.YtdcommmefehlgaaDoorQNetW
import Derived.Test.YtdcommmefehlgaaDoorQPgC
import Derived.Test.YtdcommmefehlgaaDoorQPgG
import Derived.Test.YtdcommmefehlgaaDoorQPgI
import Derived.Test.YtdcommmefehlgaaDoorQPgK
import Derived.Test.YtdcommmefehlgaaDoorQPgL
import Derived.Test.YtdcommmefehlgaaDoorQPgT
import Derived.Test.YtdcommmefehlgaaDoorQSeqV
import Derived.Test.YtdcommmefehlgaaDoorQSubA
import Derived.Test.YtdcommmefehlgaaDoorQValid
import Derived.Test.YtdcommmefehlgaaDoorRowH
import Derived.WalkKit
import Derived.Lib.Hide
import Derived.WalkSpells
import Derived.WalkLawsBesides
import Derived.BigQuiet
import Derived.Deep.QuietTactic
import Derived.Deep.AppendLies
import Derived.Deep.Draws
import Derived.Laws.OwnMore
import Derived.Lib.LaidTab
import Derived.WalkSmall
import Derived.ProofKit
import Derived.OpenShut
import Derived.ChangeOld
import Derived.ChangeVars
import Derived.Deep.DeepHandedRow
import Derived.Stop.LaidErr
import Derived.Deep.Onto
import Derived.Deep.LoopGhost
import Derived.WalkMore
import Derived.Lib.AppendZerosOnto
import Derived.Lib.SliceRun
import Derived.Lib.Walk
import Derived.Deep.Matrix
import Derived.Deep.DeepCutAuto
import Derived.StillTailTactics
import Derived.Deep.RegionLaw
import Derived.Deep.RegionWith
import Derived.Deep.Slices
import Derived.Deep.RegionHeld3
import Derived.Maps.AppendAt
import Derived.BigRegion
import Derived.Laws.ResultCell
import Derived.Deep.RegionHeldLaw
import Derived.Laws.Tables
import Derived.Laws.CopyOwn
import Derived.Deep.Cut
import Derived.Laws.AppendOwnNone
import Derived.ChangeKeysEq
import Derived.Laws.StructEq
import Derived.Lib.OwnBridge
namespace Go.Proofs.YtdcommmefehlgaaDoor
set_option linter.unusedSimpArgs false
set_option linter.unusedVariables false
section
open Go.ChangeShapes Go.WideShapes Go.ChangeAt Go.RowKit

theorem laidOut : laidOutB Tryd.prog = true := by kernel_rfl

/-- A slice of 64-bit integers that came in reads as a list. -/
theorem open_i64s {H : Type} {enc : TypeId × Value → H} {W : World} {a : Option Addr} {len cap : Nat} {d : DataW H} {p : List MemPlace}
    (h : DataW.Trod enc Tryd.prog W 0 (fun _ => true) true 24 (.slice a len cap) d p) : ∃ zs, RdI W W.heap.size a len zs ∧ len ≤ cap ∧ ∀ z ∈ zs, (Lit.int .i64 z).wf = true := by
  obtain ⟨fuel, hf⟩ := h
  rcases open_ints Tryd.underlying24 Tryd.underlying2 (by kernel_rfl) hf with ⟨hcs, _⟩ | ⟨x, l, c, zs, hcs, _, hl, hm, hz, _, hcell, hwz⟩
  · simp [Value.cells] at hcs
    obtain ⟨rfl, rfl, rfl⟩ := hcs
    exact ⟨[], RdI.nil _ _ _, Nat.le_refl _, by simp⟩
  · simp [Value.cells] at hcs
    obtain ⟨rfl, rfl, rfl⟩ := hcs
    have hz' : zs.length = cap := by simpa using hz
    refine ⟨zs.take len, ⟨by simp; omega, fun hn => ?_⟩, hl, fun z hz => hwz z (List.mem_of_mem_take hz)⟩
    obtain ⟨b, off, spot⟩ := x
    have hc := hcell 0 (by omega)
    have hspot : spot = none := by simpa [Addr.add] using World.cell?_spot hc
    subst hspot
    refine ⟨b, off, rfl, ?_, fun j hj => ?_⟩
    · have := World.block_lt_of_cell? W _ hc
      simpa [Addr.add] using this
    · have h1 := hcell j (by omega)
      have e : (zs.take len).getD j 0 = zs.getD j 0 := by
        have h1 : j < zs.length := by omega
        simp [List.getD, hj]
      rw [e]
      by_cases h0 : j = 0
      · subst h0; simpa [Addr.add] using h1
      · simpa [Addr.add, h0] using h1

/-- Package variables read behind a call that turned nothing old as they read before. -/
theorem vars_below {H : Type} {enc : TypeId × Value → H} {W W' : World} (hb : Below W.heap.size W W') : ∀ {ns : List String} {gs : List (DataW H)} {q : List MemPlace},
    (∀ n ∈ ns, ∀ g t, Tryd.prog.globalNamed n = some g → (Tryd.prog.globals[g]?).map (·.type) = some t → Tryd.prog.readableRec t = true ∧ t < Tryd.prog.types.size) →
    DataW.TrodVars enc Tryd.prog W (fun _ => true) ns gs q → DataW.TrodVars enc Tryd.prog W' (fun b => decide (b < W.heap.size)) ns gs q
  | [], [], _, _, h => h
  | n :: ns, d :: ds, ps, hr, h => by
    have hlt := DataW.TrodVars.lt h
    obtain ⟨g, t, cs, fuel, p, q, h1, h2, h3, h4, h5, rfl⟩ := h
    obtain ⟨hr1, hr2⟩ := hr n (by simp) g t h1 h2
    have hg : g < W.heap.size := by
      unfold World.var? at h3
      simp only [h1, Option.bind_some] at h3
      rcases Nat.lt_or_ge g W.heap.size with hlt | hge
      · exact hlt
      · rw [Array.getElem?_eq_none hge] at h3; cases h3
    obtain ⟨fuel', h4'⟩ := Below.trod (v := .agg cs) laidOut hr1 hr2 ⟨fuel, h4⟩ hb (fun x hx => hlt x (by simp [hx]))
    exact ⟨g, t, cs, fuel', p, q, h1, h2, var?_below hb h1 hg h3, h4', vars_below hb (fun m hm => hr m (by simp [hm])) h5, rfl⟩

theorem readable_all (ns : List String) (hns : ns.all (fun n => match Tryd.prog.globalNamed n with | none => true | some g => match (Tryd.prog.globals[g]?).map (·.type) with | none => true | some t => Tryd.prog.readableRec t && decide (t < Tryd.prog.types.size)) = true) :
    ∀ n ∈ ns, ∀ g t, Tryd.prog.globalNamed n = some g → (Tryd.prog.globals[g]?).map (·.type) = some t → Tryd.prog.readableRec t = true ∧ t < Tryd.prog.types.size := by
  intro n hn g t hg ht
  have := List.all_eq_true.1 hns n hn
  simp only [hg, ht, Bool.and_eq_true, decide_eq_true_eq] at this
  exact this

theorem gArit : Tryd.prog.globalNamed "loop.example/g00872/impl.arities" = some 1 := by kernel_rfl
theorem gAritType : (Tryd.prog.globals[1]?).map (·.type) = some 114 := by kernel_rfl
theorem gDual : Tryd.prog.globalNamed "loop.example/g00872/impl.dualOperators" = some 0 := by kernel_rfl
theorem gDualType : (Tryd.prog.globals[0]?).map (·.type) = some 114 := by kernel_rfl
theorem cellsTab : Tryd.prog.cellsOf 114 = 19 := by kernel_rfl
theorem cellsI64 : Tryd.prog.cellsOf 2 = 1 := by kernel_rfl

/-- What a row's list gives: the table of the numbers of operands. -/
theorem arit_of {W : World} {rest : List (String × DataW Unit)} (h : laidMet Tryd.prog (("loop.example/g00872/impl.arities", Lib.tabData .i64 arTab) :: rest) W) : Arit W := by
  have ht : Lib.TabIs Tryd.prog W "loop.example/g00872/impl.arities" .i64 arTab := Lib.tabIs_of_head gArit gAritType Tryd.underlying114 Tryd.underlying2 cellsI64 cellsTab h
  exact fun i hi => ht.cell gArit i (by simpa [arTab] using hi)

theorem dual_of {W : World} {x : String × DataW Unit} {rest : List (String × DataW Unit)} (h : laidMet Tryd.prog (x :: ("loop.example/g00872/impl.dualOperators", Lib.tabData .i64 duTab) :: rest) W) : Dual W := by
  have ht : Lib.TabIs Tryd.prog W "loop.example/g00872/impl.dualOperators" .i64 duTab := Lib.tabIs_of_head gDual gDualType Tryd.underlying114 Tryd.underlying2 cellsI64 cellsTab (laidMet.tail h)
  exact fun i hi => ht.cell gDual i (by simpa [duTab] using hi)

/-- A world for the witness: the settled one, its tables as the program's text lays them. -/
def layTab (zs : List Int) : Obj → Obj
  | .cells _ t frozen => .cells (zs.map (Value.int .i64)).toArray t frozen
  | o => o
noncomputable def laidWorld (os : Os) : World :=
  { World.holding Tryd.prog os ⟨#[], #[], []⟩ with heap := ((World.holding Tryd.prog os ⟨#[], #[], []⟩).heap.modify 1 (layTab arTab)).modify 0 (layTab duTab) }
end
section
open Go.ChangeAt Go.ChangeShapes Go.RowKit Go.WideShapes


theorem Kept.to_below {lo hi B : Nat} {a w w' : World} (h : Kept lo hi w w') (hb : Below B a w) (hB : B ≤ lo) (hs : B ≤ w.heap.size) : Below B a w' :=
  hb.trans ⟨h.os, h.tape, h.output, h.size, fun k hk => h.block k (by omega) (.inl (by omega))⟩

section
variable {w w' : World} {lo hi lo' hi' : Nat} {v : Value} {hs : Nat → Option Addr × Nat} {qs : List (List Int)}
end
end
section
open Go.ChangeAt Go.ChangeShapes Go.RowKit Go.WideShapes

theorem mkL_len : ∀ (k : Int) (n : Nat), (mkL k n).length = n
  | _, 0 => rfl
  | k, n + 1 => by simp [mkL, mkL_len]
end
section
open Go.ChangeAt Go.ChangeShapes Go.RowKit Go.WideShapes

set_option maxHeartbeats 1000000 in
theorem markSS_s (A : Option Addr) (n c : Nat) (hs : Nat → Option Addr × Nat) (qs : List (List Int)) (k : Int) (w : World) (lo hi : Nat) (h : OwnQ w lo hi (.slice A n c) hs qs) (hn : qs.length = n) (hn1 : n ≤ 1048576) (ht : total qs ≤ 1048576) (hk0 : 0 ≤ k) (hk1 : k ≤ 536870912) (S : Nat → Prop) (hS : ∀ i b, i < qs.length → (hv hs qs i).ownBlock = some b → S b) :
    Calls Tryd.prog 49 #[.slice A n c, .int .i64 k] w fun e w' => e = .returned (.int .i64 (k + total qs)) ∧ OwnQ w' lo hi (.slice A n c) hs (mrkQ k qs) ∧ KeptS S w w' := by
  subst hn
  go_enter Tryd.func49, Tryd.ntmps49
  go_wp2
  go_loopw [1, 5] (fun v i wr => ∃ j : Nat, j ≤ qs.length ∧ i = .int .i64 j ∧ v = .int .i64 (k + total (qs.take j)) ∧ OwnQ wr lo hi (.slice A qs.length c) hs (mrq qs k j) ∧ KeptS S w wr) (fun _ i _ => qs.length - (intOf i).toNat)
  case atStart => exact ⟨0, Nat.zero_le _, rfl, by simp [total], by rw [mrq_zero]; exact h, KeptS.refl _ _⟩
  case round =>
    obtain ⟨j, hj, rfl, rfl, hown, hkp⟩ := hrel
    clear h
    by_cases hlt : j < qs.length
    · have hml := mrq_len qs k hj
      have hstep := mrq_step qs k hlt
      have hget := mrq_get qs k hlt
      have htt := total_take hlt
      have htl := total_le hlt
      obtain ⟨g, cap, hv', hlo, hgl⟩ := hown.outer.form (by omega)
      have hA : A = some ⟨g, 0, none⟩ ∧ c = cap := by rw [hml] at hv'; injection hv' with a b c'; exact ⟨a, c'⟩
      obtain ⟨rfl, rfl⟩ := hA
      obtain ⟨_, hcell⟩ := hown.at hml hlt
      have hin := hown.inner j (by rw [hml]; exact hlt)
      rw [hget] at hin
      have hvv : hv hs (mrq qs k j) j = .slice (hs j).1 (qs.getD j []).length (hs j).2 := by unfold hv; rw [hget]
      have hvq : hv hs qs j = .slice (hs j).1 (qs.getD j []).length (hs j).2 := rfl
      have hput := fun (w' : World) (a : _) (b : _) => hown.put (w' := w') (q := markL (k + total (qs.take j)) (qs.getD j []).length) (by rw [hml]; exact hlt) (by rw [hget, markL_len]) a b
      rw [hstep] at hput
      have hgr : ∀ b, (hv hs (mrq qs k j) j).ownBlock = some b → S b := fun b e => hS j b hlt (by rw [hvq]; rw [hvv] at e; exact e)
      rw [hvv] at hin hcell hput hgr
      rw [markL_len] at hput
      have HM := Lib.hid (mark_any (hs j).1 (qs.getD j []).length (hs j).2 (qs.getD j []) (k + total (qs.take j)) wr lo hin (by omega) (by omega) (by omega))
      have HP := Lib.hid hput; have HG := Lib.hid hgr; have HK := Lib.hid hkp
      have HT : Hid (k + (total (qs.take (j + 1)) : Nat) = k + total (qs.take j) + (qs.getD j []).length) := Lib.hid (by rw [htt]; omega)
      clear hin hput hgr hkp hown hstep hget hvv htt hml hv' hvq
      generalize (qs.getD j []).length = M at *
      generalize total (qs.take j) = T at *
      go_wp2_with (fail)
      refine HM.out.mono ?_
      rintro e w2 ⟨rfl, own2, gr2⟩
      have HO2 := Lib.hid (HP.out w2 own2 gr2)
      have HK2 := Lib.hid (HK.out.trans (KeptS.of_grown gr2 HG.out))
      clear own2 gr2
      go_wp2
      go_roundw
      case rel => exact ⟨j + 1, by omega, by go_num, by rw [HT.out], HO2.out, HK2.out⟩
      case measure => simp [intOf]; omega
    · have hkl : j = qs.length := by omega
      subst hkl
      rw [mrq_all] at hown
      rw [total_all qs (Nat.le_refl _)]
      have HS := Lib.hid hown; have HK := Lib.hid hkp
      clear hown hkp
      go_wp2
      go_ret
      exact ⟨rfl, HS.out, HK.out⟩
end
section
open Go.ChangeAt Go.ChangeShapes Go.RowKit Go.WideShapes

theorem szL_any (A : Option Addr) (n c : Nat) (left : Int) (w : World) (hn : n ≤ maxLen) (h0 : 0 ≤ left) (h1 : left ≤ 1073741824) :
    Calls Tryd.prog 37 #[.slice A n c, .int .i64 left] w fun e w' => e = .returned (.int .i64 (szR left n)) ∧ w = w' := by
  unfold maxLen at hn
  by_cases hc : left - n < 0
  · have HE : Hid ((-1 : Int) = szR left n) := Lib.hid (szR_neg (by omega)).symm
    have hd : decide (left - (n : Int) < 0) = true := decide_eq_true hc
    go_enter Tryd.func37, Tryd.ntmps37
    go_wp2
    go_ret
    exact ⟨ret_i64 HE.out, rfl⟩
  · have HE : Hid (left - (n : Int) = szR left n) := Lib.hid (szR_pos (by omega)).symm
    have hd : decide (left - (n : Int) < 0) = false := decide_eq_false hc
    go_enter Tryd.func37, Tryd.ntmps37
    go_wp2
    go_ret
    exact ⟨ret_i64 HE.out, rfl⟩
theorem szI_any (A : Option Addr) (n c : Nat) (left : Int) (w : World) (hn : n ≤ maxLen) (h0 : 0 ≤ left) (h1 : left ≤ 1073741824) :
    Calls Tryd.prog 38 #[.slice A n c, .int .i64 left] w fun e w' => e = .returned (.int .i64 (szR left n)) ∧ w = w' := by
  unfold maxLen at hn
  by_cases hc : left - n < 0
  · have HE : Hid ((-1 : Int) = szR left n) := Lib.hid (szR_neg (by omega)).symm
    have hd : decide (left - (n : Int) < 0) = true := decide_eq_true hc
    go_enter Tryd.func38, Tryd.ntmps38
    go_wp2
    go_ret
    exact ⟨ret_i64 HE.out, rfl⟩
  · have HE : Hid (left - (n : Int) = szR left n) := Lib.hid (szR_pos (by omega)).symm
    have hd : decide (left - (n : Int) < 0) = false := decide_eq_false hc
    go_enter Tryd.func38, Tryd.ntmps38
    go_wp2
    go_ret
    exact ⟨ret_i64 HE.out, rfl⟩
/-- The size of a net. -/
def nsz (N : Nt) : Nat := N.w.length + total N.w + N.l.length + N.c.length
set_option maxHeartbeats 1000000 in
theorem szN_any (h : NH) (N : Nt) (left : Int) (w : World) (r : RdN w w.heap.size h N) (hq : ∀ q ∈ N.w, q.length ≤ maxLen) (hn : N.w.length ≤ maxLen) (hl : N.l.length ≤ maxLen) (hc : N.c.length ≤ maxLen) (h0 : 0 ≤ left) (h1 : left ≤ 1073741824) :
    Calls Tryd.prog 9 #[.agg #[.slice h.A N.w.length h.c, .slice h.L N.l.length h.d, .slice h.C N.c.length h.e], .int .i64 left] w fun e w' => e = .returned (.int .i64 (szR left (nsz N))) ∧ Below w.heap.size w w' := by
  obtain ⟨A, c, hs, L, d, C, e0⟩ := h
  obtain ⟨ws, ls, cs⟩ := N
  obtain ⟨w0, hw0⟩ : ∃ w0, w0 = w.alloc (.cells #[.slice A ws.length c, .slice L ls.length d, .slice C cs.length e0] 26) := ⟨_, rfl⟩
  obtain ⟨hb, hh, hsz⟩ := box3_any w (.slice A ws.length c) (.slice L ls.length d) (.slice C cs.length e0) 26
  rw [← hw0] at hb hh hsz
  obtain ⟨y0, y1, y2⟩ := three_cells hh
  have HS := Lib.hid (szSS_any A ws.length c ws left w0 _ (r.1.below hb) hq hn h0 h1)
  have HB := Lib.hid hb
  have hez : nsz ⟨ws, ls, cs⟩ = ws.length + total ws + ls.length + cs.length := rfl
  have HEZ := Lib.hid hez
  clear r hb hh hq hsz hez
  dsimp only at hn hl hc ⊢
  rw [HEZ.out]
  generalize total ws = T at *
  by_cases c1 : left - (ws.length + T : Nat) < 0
  · rw [szR_neg c1] at HS
    have HE : Hid ((-1 : Int) = szR left (ws.length + T + ls.length + cs.length)) := Lib.hid (szR_neg (by omega)).symm
    clear c1
    go_enter Tryd.func9, Tryd.ntmps9
    go_wp2_with (fail)
    rw [← hw0]
    clear hw0
    refine HS.out.mono ?_
    rintro e w' ⟨rfl, rfl⟩
    go_wp2
    go_ret
    exact ⟨ret_i64 HE.out, HB.out⟩
  · rw [szR_pos c1] at HS
    obtain ⟨M, hM⟩ : ∃ M : Int, left - (ws.length + T : Nat) = M := ⟨_, rfl⟩
    rw [hM] at HS
    have HSL := Lib.hid (szL_any L ls.length d M w0 hl (by omega) (by omega))
    have hd1 : decide (M < 0) = false := decide_eq_false (by omega)
    by_cases c2 : M - ls.length < 0
    · rw [szR_neg c2] at HSL
      have HE : Hid ((-1 : Int) = szR left (ws.length + T + ls.length + cs.length)) := Lib.hid (szR_neg (by omega)).symm
      clear c1 c2 hM
      go_enter Tryd.func9, Tryd.ntmps9
      go_wp2_with (fail)
      rw [← hw0]
      clear hw0
      refine HS.out.mono ?_
      rintro e w' ⟨rfl, rfl⟩
      go_wp2_with (fail)
      refine HSL.out.mono ?_
      rintro e w' ⟨rfl, rfl⟩
      go_wp2
      go_ret
      exact ⟨ret_i64 HE.out, HB.out⟩
    · rw [szR_pos c2] at HSL
      obtain ⟨M2, hM2⟩ : ∃ M2 : Int, M - ls.length = M2 := ⟨_, rfl⟩
      rw [hM2] at HSL
      have HSI := Lib.hid (szI_any C cs.length e0 M2 w0 hc (by omega) (by omega))
      have hd2 : decide (M2 < 0) = false := decide_eq_false (by omega)
      have HE : Hid (szR M2 cs.length = szR left (ws.length + T + ls.length + cs.length)) := Lib.hid (by
        unfold szR
        rw [show left - ((ws.length + T + ls.length + cs.length : Nat) : Int) = M2 - (cs.length : Nat) by omega])
      clear c1 c2 hM hM2
      generalize szR M2 cs.length = R at *
      by_cases c3 : R < 0
      · have hd3 : decide (R < 0) = true := decide_eq_true c3
        have HR : Hid ((-1 : Int) = R) := Lib.hid (by
          have := HE.out
          unfold szR at this
          by_cases h5 : left - (ws.length + T + ls.length + cs.length : Nat) < 0
          · rw [if_pos h5] at this; exact this.symm
          · rw [if_neg h5] at this; omega)
        clear c3
        go_enter Tryd.func9, Tryd.ntmps9
        go_wp2_with (fail)
        rw [← hw0]
        clear hw0
        refine HS.out.mono ?_
        rintro e w' ⟨rfl, rfl⟩
        go_wp2_with (fail)
        refine HSL.out.mono ?_
        rintro e w' ⟨rfl, rfl⟩
        go_wp2_with (fail)
        refine HSI.out.mono ?_
        rintro e w' ⟨rfl, rfl⟩
        go_wp2
        go_ret
        exact ⟨ret_i64 (HR.out.trans HE.out), HB.out⟩
      · have hd3 : decide (R < 0) = false := decide_eq_false c3
        clear c3
        go_enter Tryd.func9, Tryd.ntmps9
        go_wp2_with (fail)
        rw [← hw0]
        clear hw0
        refine HS.out.mono ?_
        rintro e w' ⟨rfl, rfl⟩
        go_wp2_with (fail)
        refine HSL.out.mono ?_
        rintro e w' ⟨rfl, rfl⟩
        go_wp2_with (fail)
        refine HSI.out.mono ?_
        rintro e w' ⟨rfl, rfl⟩
        go_wp2
        go_ret
        exact ⟨ret_i64 HE.out, HB.out⟩
theorem toLk_any (x : Lk) (w : World) :
    Calls Tryd.prog 80 #[.agg #[.int .i64 x.k, .int .i64 x.a, .int .i64 x.b, .int .i64 x.c]] w fun e w' => e = .returned (.agg #[.int .i64 x.k, .int .i64 x.a, .int .i64 x.b, .int .i64 x.c]) ∧ Below w.heap.size w w' := by
  obtain ⟨k, a, b, c⟩ := x
  dsimp only
  go_enter Tryd.func80, Tryd.ntmps80
  go_wp2
  (try simp only [Exit.inBlock, Exit.then])
  refine bodyPost_ret (results_cell_row rfl _ _ (w.heap.size + 1) _ _ (0, 0) _ rfl (heap_two _ _ _ _) Tryd.underlying72 rfl (by kernel_rfl)) rfl ?_
  exact ⟨rfl, (((Below.refl _ _).alloc (Nat.le_refl _) _).alloc (by simp) _).alloc (by simp; omega) _⟩
theorem put4_len (xs : List Value) (o : Nat) (v0 v1 v2 v3 : Value) : (put4 xs o v0 v1 v2 v3).length = xs.length := by simp [put4]
theorem put4_at {xs : List Value} {o : Nat} (h : o + 4 ≤ xs.length) (v0 v1 v2 v3 : Value) : (put4 xs o v0 v1 v2 v3)[o]? = some v0 ∧ (put4 xs o v0 v1 v2 v3)[o + 1]? = some v1 ∧ (put4 xs o v0 v1 v2 v3)[o + 2]? = some v2 ∧ (put4 xs o v0 v1 v2 v3)[o + 3]? = some v3 := by
  unfold put4
  refine ⟨?_, ?_, ?_, ?_⟩
  · rw [List.getElem?_set_ne (by omega), List.getElem?_set_ne (by omega), List.getElem?_set_ne (by omega), List.getElem?_set_self (by omega)]
  · rw [List.getElem?_set_ne (by omega), List.getElem?_set_ne (by omega), List.getElem?_set_self (by simp; omega)]
  · rw [List.getElem?_set_ne (by omega), List.getElem?_set_self (by simp; omega)]
  · rw [List.getElem?_set_self (by simp; omega)]
theorem put4_far {xs : List Value} {o j : Nat} (h : j < o ∨ o + 4 ≤ j) (v0 v1 v2 v3 : Value) : (put4 xs o v0 v1 v2 v3)[j]? = xs[j]? := by
  unfold put4
  rw [List.getElem?_set_ne (by omega), List.getElem?_set_ne (by omega), List.getElem?_set_ne (by omega), List.getElem?_set_ne (by omega)]
theorem Upto4.step {xs : List Value} {ls : List Lk} {k : Nat} (h : Upto4 xs ls k) (hk : k < ls.length) : Upto4 (put4 xs (k * 4) (.int .i64 (ls.getD k Lk.nil).k) (.int .i64 (ls.getD k Lk.nil).a) (.int .i64 (ls.getD k Lk.nil).b) (.int .i64 (ls.getD k Lk.nil).c)) ls (k + 1) := by
  obtain ⟨hl, hc⟩ := h
  refine ⟨by rw [put4_len]; exact hl, fun j hj => ?_⟩
  obtain ⟨f0, f1, f2, f3⟩ := flL_at ls k hk
  obtain ⟨p0, p1, p2, p3⟩ := put4_at (xs := xs) (o := k * 4) (by omega) (.int .i64 (ls.getD k Lk.nil).k) (.int .i64 (ls.getD k Lk.nil).a) (.int .i64 (ls.getD k Lk.nil).b) (.int .i64 (ls.getD k Lk.nil).c)
  by_cases e : j < k * 4
  · rw [put4_far (.inl e)]; exact hc j e
  · have : j = k * 4 ∨ j = k * 4 + 1 ∨ j = k * 4 + 2 ∨ j = k * 4 + 3 := by omega
    rcases this with rfl | rfl | rfl | rfl
    · rw [p0, f0]
    · rw [p1, f1]
    · rw [p2, f2]
    · rw [p3, f3]
set_option maxHeartbeats 4000000 in
theorem toLS_any (A : Option Addr) (n c : Nat) (ls : List Lk) (w : World) (h : RdL w w.heap.size A n ls) (hn : n ≤ 1048576) :
    Calls Tryd.prog 41 #[.slice A n c] w fun e w' => e = .returned (.slice (some ⟨w.heap.size, 0, none⟩) n n) ∧ w'.ownsRow w.heap.size 72 4 (.slice (some ⟨w.heap.size, 0, none⟩) n n) n ((flL ls).map (Value.int .i64)) ∧ Below w.heap.size w w' := by
  obtain ⟨i0, hi0, hz0, hz1, hz2⟩ := info_parts_link
  have hl := h.len
  subst hl
  have b2 : i0.bytes * ls.length ≤ 281474976710656 := by rw [hz2]; omega
  have b3 : ls.length ≤ maxLen := by unfold maxLen; omega
  go_enter Tryd.func41, Tryd.ntmps41
  go_wp2_with (at_make; refine wpList_make_full _ rfl _ _ _ rfl w.heap.size 72 i0 (.agg #[.int .i64 0, .int .i64 0, .int .i64 0, .int .i64 0]) 4 Tryd.underlying28 hi0 hz0 hz1 _ _ _ _ ls.length rfl rfl rfl rfl b2 b3 (Nat.le_refl _) ?_; intro w1 hown hg)
  have hbel : Below w.heap.size w w1 := (Below.refl _ _).grown hg (Nat.le_refl _) (by intro k hk; cases hk)
  obtain ⟨xs, hxs, hxl⟩ : ∃ xs : List Value, w1.ownsRow w.heap.size 72 4 (.slice (some ⟨w.heap.size, 0, none⟩) ls.length ls.length) ls.length xs ∧ xs.length = ls.length * 4 := ⟨_, hown, hown.1⟩
  have HO := Lib.hid hxs
  have HU : Hid (Upto4 xs ls 0) := Lib.hid ⟨hxl, fun j hj => absurd hj (by omega)⟩
  have HB := Lib.hid hbel
  have HR := Lib.hid h
  clear hg hown b2 b3 hi0 hz0 hz1 hz2 hbel hxs hxl h
  go_loopw [4] (fun i wr => ∃ (k : Nat) (xs : List Value), k ≤ ls.length ∧ i = .int .i64 k ∧ Upto4 xs ls k ∧ wr.ownsRow w.heap.size 72 4 (.slice (some ⟨w.heap.size, 0, none⟩) ls.length ls.length) ls.length xs ∧ Below w.heap.size w wr) (fun i _ => ls.length - (intOf i).toNat)
  case atStart => exact ⟨0, xs, Nat.zero_le _, rfl, HU.out, HO.out, HB.out⟩
  case round =>
    obtain ⟨k, ys, hk, rfl, hU, hO, hB⟩ := hrel
    clear HU HO HB
    by_cases hlt : k < ls.length
    · obtain ⟨b, off, rfl, hbb, hcells⟩ := HR.out.at (by omega)
      obtain ⟨x0, x1, x2, x3⟩ := hcells k hlt
      have hblt := hbb
      replace x0 := (hB.cell (p := ⟨b, off + k * 4, none⟩) hbb).trans x0
      replace x1 := (hB.cell (p := ⟨b, off + k * 4 + 1, none⟩) hbb).trans x1
      replace x2 := (hB.cell (p := ⟨b, off + k * 4 + 2, none⟩) hbb).trans x2
      replace x3 := (hB.cell (p := ⟨b, off + k * 4 + 3, none⟩) hbb).trans x3
      have HT := Lib.hid (toLk_any (ls.getD k Lk.nil) wr)
      have HS := Lib.hid (hU.step hlt)
      have HO := Lib.hid hO; have HB := Lib.hid hB
      have hyl := hU.1
      clear hcells hU hO hB
      generalize (ls.getD k Lk.nil).k = sk at *; generalize (ls.getD k Lk.nil).a = sa at *; generalize (ls.getD k Lk.nil).b = sb at *; generalize (ls.getD k Lk.nil).c = sc at *
      go_wp2_with (fail)
      refine HT.out.mono ?_
      rintro e w2 ⟨rfl, bel⟩
      have o2 := own_below HO.out bel (Nat.le_refl _)
      have B2 := Lib.hid (HB.out.trans (bel.mono HB.out.size))
      obtain ⟨q1, q2⟩ := four_own (o := k * 4) o2 (.int .i64 sk) (.int .i64 sa) (.int .i64 sb) (.int .i64 sc)
      have HQ1 := Lib.hid q1
      have HQ2 := Lib.hid (B2.out.grown q2 B2.out.size (by intro r hr; injection hr with hr; omega))
      have cl := fun t (ht : t < 4) => o2.cellAt (g := w.heap.size) (k * 4 + t) (by omega)
      have fr := fun t => o2.frozenAt (g := w.heap.size) (k * 4 + t)
      obtain ⟨d0, e0⟩ : ∃ u, w2.cell? ⟨w.heap.size, k * 4, none⟩ = some u := ⟨_, (cl 0 (by omega)).trans (List.getElem?_eq_getElem (show k * 4 + 0 < ys.length by omega))⟩
      obtain ⟨d1, e1⟩ : ∃ u, w2.cell? ⟨w.heap.size, k * 4 + 1, none⟩ = some u := ⟨_, (cl 1 (by omega)).trans (List.getElem?_eq_getElem (show k * 4 + 1 < ys.length by omega))⟩
      obtain ⟨d2, e2⟩ : ∃ u, w2.cell? ⟨w.heap.size, k * 4 + 2, none⟩ = some u := ⟨_, (cl 2 (by omega)).trans (List.getElem?_eq_getElem (show k * 4 + 2 < ys.length by omega))⟩
      obtain ⟨d3, e3⟩ : ∃ u, w2.cell? ⟨w.heap.size, k * 4 + 3, none⟩ = some u := ⟨_, (cl 3 (by omega)).trans (List.getElem?_eq_getElem (show k * 4 + 3 < ys.length by omega))⟩
      have fr0 : w2.frozen? ⟨w.heap.size, k * 4, none⟩ = false := fr 0
      have fr1 := fr 1; have fr2 := fr 2; have fr3 := fr 3
      clear cl fr o2 bel q1 q2 HT x0 x1 x2 x3 HO HB hyl
      go_wp2
      go_roundw
      case rel => exact ⟨k + 1, _, by omega, by go_num, HS.out, HQ1.out, HQ2.out⟩
      case measure => simp [intOf]; omega
    · have hkl : k = ls.length := by omega
      subst hkl
      have hd := hU.done
      subst hd
      have HO := Lib.hid hO; have HB := Lib.hid hB
      clear hU hO hB
      go_wp2
      go_ret
      exact ⟨rfl, HO.out, HB.out⟩
end
section
open Go.ChangeAt Go.ChangeShapes Go.RowKit Go.WideShapes

set_option maxHeartbeats 2000000 in
theorem toN_any (h : NH) (N : Nt) (w : World) (r : RdN w w.heap.size h N) (hq : ∀ q ∈ N.w, q.length ≤ 1048576) (hn : N.w.length ≤ 1048576) (hl : N.l.length ≤ 1048576) (hc : N.c.length ≤ 1048576) :
    Calls Tryd.prog 11 #[.agg #[.slice h.A N.w.length h.c, .slice h.L N.l.length h.d, .slice h.C N.c.length h.e]] w (CopiedN w N) := by
  obtain ⟨A, c, hs0, L, d, C, e0⟩ := h
  obtain ⟨ws, ls, cs⟩ := N
  obtain ⟨r1, r2, r3⟩ := r
  dsimp only at r1 r2 r3 hq hn hl hc ⊢
  obtain ⟨w3, hw3⟩ : ∃ w3, w3 = ((w.alloc (.cells #[.slice A ws.length c, .slice L ls.length d, .slice C cs.length e0] 26)).alloc (.cells #[.slice none 0 0, .slice none 0 0, .slice none 0 0] 30)).alloc (.cells #[.slice none 0 0, .slice none 0 0, .slice none 0 0] 30) := ⟨_, rfl⟩
  obtain ⟨hb, p0, p1, p2, hsz⟩ := three_any' w (.cells #[.slice A ws.length c, .slice L ls.length d, .slice C cs.length e0] 26) (.cells #[.slice none 0 0, .slice none 0 0, .slice none 0 0] 30) (.cells #[.slice none 0 0, .slice none 0 0, .slice none 0 0] 30)
  rw [← hw3] at hb p0 p1 p2 hsz
  have HQ := Lib.hid (toSS_any A ws.length c ws w3 ((r1.below hb).more hb.size) hq hn)
  have HR2 := Lib.hid r2; have HR3 := Lib.hid r3
  have HB3 := Lib.hid hb
  obtain ⟨a0, a1, a2⟩ := three_cells p0
  have P0 := Lib.hid p0; have P1 := Lib.hid p1; have P2 := Lib.hid p2
  clear hb r1 r2 r3 p0 p1 p2 hq
  go_enter Tryd.func11, Tryd.ntmps11
  go_wp2_with (fail)
  rw [← hw3]
  clear hw3
  refine HQ.out.mono ?_
  rintro e w4 ⟨hs, rfl, own4, bel4⟩
  have q0 := (bel4.block w.heap.size (by omega)).trans P0.out
  have q1 := (bel4.block (w.heap.size + 1) (by omega)).trans P1.out
  have q2 := (bel4.block (w.heap.size + 1 + 1) (by omega)).trans P2.out
  have hs4 := bel4.size
  have B4 := Lib.hid (HB3.out.trans (bel4.mono HB3.out.size))
  have O4 := Lib.hid own4
  clear bel4 own4 HB3 HQ a0 a1 a2 P0 P1 P2
  have hg3 : w.heap.size + 1 + 1 < w3.heap.size := by omega
  clear hsz
  generalize w3.heap.size = g at *
  -- the wires stored
  have B5 : Hid (Below w.heap.size w (w4.setCell ⟨w.heap.size + 1 + 1, 0, none⟩ (.slice (some ⟨g, 0, none⟩) ws.length ws.length))) := Lib.hid (B4.out.setCell (p := ⟨w.heap.size + 1 + 1, 0, none⟩) (by show w.heap.size ≤ w.heap.size + 1 + 1; omega) _)
  have s0 : (w4.setCell ⟨w.heap.size + 1 + 1, 0, none⟩ (.slice (some ⟨g, 0, none⟩) ws.length ws.length)).heap[w.heap.size + 1 + 1]? = some (.cells #[.slice (some ⟨g, 0, none⟩) ws.length ws.length, .slice none 0 0, .slice none 0 0] 30 (0, 0)) := by simpa using heap_setCell_same w4 (w.heap.size + 1 + 1) 0 _ _ (.slice (some ⟨g, 0, none⟩) ws.length ws.length) q2
  have s1 : (w4.setCell ⟨w.heap.size + 1 + 1, 0, none⟩ (.slice (some ⟨g, 0, none⟩) ws.length ws.length)).heap[w.heap.size + 1]? = _ := (Below.heap_setCell _ _ _ _ (by show w.heap.size + 1 ≠ w.heap.size + 1 + 1; omega)).trans q1
  have s2 : (w4.setCell ⟨w.heap.size + 1 + 1, 0, none⟩ (.slice (some ⟨g, 0, none⟩) ws.length ws.length)).heap[w.heap.size]? = _ := (Below.heap_setCell _ _ _ _ (by show w.heap.size ≠ w.heap.size + 1 + 1; omega)).trans q0
  have O5 : Hid (OwnQ (w4.setCell ⟨w.heap.size + 1 + 1, 0, none⟩ (.slice (some ⟨g, 0, none⟩) ws.length ws.length)) g w4.heap.size (.slice (some ⟨g, 0, none⟩) ws.length ws.length) hs ws) := Lib.hid (O4.out.setBelow (p := ⟨w.heap.size + 1 + 1, 0, none⟩) (by show w.heap.size + 1 + 1 < g; omega) _)
  obtain ⟨y0, y1, y2⟩ := three_cells q2
  have z0 := frozen_of_row _ _ 0 _ _ q2
  obtain ⟨a0, a1, a2⟩ := three_cells q0
  have S0 := Lib.hid s0; have S1 := Lib.hid s1; have S2 := Lib.hid s2
  clear s0 s1 s2 q0 q1 q2 O4 B4
  go_wp2_with (fail)
  have es5 : (w4.setCell ⟨w.heap.size + 1 + 1, 0, none⟩ (.slice (some ⟨g, 0, none⟩) ws.length ws.length)).heap.size = w4.heap.size := by simp
  clear y0 y1 y2 z0 a0 a1 a2
  generalize w4.setCell ⟨w.heap.size + 1 + 1, 0, none⟩ (.slice (some ⟨g, 0, none⟩) ws.length ws.length) = w5 at *
  refine (toLS_any L ls.length d ls w5 ((HR2.out.below B5.out).more B5.out.size) hl).mono ?_
  rintro e w6 ⟨rfl, own6, bel6⟩
  have q0 := (bel6.block w.heap.size (by omega)).trans S2.out
  have q1 := (bel6.block (w.heap.size + 1) (by omega)).trans S1.out
  have q2 := (bel6.block (w.heap.size + 1 + 1) (by omega)).trans S0.out
  have hs6 := bel6.size
  have B6 := Lib.hid (B5.out.trans (bel6.mono B5.out.size))
  have O6 := Lib.hid (O5.out.below bel6)
  have L6 := Lib.hid own6
  clear bel6 own6 B5 O5 S0 S1 S2
  generalize w5.heap.size = g5 at *
  subst es5
  -- the links stored
  obtain ⟨m, hm⟩ : ∃ m, w4.heap.size = m := ⟨_, rfl⟩
  rw [hm] at hs4 hs6 O6 L6 ⊢
  clear hm
  have B7 : Hid (Below w.heap.size w (w6.setCell ⟨w.heap.size + 1 + 1, 1, none⟩ (.slice (some ⟨m, 0, none⟩) ls.length ls.length))) := Lib.hid (B6.out.setCell (p := ⟨w.heap.size + 1 + 1, 1, none⟩) (by show w.heap.size ≤ w.heap.size + 1 + 1; omega) _)
  have s0 : (w6.setCell ⟨w.heap.size + 1 + 1, 1, none⟩ (.slice (some ⟨m, 0, none⟩) ls.length ls.length)).heap[w.heap.size + 1 + 1]? = some (.cells #[.slice (some ⟨g, 0, none⟩) ws.length ws.length, .slice (some ⟨m, 0, none⟩) ls.length ls.length, .slice none 0 0] 30 (0, 0)) := by simpa using heap_setCell_same w6 (w.heap.size + 1 + 1) 1 _ _ (.slice (some ⟨m, 0, none⟩) ls.length ls.length) q2
  have s1 : (w6.setCell ⟨w.heap.size + 1 + 1, 1, none⟩ (.slice (some ⟨m, 0, none⟩) ls.length ls.length)).heap[w.heap.size + 1]? = _ := (Below.heap_setCell _ _ _ _ (by show w.heap.size + 1 ≠ w.heap.size + 1 + 1; omega)).trans q1
  have s2 : (w6.setCell ⟨w.heap.size + 1 + 1, 1, none⟩ (.slice (some ⟨m, 0, none⟩) ls.length ls.length)).heap[w.heap.size]? = _ := (Below.heap_setCell _ _ _ _ (by show w.heap.size ≠ w.heap.size + 1 + 1; omega)).trans q0
  have O7 : Hid (OwnQ (w6.setCell ⟨w.heap.size + 1 + 1, 1, none⟩ (.slice (some ⟨m, 0, none⟩) ls.length ls.length)) g m (.slice (some ⟨g, 0, none⟩) ws.length ws.length) hs ws) := Lib.hid (O6.out.setBelow (p := ⟨w.heap.size + 1 + 1, 1, none⟩) (by show w.heap.size + 1 + 1 < g; omega) _)
  have L7 := Lib.hid (ownsRow_setCell_below L6.out (a := ⟨w.heap.size + 1 + 1, 1, none⟩) (by show w.heap.size + 1 + 1 < m; omega) (.slice (some ⟨m, 0, none⟩) ls.length ls.length))
  have hLb : Hid (∀ b, (Value.slice (some ⟨m, 0, none⟩) ls.length ls.length).ownBlock = some b → b < w6.heap.size) := Lib.hid fun b e => (L6.out.lt b e).2
  obtain ⟨y0, y1, y2⟩ := three_cells q2
  have z0 := frozen_of_row _ _ 1 _ _ q2
  obtain ⟨a0, a1, a2⟩ := three_cells q0
  have S0 := Lib.hid s0; have S1 := Lib.hid s1; have S2 := Lib.hid s2
  clear s0 s1 s2 q0 q1 q2 O6 B6 L6
  go_wp2_with (fail)
  have es7 : (w6.setCell ⟨w.heap.size + 1 + 1, 1, none⟩ (.slice (some ⟨m, 0, none⟩) ls.length ls.length)).heap.size = w6.heap.size := by simp
  clear y0 y1 y2 z0 a0 a1 a2
  generalize w6.setCell ⟨w.heap.size + 1 + 1, 1, none⟩ (.slice (some ⟨m, 0, none⟩) ls.length ls.length) = w7 at *
  refine (toInts_any C cs.length e0 cs w7 ((HR3.out.below B7.out).more B7.out.size) hc).mono ?_
  rintro e w8 ⟨rfl, own8, bel8⟩
  have q1 := (bel8.block (w.heap.size + 1) (by omega)).trans S1.out
  have q2 := (bel8.block (w.heap.size + 1 + 1) (by omega)).trans S0.out
  have hs8 := bel8.size
  have B8 := Lib.hid (B7.out.trans (bel8.mono B7.out.size))
  have O8 := Lib.hid (O7.out.below bel8)
  have L8 := Lib.hid (own_below L7.out bel8 (Nat.le_refl _))
  have C8 := Lib.hid own8
  clear bel8 own8 B7 O7 S0 S1 S2 L7
  generalize w7.heap.size = g7 at *
  subst es7
  obtain ⟨m2, hm2⟩ : ∃ m, w6.heap.size = m := ⟨_, rfl⟩
  rw [hm2] at hs6 hs8 C8 hLb ⊢
  clear hm2
  -- the conclusions stored; the whole copied
  have s0 : (w8.setCell ⟨w.heap.size + 1 + 1, 2, none⟩ (.slice (some ⟨m2, 0, none⟩) cs.length cs.length)).heap[w.heap.size + 1 + 1]? = some (.cells #[.slice (some ⟨g, 0, none⟩) ws.length ws.length, .slice (some ⟨m, 0, none⟩) ls.length ls.length, .slice (some ⟨m2, 0, none⟩) cs.length cs.length] 30 (0, 0)) := by simpa using heap_setCell_same w8 (w.heap.size + 1 + 1) 2 _ _ (.slice (some ⟨m2, 0, none⟩) cs.length cs.length) q2
  have s1 : (w8.setCell ⟨w.heap.size + 1 + 1, 2, none⟩ (.slice (some ⟨m2, 0, none⟩) cs.length cs.length)).heap[w.heap.size + 1]? = _ := (Below.heap_setCell _ _ _ _ (by show w.heap.size + 1 ≠ w.heap.size + 1 + 1; omega)).trans q1
  have F := set3_at s1 (.slice (some ⟨g, 0, none⟩) ws.length ws.length) (.slice (some ⟨m, 0, none⟩) ls.length ls.length) (.slice (some ⟨m2, 0, none⟩) cs.length cs.length)
  have HF := Lib.hid F
  have ON : Hid (OwnN w8 g w8.heap.size ⟨some ⟨g, 0, none⟩, ws.length, hs, some ⟨m, 0, none⟩, ls.length, some ⟨m2, 0, none⟩, cs.length⟩ ⟨ws, ls, cs⟩) := Lib.hid ((OwnN.mk' (lo := g) (hi := w8.heap.size) (m1 := m) (m2 := m2) (h := ⟨some ⟨g, 0, none⟩, ws.length, hs, some ⟨m, 0, none⟩, ls.length, some ⟨m2, 0, none⟩, cs.length⟩) (N := ⟨ws, ls, cs⟩) O8.out L8.out hLb.out C8.out hs4 hs6 (Nat.le_refl _) hs8))
  obtain ⟨y0, y1, y2⟩ := three_cells q2
  have z0 := frozen_of_row _ _ 2 _ _ q2
  obtain ⟨a0, a1, a2⟩ := three_cells q1
  have f0 := frozen_of_row _ _ 0 _ _ q1; have f1 := frozen_of_row _ _ 1 _ _ q1; have f2 := frozen_of_row _ _ 2 _ _ q1
  have hsz8 : w.heap.size + 1 + 1 < w8.heap.size := by omega
  clear s0 s1 q1 q2 O8 L8 C8 hLb F
  go_wp2
  (try simp only [Exit.inBlock, Exit.then])
  refine bodyPost_ret (results_cell_row rfl _ _ (w.heap.size + 1) _ _ (0, 0) _ rfl HF.out Tryd.underlying30 rfl (by kernel_rfl)) rfl ?_
  refine ⟨⟨some ⟨g, 0, none⟩, ws.length, hs, some ⟨m, 0, none⟩, ls.length, some ⟨m2, 0, none⟩, cs.length⟩, rfl, ?_, ?_⟩
  · have o := own_setN (own_setN (own_setN (own_setN ON.out (b := w.heap.size + 1 + 1) (o := 2) (by omega) (.slice (some ⟨m2, 0, none⟩) cs.length cs.length)) (b := w.heap.size + 1) (o := 0) (by omega) (.slice (some ⟨g, 0, none⟩) ws.length ws.length)) (b := w.heap.size + 1) (o := 1) (by omega) (.slice (some ⟨m, 0, none⟩) ls.length ls.length)) (b := w.heap.size + 1) (o := 2) (by omega) (.slice (some ⟨m2, 0, none⟩) cs.length cs.length)
    exact o.more (by omega) (by simp)
  · exact set3_below (B8.out.setCell (p := ⟨w.heap.size + 1 + 1, 2, none⟩) (by show w.heap.size ≤ w.heap.size + 1 + 1; omega) _) (by omega) _ _ _
theorem eqLk_any (x : Lk) (w : World) : Calls Tryd.prog 82 #[.agg #[.int .i64 x.k, .int .i64 x.a, .int .i64 x.b, .int .i64 x.c], .agg #[.int .i64 x.k, .int .i64 x.a, .int .i64 x.b, .int .i64 x.c]] w fun e w' => e = .returned (.bool true) ∧ Below w.heap.size w w' := by
  obtain ⟨k, a, b, c⟩ := x
  dsimp only
  have e1 : (k != k) = false := by simp
  have e2 : (a != a) = false := by simp
  have e3 : (b != b) = false := by simp
  have e4 : (c != c) = false := by simp
  go_enter Tryd.func82, Tryd.ntmps82
  go_wp2
  go_ret
  exact ⟨rfl, ((Below.refl _ _).alloc (Nat.le_refl _) _).alloc (by simp) _⟩
set_option maxHeartbeats 2000000 in
theorem eqLS_any (A A2 : Option Addr) (n c c2 : Nat) (ls : List Lk) (w : World) (h : RdL w w.heap.size A n ls) (h' : RdL w w.heap.size A2 n ls) (hn : n ≤ 1048576) :
    Calls Tryd.prog 48 #[.slice A n c, .slice A2 n c2] w fun e w' => e = .returned (.bool true) ∧ Below w.heap.size w w' := by
  have hl := h.len
  have hnn : (n != n) = false := by simp
  have HR := Lib.hid h; have HR2 := Lib.hid h'
  clear h h'
  go_enter Tryd.func48, Tryd.ntmps48
  go_wp2
  go_loopw [5] (fun i wr => ∃ k : Nat, k ≤ n ∧ i = .int .i64 k ∧ Below w.heap.size w wr) (fun i _ => n - (intOf i).toNat)
  case atStart => exact ⟨0, Nat.zero_le _, rfl, Below.refl _ _⟩
  case round =>
    obtain ⟨k, hk, rfl, hB⟩ := hrel
    have HB := Lib.hid hB
    by_cases hlt : k < n
    · obtain ⟨b, off, rfl, hbb, hcells⟩ := HR.out.at (by omega)
      obtain ⟨b2, off2, rfl, hbb2, hcells2⟩ := HR2.out.at (by omega)
      obtain ⟨x0, x1, x2, x3⟩ := hcells k hlt
      obtain ⟨y0, y1, y2, y3⟩ := hcells2 k hlt
      replace x0 := (hB.cell (p := ⟨b, off + k * 4, none⟩) hbb).trans x0
      replace x1 := (hB.cell (p := ⟨b, off + k * 4 + 1, none⟩) hbb).trans x1
      replace x2 := (hB.cell (p := ⟨b, off + k * 4 + 2, none⟩) hbb).trans x2
      replace x3 := (hB.cell (p := ⟨b, off + k * 4 + 3, none⟩) hbb).trans x3
      replace y0 := (hB.cell (p := ⟨b2, off2 + k * 4, none⟩) hbb2).trans y0
      replace y1 := (hB.cell (p := ⟨b2, off2 + k * 4 + 1, none⟩) hbb2).trans y1
      replace y2 := (hB.cell (p := ⟨b2, off2 + k * 4 + 2, none⟩) hbb2).trans y2
      replace y3 := (hB.cell (p := ⟨b2, off2 + k * 4 + 3, none⟩) hbb2).trans y3
      have HE := Lib.hid (eqLk_any (ls.getD k Lk.nil) wr.drew)
      have hi1 : (k : Int) < (n : Int) := by omega
      clear hcells hcells2 hB
      generalize (ls.getD k Lk.nil).k = sk at *; generalize (ls.getD k Lk.nil).a = sa at *; generalize (ls.getD k Lk.nil).b = sb at *; generalize (ls.getD k Lk.nil).c = sc at *
      go_wp2_with (fail)
      go_region_with (go_at_call 82; refine HE.out.mono ?_; rintro e wf ⟨rfl, bf'⟩; have bf := undrew bf'; clear bf')
      all_goals go_wp2
      all_goals
        go_roundw
        case rel => exact ⟨k + 1, by omega, by go_num, HB.out.trans (bf.mono HB.out.size)⟩
        case measure => simp [intOf]; omega
    · have hkl : k = n := by omega
      subst hkl
      clear hB
      go_wp2
      go_ret
      exact ⟨rfl, HB.out⟩
set_option maxHeartbeats 1000000 in
theorem eqN_any (h h' : NH) (N : Nt) (w : World) (r : RdN w w.heap.size h N) (r' : RdN w w.heap.size h' N) (hq : ∀ q ∈ N.w, q.length ≤ 1048576) (hn : N.w.length ≤ 1048576) (hl : N.l.length ≤ 1048576) (hc : N.c.length ≤ 1048576) :
    Calls Tryd.prog 13 #[.agg #[.slice h.A N.w.length h.c, .slice h.L N.l.length h.d, .slice h.C N.c.length h.e], .agg #[.slice h'.A N.w.length h'.c, .slice h'.L N.l.length h'.d, .slice h'.C N.c.length h'.e]] w fun e w' => e = .returned (.bool true) ∧ Below w.heap.size w w' := by
  obtain ⟨A, c, hs0, L, d, C, e0⟩ := h
  obtain ⟨A2, c2, hs2, L2, d2, C2, e2⟩ := h'
  obtain ⟨ws, ls, cs⟩ := N
  obtain ⟨r1, r2, r3⟩ := r
  obtain ⟨t1, t2, t3⟩ := r'
  dsimp only at r1 r2 r3 t1 t2 t3 hq hn hl hc ⊢
  obtain ⟨w2, hw2⟩ : ∃ w2, w2 = (w.alloc (.cells #[.slice A ws.length c, .slice L ls.length d, .slice C cs.length e0] 30)).alloc (.cells #[.slice A2 ws.length c2, .slice L2 ls.length d2, .slice C2 cs.length e2] 30) := ⟨_, rfl⟩
  have hb : Below w.heap.size w w2 := by
    rw [hw2]
    exact ((Below.refl _ _).alloc (Nat.le_refl _) _).alloc (by simp) _
  have p0 : w2.heap[w.heap.size]? = some (.cells #[.slice A ws.length c, .slice L ls.length d, .slice C cs.length e0] 30 (0, 0)) := by
    rw [hw2, Below.heap_alloc _ _ _ (by simp)]; exact heap_alloc_new _ _
  have p1 : w2.heap[w.heap.size + 1]? = some (.cells #[.slice A2 ws.length c2, .slice L2 ls.length d2, .slice C2 cs.length e2] 30 (0, 0)) := by
    rw [hw2]
    have e : (w.alloc (.cells #[.slice A ws.length c, .slice L ls.length d, .slice C cs.length e0] 30)).heap.size = w.heap.size + 1 := by simp
    rw [← e]; exact heap_alloc_new _ _
  have hsz : w.heap.size + 1 < w2.heap.size := by rw [hw2]; simp
  have HE1 := Lib.hid (eqQ_x A A2 ws.length c c2 ws w2 ((r1.below hb).more hb.size) ((t1.below hb).more hb.size) hn hq)
  have HL1 := Lib.hid r2; have HL2 := Lib.hid t2; have HC1 := Lib.hid r3; have HC2 := Lib.hid t3
  have HB := Lib.hid hb
  obtain ⟨a0, a1, a2⟩ := three_cells p0
  obtain ⟨b0, b1, b2⟩ := three_cells p1
  clear hb r1 r2 r3 t1 t2 t3 hq
  go_enter Tryd.func13, Tryd.ntmps13
  go_wp2_with (fail)
  rw [← hw2]
  clear hw2
  refine HE1.out.mono ?_
  rintro e w3 ⟨rfl, bel3⟩
  replace p0 := (bel3.block _ (by omega)).trans p0
  replace p1 := (bel3.block _ (by omega)).trans p1
  have hs3 := bel3.size
  have HB3 := Lib.hid (HB.out.trans (bel3.mono HB.out.size))
  clear a0 a1 a2 b0 b1 b2 bel3 HB HE1
  obtain ⟨a0, a1, a2⟩ := three_cells p0
  obtain ⟨b0, b1, b2⟩ := three_cells p1
  go_wp2_with (fail)
  refine (eqLS_any L L2 ls.length d d2 ls w3 ((HL1.out.below HB3.out).more HB3.out.size) ((HL2.out.below HB3.out).more HB3.out.size) hl).mono ?_
  rintro e w4 ⟨rfl, bel4⟩
  replace p0 := (bel4.block _ (by omega)).trans p0
  replace p1 := (bel4.block _ (by omega)).trans p1
  have HB4 := Lib.hid (HB3.out.trans (bel4.mono HB3.out.size))
  clear a0 a1 a2 b0 b1 b2 bel4 HB3
  obtain ⟨a0, a1, a2⟩ := three_cells p0
  obtain ⟨b0, b1, b2⟩ := three_cells p1
  go_wp2_with (fail)
  refine (eqI_x C C2 cs.length e0 e2 cs w4 ((HC1.out.below HB4.out).more HB4.out.size) ((HC2.out.below HB4.out).more HB4.out.size) hc).mono ?_
  rintro e w5 ⟨rfl, bel5⟩
  have HB5 := Lib.hid (HB4.out.trans (bel5.mono HB4.out.size))
  clear bel5
  go_wp2
  go_ret
  exact ⟨rfl, HB5.out⟩
end
section
open Go.ChangeAt Go.ChangeShapes Go.RowKit Go.WideShapes

theorem mkL_at : ∀ (k : Int) (n j : Nat), j < n → (mkL k n).getD j Lk.nil = ⟨k + (j * 4 : Nat), k + (j * 4 : Nat) + 1, k + (j * 4 : Nat) + 1 + 1, k + (j * 4 : Nat) + 1 + 1 + 1⟩
  | _, 0, _, h => absurd h (by omega)
  | k, n + 1, 0, _ => by
    show (⟨k, k + 1, k + 2, k + 3⟩ : Lk) = _
    rw [show k + ((0 * 4 : Nat) : Int) = k by simp, show k + 1 + 1 = k + 2 by omega, show k + 2 + 1 = k + 3 by omega]
  | k, n + 1, j + 1, h => by
    have ih := mkL_at (k + 4) n j (by omega)
    have e : (mkL k (n + 1)).getD (j + 1) Lk.nil = (mkL (k + 4) n).getD j Lk.nil := rfl
    rw [e, ih, show k + 4 + ((j * 4 : Nat) : Int) = k + (((j + 1) * 4 : Nat) : Int) by omega]
set_option maxHeartbeats 2000000 in
theorem markLS_any (A : Option Addr) (n c : Nat) (ls : List Lk) (k : Int) (w : World) (base : Nat) (h : w.ownsRow base 72 4 (.slice A n c) n ((flL ls).map (Value.int .i64))) (hn : n ≤ 1048576) (hk0 : 0 ≤ k) (hk1 : k ≤ 1073741824) :
    Calls Tryd.prog 50 #[.slice A n c, .int .i64 k] w fun e w' => e = .returned (.int .i64 (k + (n * 4 : Nat))) ∧ w'.ownsRow base 72 4 (.slice A n c) n ((flL (mkL k n)).map (Value.int .i64)) ∧ w.grownBy w' (Value.slice A n c).ownBlock := by
  have hl : ls.length = n := by have := h.1; rw [List.length_map, flL_len] at this; omega
  have hml := mkL_len k n
  have H0 := Lib.hid h
  have HU0 : Hid (Upto4 ((flL ls).map (Value.int .i64)) (mkL k n) 0) := Lib.hid ⟨by rw [List.length_map, flL_len, hml, hl], fun j hj => absurd hj (by omega)⟩
  have HML := Lib.hid hml
  clear h hml hl
  go_enter Tryd.func50, Tryd.ntmps50
  go_wp2
  go_loopw [1, 5] (fun v i wr => ∃ (j : Nat) (xs : List Value), j ≤ n ∧ i = .int .i64 j ∧ v = .int .i64 (k + (j * 4 : Nat)) ∧ Upto4 xs (mkL k n) j ∧ wr.ownsRow base 72 4 (.slice A n c) n xs ∧ w.grownBy wr (Value.slice A n c).ownBlock)
    (fun _ i _ => n - (intOf i).toNat)
  case atStart => exact ⟨0, _, Nat.zero_le _, rfl, by simp, HU0.out, H0.out, World.grownBy.refl w _⟩
  case round =>
    obtain ⟨j, ys, hj, rfl, rfl, hU, hO, hG⟩ := hrel
    clear H0 HU0
    by_cases hlt : j < n
    · obtain ⟨g, cap, hv, hbg, hgl⟩ := hO.form (by omega)
      have hA : A = some ⟨g, 0, none⟩ ∧ c = cap := by injection hv with a b c'; exact ⟨a, c'⟩
      obtain ⟨rfl, rfl⟩ := hA
      have hs := hU.step (k := j) (by rw [HML.out]; exact hlt)
      rw [mkL_at k n j hlt] at hs
      have hyl : ys.length = n * 4 := by rw [hU.1, HML.out]
      obtain ⟨q, hq⟩ : ∃ q : Int, k + (j * 4 : Nat) = q := ⟨_, rfl⟩
      have HN : Hid (q + 1 + 1 + 1 + 1 = k + ((j + 1) * 4 : Nat)) := Lib.hid (by omega)
      have hq0 : 0 ≤ q := by omega
      have hq1 : q ≤ 1090000000 := by omega
      rw [hq] at hs ⊢
      dsimp only at hs
      clear hq
      have hi1 : (j : Int) < (n : Int) := by omega
      obtain ⟨q1, q2⟩ := four_own (o := j * 4) hO (.int .i64 q) (.int .i64 (q + 1)) (.int .i64 (q + 1 + 1)) (.int .i64 (q + 1 + 1 + 1))
      have HS := Lib.hid hs; have HQ1 := Lib.hid q1; have HG := Lib.hid (grownBy_trans hG q2)
      have cl := fun t (ht : t < 4) => hO.cellAt (g := g) (j * 4 + t) (by omega)
      have fr := fun t => hO.frozenAt (g := g) (j * 4 + t)
      obtain ⟨d0, e0⟩ : ∃ u, wr.cell? ⟨g, j * 4, none⟩ = some u := ⟨_, (cl 0 (by omega)).trans (List.getElem?_eq_getElem (show j * 4 + 0 < ys.length by omega))⟩
      obtain ⟨d1, e1⟩ : ∃ u, wr.cell? ⟨g, j * 4 + 1, none⟩ = some u := ⟨_, (cl 1 (by omega)).trans (List.getElem?_eq_getElem (show j * 4 + 1 < ys.length by omega))⟩
      obtain ⟨d2, e2⟩ : ∃ u, wr.cell? ⟨g, j * 4 + 2, none⟩ = some u := ⟨_, (cl 2 (by omega)).trans (List.getElem?_eq_getElem (show j * 4 + 2 < ys.length by omega))⟩
      obtain ⟨d3, e3⟩ : ∃ u, wr.cell? ⟨g, j * 4 + 3, none⟩ = some u := ⟨_, (cl 3 (by omega)).trans (List.getElem?_eq_getElem (show j * 4 + 3 < ys.length by omega))⟩
      have fr0 : wr.frozen? ⟨g, j * 4, none⟩ = false := fr 0
      have fr1 := fr 1; have fr2 := fr 2; have fr3 := fr 3
      clear cl fr hO hU hG hs q1 q2 hv hyl hbg hgl
      go_wp2
      go_roundw
      case rel => exact ⟨j + 1, _, by omega, by go_num, by rw [HN.out], HS.out, HQ1.out, HG.out⟩
      case measure => simp [intOf]; omega
    · have hkl : j = n := by omega
      subst hkl
      have hd := Upto4.done (ls := mkL k j) (by rw [HML.out]; exact hU)
      subst hd
      have HO := Lib.hid hO; have HG := Lib.hid hG
      clear hO hU hG
      go_wp2
      go_ret
      exact ⟨rfl, HO.out, HG.out⟩
set_option maxHeartbeats 2000000 in
theorem heldLS_any (A : Option Addr) (n c : Nat) (k : Int) (w : World) (h : RdL w w.heap.size A n (mkL k n)) (hn : n ≤ 1048576) (hk0 : 0 ≤ k) (hk1 : k ≤ 1073741824) :
    Calls Tryd.prog 52 #[.slice A n c, .int .i64 k] w fun e w' => e = .returned (.int .i64 (k + (n * 4 : Nat))) ∧ w = w' := by
  have H := Lib.hid h
  clear h
  go_enter Tryd.func52, Tryd.ntmps52
  go_wp2
  go_loop [1, 5] (fun v i => ∃ j : Nat, j ≤ n ∧ i = .int .i64 j ∧ v = .int .i64 (k + (j * 4 : Nat))) (fun _ i => n - (intOf i).toNat)
  case atStart => exact ⟨0, Nat.zero_le _, rfl, by simp⟩
  case round =>
    obtain ⟨j, hj, rfl, rfl⟩ := hrel
    by_cases hlt : j < n
    · obtain ⟨b, off, rfl, hbb, hcells⟩ := H.out.at (by omega)
      obtain ⟨x0, x1, x2, x3⟩ := hcells j hlt
      rw [mkL_at k n j hlt] at x0 x1 x2 x3
      obtain ⟨q, hq⟩ : ∃ q : Int, k + (j * 4 : Nat) = q := ⟨_, rfl⟩
      have HN : Hid (q + 1 + 1 + 1 + 1 = k + ((j + 1) * 4 : Nat)) := Lib.hid (by omega)
      have hq0 : 0 ≤ q := by omega
      have hq1 : q ≤ 1090000000 := by omega
      rw [hq] at x0 x1 x2 x3 ⊢
      dsimp only at x0 x1 x2 x3
      clear hq hcells
      have hi1 : (j : Int) < (n : Int) := by omega
      have z0 : (q != q) = false := by simp
      have z1 : (q + 1 != q + 1) = false := by simp
      have z2 : (q + 1 + 1 != q + 1 + 1) = false := by simp
      have z3 : (q + 1 + 1 + 1 != q + 1 + 1 + 1) = false := by simp
      go_wp2
      go_round
      case rel => exact ⟨j + 1, by omega, by go_num, by rw [HN.out]⟩
      case measure => simp [intOf]; omega
    · have hkl : j = n := by omega
      subst hkl
      go_wp2
      go_ret
      exact ⟨rfl, rfl⟩
theorem hv_mrk (k : Int) (hs : Nat → Option Addr × Nat) (ws : List (List Int)) (i : Nat) (hi : i < ws.length) : hv hs (mrkQ k ws) i = hv hs ws i := by
  unfold hv; rw [mrkQ_at k hi, markL_len]
set_option maxHeartbeats 2000000 in
theorem markN_any (h : NH) (N : Nt) (k : Int) (w : World) (lo hi : Nat) (o : OwnN w lo hi h N) (hn : N.w.length ≤ 1048576) (ht : total N.w ≤ 1048576) (hl : N.l.length ≤ 1048576) (hc : N.c.length ≤ 1048576) (hk0 : 0 ≤ k) (hk1 : k ≤ 536870912) :
    Calls Tryd.prog 14 #[.agg #[.slice h.A N.w.length h.c, .slice h.L N.l.length h.d, .slice h.C N.c.length h.e], .int .i64 k] w fun e w' => e = .returned (.int .i64 (k + (ntot N : Nat))) ∧ OwnN w' lo hi h (mrkN k N) ∧ Kept lo hi w w' := by
  obtain ⟨A, c, hs, L, d, C, e0⟩ := h
  obtain ⟨ws, ls, cs⟩ := N
  obtain ⟨oq, ol, oc, olt, oct, olq, ocq, olc⟩ := o
  dsimp only at oq ol oc olt oct olq ocq olc hn ht hl hc ⊢
  obtain ⟨w1, hw1⟩ : ∃ w1, w1 = w.alloc (.cells #[.slice A ws.length c, .slice L ls.length d, .slice C cs.length e0] 30) := ⟨_, rfl⟩
  obtain ⟨hb, p0, hsz⟩ := box3_any w (.slice A ws.length c) (.slice L ls.length d) (.slice C cs.length e0) 30
  rw [← hw1] at hb p0 hsz
  have HK1 := Lib.hid (Kept.of_below hb lo hi)
  have q1 := oq.below hb
  have HL1 := Lib.hid (own_below ol hb (Nat.le_refl _))
  have HC1 := Lib.hid (own_below oc hb (Nat.le_refl _))
  have hSw : ∀ i b, i < ws.length → (hv hs ws i).ownBlock = some b → b < w.heap.size := fun i b hi e => oq.lt hi e
  have hLw : ∀ b, (Value.slice L ls.length d).ownBlock = some b → b < w.heap.size := fun b e => (ol.lt b e).2
  have hCw : ∀ b, (Value.slice C cs.length e0).ownBlock = some b → b < w.heap.size := fun b e => (oc.lt b e).2
  have hAw : ∀ b, (Value.slice A ws.length c).ownBlock = some b → b < w.heap.size := fun b e => (oq.outer.lt b e).2
  have hSr : ∀ b, (∃ i, i < ws.length ∧ (hv hs ws i).ownBlock = some b) → lo ≤ b ∧ b < hi := fun b ⟨i, hi', e⟩ => ⟨((oq.inner i hi').lt b e).1, oq.top i b hi' e⟩
  have hLr : ∀ b, (Value.slice L ls.length d).ownBlock = some b → lo ≤ b ∧ b < hi := fun b e => ⟨(ol.lt b e).1, olt b e⟩
  have hCr : ∀ b, (Value.slice C cs.length e0).ownBlock = some b → lo ≤ b ∧ b < hi := fun b e => ⟨(oc.lt b e).1, oct b e⟩
  have HM := Lib.hid (markSS_s A ws.length c hs ws k w1 lo hi q1 rfl hn ht hk0 hk1 (fun b => ∃ i, i < ws.length ∧ (hv hs ws i).ownBlock = some b) (fun i b hi' e => ⟨i, hi', e⟩))
  have HSw := Lib.hid hSw; have HLw := Lib.hid hLw; have HCw := Lib.hid hCw; have HAw := Lib.hid hAw; have HSr := Lib.hid hSr; have HLr := Lib.hid hLr; have HCr := Lib.hid hCr
  have HLQ := Lib.hid olq; have HCQ := Lib.hid ocq; have HLC := Lib.hid olc; have HLT := Lib.hid olt; have HCT := Lib.hid oct
  obtain ⟨a0, a1, a2⟩ := three_cells p0
  have P0 := Lib.hid p0
  have hz1 : w.heap.size < w1.heap.size := by omega
  clear hb p0 hsz oq ol oc olt oct olq ocq olc q1 hSw hLw hCw hAw hSr hLr hCr
  have HT : Hid (k + (total ws : Nat) + (ls.length * 4 : Nat) + (cs.length : Nat) = k + (ntot ⟨ws, ls, cs⟩ : Nat)) := Lib.hid (by unfold ntot; dsimp only; omega)
  have hk2 : k + (total ws : Nat) ≤ 540000000 := by omega
  go_enter Tryd.func14, Tryd.ntmps14
  go_wp2_with (fail)
  rw [← hw1]
  clear hw1
  refine HM.out.mono ?_
  rintro e w2 ⟨rfl, own2, ks2⟩
  have P2 := Lib.hid ((ks2.block w.heap.size hz1 (fun ⟨i, hi', e⟩ => by have := HSw.out i _ hi' e; omega)).trans P0.out)
  have HL2 := Lib.hid (own_same HL1.out fun b e => ks2.block b (HL1.out.lt b e).2 (fun ⟨i, hi', e2⟩ => (HLQ.out b e).2 i hi' e2))
  have HC2 := Lib.hid (own_same HC1.out fun b e => ks2.block b (HC1.out.lt b e).2 (fun ⟨i, hi', e2⟩ => (HCQ.out b e).2 i hi' e2))
  have HK2 := Lib.hid (HK1.out.trans (ks2.kept HSr.out))
  have hz2 : w.heap.size < w2.heap.size := by have := ks2.size; omega
  have HQ2 := Lib.hid own2
  clear ks2 own2 HM HL1 HC1 HK1 P0 a0 a1 a2
  obtain ⟨a0, a1, a2⟩ := three_cells P2.out
  obtain ⟨k2, hk2e⟩ : ∃ k2 : Int, k + (total ws : Nat) = k2 := ⟨_, rfl⟩
  have HK2E := Lib.hid hk2e
  rw [hk2e] at hk2 HT ⊢
  have hk20 : 0 ≤ k2 := by omega
  clear hk2e
  go_wp2_with (fail)
  refine (markLS_any L ls.length d ls k2 w2 lo HL2.out hl hk20 (by omega)).mono ?_
  rintro e w3 ⟨rfl, own3, gr3⟩
  have P3 := Lib.hid ((gr3.block w.heap.size hz2 (fun e => by have := HLw.out w.heap.size e.symm; omega)).trans P2.out)
  have HC3 := Lib.hid (own_same HC2.out fun b e => gr3.block b (HC2.out.lt b e).2 (fun e2 => HLC.out b e2.symm e))
  have hw2A : ∀ b, (Value.slice A ws.length c).ownBlock = some b → b < w2.heap.size := fun b e => by have := HAw.out b e; omega
  have HQ3 := Lib.hid (HQ2.out.fine (w' := w3) (fun b e => gr3.block b (hw2A b e) (fun e2 => (HLQ.out b e2.symm).1 e))
    (fun i hi' b e => gr3.block b (HQ2.out.lt hi' e) (fun e2 => (HLQ.out b e2.symm).2 i (by rw [mrkQ_len] at hi'; exact hi') (by rw [hv_mrk k hs ws i (by rw [mrkQ_len] at hi'; exact hi')] at e; exact e))))
  have HK3 := Lib.hid (HK2.out.trans (Kept.of_grown gr3 HLr.out))
  have hz3 : w.heap.size < w3.heap.size := by have := gr3.size; omega
  have HL3 := Lib.hid own3
  clear gr3 own3 HL2 HC2 HQ2 HK2 P2 a0 a1 a2 hw2A
  obtain ⟨a0, a1, a2⟩ := three_cells P3.out
  obtain ⟨k3, hk3e⟩ : ∃ k3 : Int, k2 + (ls.length * 4 : Nat) = k3 := ⟨_, rfl⟩
  have HK3E := Lib.hid hk3e
  rw [hk3e] at HT ⊢
  have hk30 : 0 ≤ k3 := by omega
  have hk31 : k3 ≤ 1073741824 := by omega
  clear hk3e
  go_wp2_with (fail)
  refine (mark_any C cs.length e0 cs k3 w3 lo HC3.out hc hk30 hk31).mono ?_
  rintro e w4 ⟨rfl, own4, gr4⟩
  have hw3A : ∀ b, (Value.slice A ws.length c).ownBlock = some b → b < w3.heap.size := fun b e => by have := HAw.out b e; omega
  have HQ4 := Lib.hid (HQ3.out.fine (w' := w4) (fun b e => gr4.block b (hw3A b e) (fun e2 => (HCQ.out b e2.symm).1 e))
    (fun i hi' b e => gr4.block b (HQ3.out.lt hi' e) (fun e2 => (HCQ.out b e2.symm).2 i (by rw [mrkQ_len] at hi'; exact hi') (by rw [hv_mrk k hs ws i (by rw [mrkQ_len] at hi'; exact hi')] at e; exact e))))
  have HL4 := Lib.hid (own_same HL3.out fun b e => gr4.block b (HL3.out.lt b e).2 (fun e2 => HLC.out b e e2.symm))
  have HK4 := Lib.hid (HK3.out.trans (Kept.of_grown gr4 HCr.out))
  have HC4 := Lib.hid own4
  clear gr4 own4 HL3 HC3 HQ3 HK3 P3 a0 a1 a2 hw3A
  have HON : Hid (OwnN w4 lo hi ⟨A, c, hs, L, d, C, e0⟩ (mrkN k ⟨ws, ls, cs⟩)) := Lib.hid (by
    have e1 : (mrkQ k ws).length = ws.length := mrkQ_len k ws
    have e2 : (mkL (k + total ws) ls.length).length = ls.length := mkL_len _ _
    have e3 : (markL (k + total ws + (ls.length * 4 : Nat)) cs.length).length = cs.length := markL_len _ _
    have c4 := HC4.out
    have l4 := HL4.out
    rw [← HK3E.out, ← HK2E.out] at c4
    rw [← HK2E.out] at l4
    refine ⟨?_, ?_, ?_, ?_, ?_, ?_, ?_, ?_⟩ <;> unfold mrkN <;> dsimp only <;> (try rw [e1]) <;> (try rw [e2]) <;> (try rw [e3])
    · exact HQ4.out
    · exact l4
    · exact c4
    · exact HLT.out
    · exact HCT.out
    · exact fun b e => ⟨(HLQ.out b e).1, fun i hi' => by rw [hv_mrk k hs ws i hi']; exact (HLQ.out b e).2 i hi'⟩
    · exact fun b e => ⟨(HCQ.out b e).1, fun i hi' => by rw [hv_mrk k hs ws i hi']; exact (HCQ.out b e).2 i hi'⟩
    · exact HLC.out)
  go_wp2
  go_ret
  exact ⟨ret_i64 HT.out, HON.out, HK4.out⟩
set_option maxHeartbeats 1000000 in
theorem heldN_any (h : NH) (N : Nt) (k : Int) (w : World) (r : RdN w w.heap.size h (mrkN k N)) (hn : N.w.length ≤ 1048576) (ht : total N.w ≤ 1048576) (hl : N.l.length ≤ 1048576) (hc : N.c.length ≤ 1048576) (hk0 : 0 ≤ k) (hk1 : k ≤ 536870912) :
    Calls Tryd.prog 15 #[.agg #[.slice h.A N.w.length h.c, .slice h.L N.l.length h.d, .slice h.C N.c.length h.e], .int .i64 k] w fun e w' => e = .returned (.int .i64 (k + (ntot N : Nat))) ∧ Below w.heap.size w w' := by
  obtain ⟨A, c, hs, L, d, C, e0⟩ := h
  obtain ⟨ws, ls, cs⟩ := N
  obtain ⟨r1, r2, r3⟩ := r
  unfold mrkN at r1 r2 r3
  dsimp only at r1 r2 r3 hn ht hl hc ⊢
  rw [mrkQ_len] at r1; rw [mkL_len] at r2; rw [markL_len] at r3
  obtain ⟨w1, hw1⟩ : ∃ w1, w1 = w.alloc (.cells #[.slice A ws.length c, .slice L ls.length d, .slice C cs.length e0] 30) := ⟨_, rfl⟩
  obtain ⟨hb, p0, hsz⟩ := box3_any w (.slice A ws.length c) (.slice L ls.length d) (.slice C cs.length e0) 30
  rw [← hw1] at hb p0 hsz
  obtain ⟨a0, a1, a2⟩ := three_cells p0
  have HB := Lib.hid hb
  have H1 := Lib.hid (heldSS_any A ws.length c ws k w1 ((r1.below hb).more hb.size) hn ht hk0 hk1)
  have HT : Hid (k + (total ws : Nat) + (ls.length * 4 : Nat) + (cs.length : Nat) = k + (ntot ⟨ws, ls, cs⟩ : Nat)) := Lib.hid (by unfold ntot; dsimp only; omega)
  have hk2 : k + (total ws : Nat) ≤ 540000000 := by omega
  have R2 := Lib.hid ((r2.below hb).more hb.size); have R3 := Lib.hid ((r3.below hb).more hb.size)
  obtain ⟨k2, hk2e⟩ : ∃ k2 : Int, k + (total ws : Nat) = k2 := ⟨_, rfl⟩
  rw [hk2e] at hk2 HT H1 R2 R3
  have hk20 : 0 ≤ k2 := by omega
  obtain ⟨k3, hk3e⟩ : ∃ k3 : Int, k2 + (ls.length * 4 : Nat) = k3 := ⟨_, rfl⟩
  have H2 := Lib.hid (heldLS_any L ls.length d k2 w1 R2.out hl hk20 (by omega))
  rw [hk3e] at HT R3 H2
  have hk30 : 0 ≤ k3 := by omega
  have hk31 : k3 ≤ 1073741824 := by omega
  have H3 := Lib.hid (held_any C cs.length e0 k3 w1 R3.out hc hk30 hk31)
  have d1 : decide (k2 < 0) = false := decide_eq_false (by omega)
  have d2 : decide (k3 < 0) = false := decide_eq_false (by omega)
  have d3 : decide (k3 + (cs.length : Int) < 0) = false := decide_eq_false (by omega)
  clear hb p0 hsz r1 r2 r3 R2 R3 hk2e hk3e
  go_enter Tryd.func15, Tryd.ntmps15
  go_wp2_with (fail)
  rw [← hw1]
  clear hw1
  refine H1.out.mono ?_
  rintro e w' ⟨rfl, rfl⟩
  go_wp2_with (fail)
  refine H2.out.mono ?_
  rintro e w' ⟨rfl, rfl⟩
  go_wp2_with (fail)
  refine H3.out.mono ?_
  rintro e w' ⟨rfl, rfl⟩
  go_wp2
  go_ret
  exact ⟨ret_i64 HT.out, HB.out⟩
end
section
open Go.ChangeShapes Go.WideShapes Go.ChangeAt Go.RowKit

theorem array_three {α : Type} {cs : Array α} (h : cs.size = 3) : ∃ c0 c1 c2, cs = #[c0, c1, c2] := by
  obtain ⟨l⟩ := cs
  match l, h with
  | [c0, c1, c2], _ => exact ⟨c0, c1, c2, rfl⟩
theorem open_agg3 {H : Type} {enc : TypeId × Value → H} {P : Program} {w : World} {base : Nat} {spare : Nat → Bool} {held : Bool} {r : Reach} {b0 : Nat} {t : TypeId} {f0 f1 f2 : Field} {v : Value} {d : DataW H} {p : List MemPlace} (hs : P.underlying t = some (.struct #[f0, f1, f2]))
    (o0 : f0.offset = 0) (o1 : f1.offset = 1) (o2 : f2.offset = 2) (k0 : P.cellsOf f0.type = 1) (k1 : P.cellsOf f1.type = 1) (k2 : P.cellsOf f2.type = 1)
    (hC : P.cellsOf t = 3) (hv : Value.okWide P w r b0 t v) (h : DataW.Trod enc P w base spare held t v d p) :
    ∃ (v0 v1 v2 : Value) (n : Nat) (y0 y1 y2 : DataW H × List MemPlace), v = .agg #[v0, v1, v2] ∧ DataW.trod enc P w base spare held n f0.type [v0] = some y0 ∧ DataW.trod enc P w base spare held n f1.type [v1] = some y1 ∧ DataW.trod enc P w base spare held n f2.type [v2] = some y2 := by
  obtain ⟨cs, rfl, hsz⟩ := okWide_struct hs hv
  obtain ⟨c0, c1, c2, rfl⟩ := array_three (hsz.trans hC)
  obtain ⟨fuel, hf⟩ := h
  obtain ⟨xs, n, _, _, _, hlen, hx⟩ := DataW.trod_struct hs hf
  match xs, hlen with
  | [y0, y1, y2], _ =>
    exact ⟨c0, c1, c2, n, y0, y1, y2, rfl, by simpa [Value.cells, o0, k0] using hx 0 f0 rfl, by simpa [Value.cells, o1, k1] using hx 1 f1 rfl, by simpa [Value.cells, o2, k2] using hx 2 f2 rfl⟩
theorem list_four {α : Type} {l : List α} (h : l.length = 4) : ∃ c0 c1 c2 c3, l = [c0, c1, c2, c3] := by
  match l, h with
  | [c0, c1, c2, c3], _ => exact ⟨c0, c1, c2, c3, rfl⟩
theorem trod_four {H : Type} {enc : TypeId × Value → H} {P : Program} {w : World} {base fuel : Nat} {spare : Nat → Bool} {held : Bool} {t : TypeId} {f0 f1 f2 f3 : Field} {cs : List Value} {x : DataW H × List MemPlace} (hs : P.underlying t = some (.struct #[f0, f1, f2, f3]))
    (o0 : f0.offset = 0) (o1 : f1.offset = 1) (o2 : f2.offset = 2) (o3 : f3.offset = 3) (k0 : P.cellsOf f0.type = 1) (k1 : P.cellsOf f1.type = 1) (k2 : P.cellsOf f2.type = 1) (k3 : P.cellsOf f3.type = 1)
    (hC : P.cellsOf t = 4) (h : DataW.trod enc P w base spare held fuel t cs = some x) :
    ∃ (v0 v1 v2 v3 : Value) (n : Nat) (y0 y1 y2 y3 : DataW H × List MemPlace), cs = [v0, v1, v2, v3] ∧ DataW.trod enc P w base spare held n f0.type [v0] = some y0 ∧ DataW.trod enc P w base spare held n f1.type [v1] = some y1 ∧
      DataW.trod enc P w base spare held n f2.type [v2] = some y2 ∧ DataW.trod enc P w base spare held n f3.type [v3] = some y3 := by
  obtain ⟨xs, n, _, _, hcl, hlen, hx⟩ := DataW.trod_struct hs h
  obtain ⟨c0, c1, c2, c3, rfl⟩ := list_four (hcl.trans hC)
  match xs, hlen with
  | [y0, y1, y2, y3], _ =>
    exact ⟨c0, c1, c2, c3, n, y0, y1, y2, y3, rfl, by simpa [o0, k0] using hx 0 f0 rfl, by simpa [o1, k1] using hx 1 f1 rfl, by simpa [o2, k2] using hx 2 f2 rfl, by simpa [o3, k3] using hx 3 f3 rfl⟩
set_option maxRecDepth 100000 in
/-- The four cells of a link that came in. -/
theorem cells_link {H : Type} {enc : TypeId × Value → H} {W : World} {fuel : Nat} {cs : List Value} {x : DataW H × List MemPlace} (h : DataW.trod enc Tryd.prog W 0 (fun _ => true) true fuel 92 cs = some x) :
    ∃ l : Lk, cs = [.int .i64 l.k, .int .i64 l.a, .int .i64 l.b, .int .i64 l.c] := by
  have e := trod_four (P := Tryd.prog) (w := W) (enc := enc) (base := 0) (spare := fun _ => true) (held := true) (cs := cs) (x := x) (fuel := fuel) Tryd.underlying92 (by kernel_rfl) (by kernel_rfl) (by kernel_rfl) (by kernel_rfl) (by kernel_rfl) (by kernel_rfl) (by kernel_rfl) (by kernel_rfl) (by kernel_rfl)
  obtain ⟨v0, v1, v2, v3, n, y0, y1, y2, y3, rfl, h0, h1, h2, h3⟩ := e h
  obtain ⟨r, e0, _, _⟩ := DataW.trod_int Tryd.underlying2 h0
  obtain ⟨a, e1, _, _⟩ := DataW.trod_int Tryd.underlying2 h1
  obtain ⟨b, e2, _, _⟩ := DataW.trod_int Tryd.underlying2 h2
  obtain ⟨i, e3, _, _⟩ := DataW.trod_int Tryd.underlying2 h3
  obtain rfl : v0 = _ := List.singleton_inj.1 e0
  obtain rfl : v1 = _ := List.singleton_inj.1 e1
  obtain rfl : v2 = _ := List.singleton_inj.1 e2
  obtain rfl : v3 = _ := List.singleton_inj.1 e3
  exact ⟨⟨r, a, b, i⟩, rfl⟩
theorem addN {b off : Nat} {m : Nat} : (⟨b, off, none⟩ : Addr).add m = ⟨b, off + m, none⟩ := by
  unfold Addr.add
  split <;> simp_all
instance : Inhabited Lk := ⟨Lk.nil⟩
/-- The row of links made of its cells. -/
theorem rdl_of {w : World} {B b off : Nat} {ls : List Lk} (hb : b < B) (hc : ∀ i, i < ls.length → w.cell? ⟨b, off + i * 4, none⟩ = some (.int .i64 (ls.getD i Lk.nil).k) ∧ w.cell? ⟨b, off + i * 4 + 1, none⟩ = some (.int .i64 (ls.getD i Lk.nil).a) ∧ w.cell? ⟨b, off + i * 4 + 2, none⟩ = some (.int .i64 (ls.getD i Lk.nil).b) ∧ w.cell? ⟨b, off + i * 4 + 3, none⟩ = some (.int .i64 (ls.getD i Lk.nil).c)) :
    RdL w B (some ⟨b, off, none⟩) ls.length ls := by
  refine ⟨rfl, flL_len ls, fun _ => ⟨b, off, rfl, hb, fun j hj => ?_⟩⟩
  have h4 : j / 4 < ls.length := by omega
  obtain ⟨c0, c1, c2, c3⟩ := hc (j / 4) h4
  obtain ⟨f0, f1, f2, f3⟩ := flL_at ls (j / 4) h4
  have : j = j / 4 * 4 ∨ j = j / 4 * 4 + 1 ∨ j = j / 4 * 4 + 2 ∨ j = j / 4 * 4 + 3 := by omega
  rcases this with e | e | e | e
  · rw [e, f0]; exact c0
  · rw [e, f1, ← Nat.add_assoc]; exact c1
  · rw [e, f2, ← Nat.add_assoc]; exact c2
  · rw [e, f3, ← Nat.add_assoc]; exact c3
/-- A slice of links that came in. -/
theorem open_links {H : Type} {enc : TypeId × Value → H} {W : World} {fuel : Nat} {v : Value} {x : DataW H × List MemPlace}
    (hf : DataW.trod enc Tryd.prog W 0 (fun _ => true) true fuel 23 [v] = some x) : ∃ a n c ls, v = .slice a n c ∧ RdL W W.heap.size a n ls ∧ n ≤ c ∧ n ≤ maxLen := by
  have c4 : Tryd.prog.cellsOf 92 = 4 := by kernel_rfl
  rcases DataW.trod_slice Tryd.underlying23 hf with ⟨hcs, _⟩ | ⟨x, l, c, elems, rest, n, _, hcs, _, _, hl, hm, hlen, hel, _⟩
  · obtain rfl : v = .slice none 0 0 := by simpa using hcs
    exact ⟨none, 0, 0, [], rfl, RdL.nil _ _ _, Nat.le_refl _, Nat.zero_le _⟩
  · obtain rfl : v = .slice (some x) l c := by simpa using hcs
    rw [c4] at hel
    have each : ∀ i, i < l → ∃ y : Lk, ∀ t, t < 4 → W.cell? ((x.add (i * 4)).add t) = [Value.int .i64 y.k, .int .i64 y.a, .int .i64 y.b, .int .i64 y.c][t]? := by
      intro i hi
      have he := hel i hi
      rw [List.getElem?_eq_getElem (by omega)] at he
      obtain ⟨cs, hc, ht⟩ := Option.bind_eq_some_iff.1 he
      obtain ⟨s, rfl⟩ := cells_link ht
      obtain ⟨_, hcl, hcc⟩ := World.cells?_some hc
      exact ⟨s, fun t ht => hcc t ht⟩
    obtain ⟨y, hy⟩ := Go.Deep.choose_lt each
    by_cases hn : 0 < l
    · obtain ⟨b, off, spot⟩ := x
      have h0 := hy 0 hn 0 (by omega)
      have hs : spot = none := by
        have : W.cell? ((⟨b, off, spot⟩ : Addr).add (0 * 4) |>.add 0) = some (.int .i64 (y 0).k) := h0
        simpa [Addr.add] using World.cell?_spot this
      subst hs
      have hlt : b < W.heap.size := by
        have : W.cell? ((⟨b, off, none⟩ : Addr).add (0 * 4) |>.add 0) = some (.int .i64 (y 0).k) := h0
        have := World.block_lt_of_cell? W _ this
        rw [addN, addN] at this
        exact this
      have hle : ((List.range l).map y).length = l := by simp
      have key := rdl_of (w := W) (b := b) (off := off) (ls := (List.range l).map y) hlt (fun k hk => by
        rw [hle] at hk
        have e : ((List.range l).map y).getD k Lk.nil = y k := by simp [List.getD, hk]
        rw [e]
        have gt : ∀ t, t < 4 → W.cell? ⟨b, off + k * 4 + t, none⟩ = [Value.int .i64 (y k).k, .int .i64 (y k).a, .int .i64 (y k).b, .int .i64 (y k).c][t]? := fun t ht => by
          have := hy k hk t ht
          rw [addN, addN] at this
          exact this
        exact ⟨gt 0 (by omega), gt 1 (by omega), gt 2 (by omega), gt 3 (by omega)⟩)
      rw [hle] at key
      exact ⟨_, l, c, _, rfl, key, hl, by omega⟩
    · obtain rfl : l = 0 := by omega
      exact ⟨_, 0, c, [], rfl, RdL.nil _ _ _, hl, Nat.zero_le _⟩
set_option maxRecDepth 100000 in
/-- A net that came in. -/
theorem open_net {H : Type} {enc : TypeId × Value → H} {W : World} {base : Nat} {v : Value} {d : DataW H} {p : List MemPlace} (hv : Value.okWide Tryd.prog W .any base 26 v)
    (h : DataW.Trod enc Tryd.prog W 0 (fun _ => true) true 26 v d p) :
    ∃ (h : NH) (N : Nt), v = .agg #[.slice h.A N.w.length h.c, .slice h.L N.l.length h.d, .slice h.C N.c.length h.e] ∧ RdN W W.heap.size h N ∧ (N.w.length ≤ maxLen ∧ N.l.length ≤ maxLen ∧ N.c.length ≤ maxLen) ∧ ∀ q ∈ N.w, q.length ≤ maxLen := by
  have e := open_agg3 (r := .any) (b0 := base) (v := v) (d := d) (p := p) (P := Tryd.prog) (w := W) (enc := enc) (base := 0) (spare := fun _ => true) (held := true) Tryd.underlying26 (by kernel_rfl) (by kernel_rfl) (by kernel_rfl) (by kernel_rfl) (by kernel_rfl) (by kernel_rfl) (by kernel_rfl)
  obtain ⟨v0, v1, v2, n, y0, y1, y2, rfl, h0, h1, h2⟩ := e hv h
  obtain ⟨a, n0, c, qs, rfl, r0, _, m0, q0, _⟩ := open_rows h0
  obtain ⟨L, n1, d1, ls, rfl, r1, _, m1⟩ := open_links h1
  have hsl : ∃ A l c, v2 = .slice A l c ∧ l ≤ maxLen := by
    rcases open_ints Tryd.underlying24 Tryd.underlying2 (by kernel_rfl) h2 with ⟨hcs, _⟩ | ⟨x, l, c, zs, hcs, _, hl, hm, _⟩
    · exact ⟨none, 0, 0, List.singleton_inj.1 hcs, Nat.zero_le _⟩
    · exact ⟨some x, l, c, List.singleton_inj.1 hcs, by omega⟩
  obtain ⟨C, n2, e2, rfl, m2⟩ := hsl
  obtain ⟨f, r2, _, _⟩ := open_i64s (d := y2.1) (p := y2.2) ⟨n, by simpa [Value.cells] using h2⟩
  have l0 := r0.len; have l1 := r1.len; have l2 := r2.len
  subst l0 l1 l2
  exact ⟨⟨a, c, fun _ => (none, 0), L, d1, C, e2⟩, ⟨qs, ls, f⟩, rfl, ⟨r0, r1, r2⟩, ⟨m0, m1, m2⟩, q0⟩
/-- Too great, or within the laws' bound. -/
theorem sz_casesN (left : Int) (hl : left ≤ 1048576) (N : Nt) : szR left (nsz N) = -1 ∨ ∃ L, szR left (nsz N) = L ∧ 0 ≤ L ∧ L ≤ 1048576 ∧ N.w.length ≤ 1048576 ∧ total N.w ≤ 1048576 ∧ N.l.length ≤ 1048576 ∧ N.c.length ≤ 1048576 := by
  by_cases h : left - (nsz N : Nat) < 0
  · exact .inl (szR_neg h)
  · have hz : nsz N = N.w.length + total N.w + N.l.length + N.c.length := rfl
    exact .inr ⟨left - (nsz N : Nat), szR_pos h, by omega, by omega, by omega, by omega, by omega, by omega⟩
end
end Go.Proofs.YtdcommmefehlgaaDoor
