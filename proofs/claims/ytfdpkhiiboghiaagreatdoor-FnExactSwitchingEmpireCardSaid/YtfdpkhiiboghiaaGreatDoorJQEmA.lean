/- The program's sets of links: union, intersection, setOf, meets, contains, links. The table of math/bits out of a row's list; a witness laid by a function. The parsing of a net in memory: its box; isFired, partOf, add, unite. The parsing of a net: fire. -/
import Derived.Test.YtfdpkhiiboghiaaGreatDoorJQSqM
import Derived.Test.YtfdpkhiiboghiaaGreatDoorShelfZ
import Derived.Laws.Bits64b
import Derived.Shelf.Spec.TrailingZeros
import Derived.Deep.RegionHeldLaw
import Derived.Deep.DeepCutAuto
import Derived.BigQuiet
import Derived.Test.YtfdpkhiiboghiaaGreatDoorJQMath
import Derived.Lay
import Derived.Stop.Joined
import Derived.MakeChecks
import Derived.Deep.RegionWith
import Derived.Test.YtfdpkhiiboghiaaGreatDoorJPaM
import Derived.Maps.AppendAt
namespace Go.Proofs.YtfdpkhiiboghiaaGreatDoor
set_option linter.unusedSimpArgs false
set_option linter.unusedVariables false
section
set_option linter.unusedSimpArgs false
set_option linter.unusedVariables false
open Go.ChangeAt Go.ChangeShapes Go.RowKit Go.WideShapes

/-- The world holds the table of math/bits. -/
def Tz (w : World) : Prop := ∀ j, j < Lib.deBruijn64tab.length → w.cell? ⟨0, j, none⟩ = some (.int .u8 (Lib.deBruijn64tab.getD j 0))
theorem Tz.lt {w : World} (h : Tz w) : 0 < w.heap.size := World.block_lt_of_cell? w _ (h 0 (by decide))
theorem Tz.below {w w' : World} {B : Nat} (h : Tz w) (hb : Below B w w') (hB : 0 < B) : Tz w' := fun j hj => (hb.cell hB).trans (h j hj)
theorem tz_any (x : Nat) (hx : x < 18446744073709551616) (w : World) (hT : Tz w) :
    Calls Tryz.prog 134 #[.int .u64 x] w fun e w' => e = .returned (.int .i64 (Lib.ctz 64 x)) ∧ w' = w :=
  Any7.bits_TrailingZeros64 Tryz.tzL x hx w fun _ => hT
set_option maxHeartbeats 500000 in
theorem union_any (s t : Nat) (w : World) (hs : s < 18446744073709551616) (ht : t < 18446744073709551616) :
    Calls Tryz.prog 71 #[.int .u64 s, .int .u64 t] w fun e w' => e = .returned (.int .u64 ((s ||| t : Nat) : Int)) ∧ w = w' := by
  have hb := bits_or_u64_nat s t hs ht
  go_enter Tryz.func71, Tryz.ntmps71
  go_wp2
  go_ret
  exact ⟨rfl, rfl⟩
set_option maxHeartbeats 500000 in
theorem inter_any (s t : Nat) (w : World) (hs : s < 18446744073709551616) (ht : t < 18446744073709551616) :
    Calls Tryz.prog 69 #[.int .u64 s, .int .u64 t] w fun e w' => e = .returned (.int .u64 ((s &&& t : Nat) : Int)) ∧ w = w' := by
  have hb := bits_and_u64_nat s t hs ht
  go_enter Tryz.func69, Tryz.ntmps69
  go_wp2
  go_ret
  exact ⟨rfl, rfl⟩
set_option maxHeartbeats 500000 in
theorem meetsS_any (s t : Nat) (w : World) (hs : s < 18446744073709551616) (ht : t < 18446744073709551616) :
    Calls Tryz.prog 130 #[.int .u64 s, .int .u64 t] w fun e w' => e = .returned (.bool (!decide (s &&& t = 0))) ∧ w = w' := by
  have HI := Lib.hid (fun wx => inter_any s t wx hs ht)
  have hb : (((s &&& t : Nat) : Int) != 0) = !decide (s &&& t = 0) := by
    rw [Bool.eq_iff_iff, Bool.not_eq_true', decide_eq_false_iff_not, bne_iff_ne]; omega
  clear hs ht
  generalize s &&& t = q at *
  go_enter Tryz.func130, Tryz.ntmps130
  go_wp2_with (fail)
  refine (HI.out _).mono ?_
  rintro e w1 ⟨rfl, rfl⟩
  go_wp2
  go_ret
  exact ⟨rfl, rfl⟩
theorem pow_u64 {k : Nat} (h : k < 64) : IntKind.u64.wrap ((2 : Int) ^ k) = ((2 ^ k : Nat) : Int) := by
  have h1 : (2 ^ k : Nat) < 2 ^ 64 := Nat.pow_lt_pow_right (by decide) h
  have h2 : ((2 : Int) ^ k) = ((2 ^ k : Nat) : Int) := by simp
  rw [h2]
  generalize 2 ^ k = M at *
  rw [IntKind.wrap_u64]; omega
theorem shB_nat {k : Nat} (h : k < 64) : shB (k : Int) = 2 ^ k := by
  unfold shB; rw [if_pos (by omega), Int.toNat_natCast]
theorem shB_neg : shB (-1) = 0 := rfl
theorem ret_u64 {a b : Nat} (h : a = b) : Ending.returned (.int .u64 (a : Int)) = Ending.returned (.int .u64 (b : Int)) := by rw [h]
set_option maxRecDepth 100000 in
set_option maxHeartbeats 500000 in
theorem setOf_any (A : Option Addr) (c : Nat) (ks : List Int) (w : World) (r : RdI w w.heap.size A ks.length ks) (hl : ks.length ≤ 1048576) (hk : ∀ x ∈ ks, -1 ≤ x ∧ x ≤ 1048576) :
    Calls Tryz.prog 70 #[.slice A ks.length c] w fun e w' => e = .returned (.int .u64 ((orS ks : Nat) : Int)) ∧ w = w' := by
  have R := Lib.hid r; have HK := Lib.hid hk
  have HU := Lib.hid (fun (s t : Nat) (wx : World) (h1 : s < 18446744073709551616) (h2 : t < 18446744073709551616) => union_any s t wx h1 h2)
  have hz : ((orU ks 0 : Nat) : Int) = 0 := rfl
  have HZ := Lib.hid hz
  clear r hk hz
  go_enter Tryz.func70, Tryz.ntmps70
  go_wp2
  go_loopw [3, 8] (fun v i wx => ∃ k : Nat, k ≤ ks.length ∧ i = .int .i64 k ∧ v = .int .u64 ((orU ks k : Nat) : Int) ∧ wx = w) (fun _ i _ => ks.length - (intOf i).toNat)
  case atStart => exact ⟨0, Nat.zero_le _, rfl, by rw [HZ.out], rfl⟩
  case round =>
    obtain ⟨k, hk, rfl, rfl, rfl⟩ := hrel
    by_cases hlt : k < ks.length
    · obtain ⟨b, off, rfl, hbb, hcells⟩ := R.out.2 (by omega)
      have x0 := hcells k hlt
      have hx := HK.out _ (getL_mem (d := (0 : Int)) hlt)
      have HS := Lib.hid (orU_succ hlt)
      have HL1 := Lib.hid (show orU ks k < 18446744073709551616 from orU_lt ks k)
      have HL2 := Lib.hid (show shB (ks.getD k 0) < 18446744073709551616 from shB_lt _)
      have hln : (ks.length : Int) ≤ 1048576 := by omega
      clear hcells
      generalize ks.getD k 0 = x at *
      generalize orU ks k = s at *
      obtain ⟨q, hq⟩ : ∃ q, q = s ||| shB x := ⟨_, rfl⟩
      have HQ := Lib.hid (HS.out.trans hq.symm)
      have HUU := Lib.hid (fun wx => HU.out s (shB x) wx HL1.out HL2.out)
      rw [← hq] at HUU
      clear hq HS HL1 HL2
      rcases (show x = -1 ∨ ∃ j : Nat, x = (j : Int) ∧ j ≤ 1048576 from by
        by_cases e : x = -1
        · exact .inl e
        · exact .inr ⟨x.toNat, by omega, by omega⟩) with hx1 | ⟨j, hx1, hj⟩
      · subst hx1
        rw [shB_neg] at HUU
        have hc : IntKind.u64.wrap (-1) = 18446744073709551615 := rfl
        have hs : IntKind.u64.wrap 18446744073709551616 = 0 := rfl
        go_wp2_with (fail)
        refine (HUU.out _).mono ?_
        rintro e w1 ⟨rfl, rfl⟩
        go_wp2
        go_roundw
        case rel => exact ⟨k + 1, by omega, by go_num, by rw [HQ.out], by first | rfl | trivial⟩
        case measure => simp [intOf]; omega
      · subst hx1
        have hc : IntKind.u64.wrap (j : Int) = (j : Int) := by rw [IntKind.wrap_u64]; omega
        by_cases hj64 : j < 64
        · rw [shB_nat hj64] at HUU
          have hs := pow_u64 hj64
          have hm : min j 64 = j := Nat.min_eq_left (by omega)
          go_wp2_with (fail)
          refine (HUU.out _).mono ?_
          rintro e w1 ⟨rfl, rfl⟩
          go_wp2
          go_roundw
          case rel => exact ⟨k + 1, by omega, by go_num, by rw [HQ.out], by first | rfl | trivial⟩
          case measure => simp [intOf]; omega
        · have hz : shB (j : Int) = 0 := by unfold shB; rw [if_neg (by omega)]
          rw [hz] at HUU
          have hs : IntKind.u64.wrap 18446744073709551616 = 0 := rfl
          have hm : min j 64 = 64 := Nat.min_eq_right (by omega)
          go_wp2_with (fail)
          refine (HUU.out _).mono ?_
          rintro e w1 ⟨rfl, rfl⟩
          go_wp2
          go_roundw
          case rel => exact ⟨k + 1, by omega, by go_num, by rw [HQ.out], by first | rfl | trivial⟩
          case measure => simp [intOf]; omega
    · have hkk : k = ks.length := by omega
      subst hkk
      have HE := Lib.hid (orU_end ks)
      go_wp2
      go_ret
      exact ⟨ret_u64 HE.out, rfl⟩
/-- A set without its lowest bit, as the program makes it. -/
theorem low_u64 {s j t : Nat} (h : lftS s j ≠ 0) (hs : s < 18446744073709551616) (ht : lftS s j &&& (lftS s j - 1) = lftS s t) : IntKind.u64.wrap (((lftS s j : Nat) : Int) - 1) = ((lftS s j - 1 : Nat) : Int) ∧ bits .and .u64 ((lftS s j : Nat) : Int) ((lftS s j - 1 : Nat) : Int) = ((lftS s t : Nat) : Int) := by
  have := lftS_le s j
  refine ⟨by rw [IntKind.wrap_u64]; omega, ?_⟩
  rw [bits_and_u64_nat _ _ (by omega) (by omega), ht]
set_option maxRecDepth 100000 in
set_option maxHeartbeats 600000 in
theorem links_any (s : Nat) (w : World) (hs : s < 18446744073709551616) (hT : Tz w) :
    Calls Tryz.prog 85 #[.int .u64 s] w (Gives w (lkS s)) := by
  obtain ⟨i0, hi0, hz0, hz1, hz2⟩ := info_parts info_i64
  have HI := Lib.hid hi0; have HZ0 := Lib.hid hz0; have HZ1 := Lib.hid hz1; have HZ2 := Lib.hid hz2
  have HT := Lib.hid (fun (x : Nat) (hx : x < 18446744073709551616) (wx : World) (hb : Below w.heap.size w wx) => tz_any x hx wx (hT.below hb hT.lt))
  have HZ : Hid (((s : Nat) : Int) = ((lftS s 0 : Nat) : Int)) := Lib.hid (by rw [lftS_zero])
  have hc : IntKind.u64.wrap ((s : Nat) : Int) = ((s : Nat) : Int) := by rw [IntKind.wrap_u64]; omega
  clear hi0 hz0 hz1 hz2 hT
  go_enter Tryz.func85, Tryz.ntmps85
  go_wp2
  go_loopw [3, 4] (fun v i wx => ∃ j : Nat, j ≤ 64 ∧ i = .int .u64 ((lftS s j : Nat) : Int) ∧ wx.ownsRow w.heap.size 2 1 v (selU s.testBit j).length ((selU s.testBit j).map (Value.int .i64)) ∧ Below w.heap.size w wx) (fun _ i _ => (intOf i).toNat)
  case atStart => exact ⟨0, by omega, by rw [HZ.out], World.ownsRow_nil _ _ _ _, Below.refl _ _⟩
  case round =>
    obtain ⟨j, hj, rfl, hO, hB⟩ := hrel
    have hle := lftS_le s j
    by_cases h0 : lftS s j = 0
    · have HE := Lib.hid (lft_done h0 hs hj)
      rw [h0]
      obtain ⟨A, c, rfl⟩ := own_shape hO
      have HG : Hid (Gives w (lkS s) (.returned (.slice A (selU s.testBit j).length c)) wr) := Lib.hid (by
        have e : lkS s = selU s.testBit j := HE.out.symm
        rw [e]; exact ⟨A, c, rfl, hO, hB⟩)
      clear hO hB hle h0
      go_wp2
      go_ret
      exact HG.out
    · obtain ⟨t, ht, hjt, ht64, hsel, hlow⟩ := lft_step h0 hs
      have HTZ := Lib.hid (HT.out (lftS s j) (by omega) wr hB)
      rw [ht] at HTZ
      obtain ⟨q1, q2⟩ := low_u64 h0 hs hlow
      have hne : (((lftS s j : Nat) : Int) != 0) = true := by simp; omega
      have HSEL := Lib.hid hsel
      have HLE : Hid (lftS s (t + 1) < lftS s j) := Lib.hid (by
        have := hlow
        have h2 : lftS s j &&& (lftS s j - 1) ≤ lftS s j - 1 := Nat.and_le_right
        omega)
      have hln := selU_len s.testBit j
      have HO := Lib.hid hO; have HB := Lib.hid hB
      have hsz1 := hB.size
      clear hO hB hlow hsel ht
      obtain ⟨L, hL⟩ : ∃ L, selU s.testBit j = L := ⟨_, rfl⟩
      rw [hL] at HO HSEL hln
      clear hL
      generalize lftS s j - 1 = u at *
      obtain ⟨y, hy⟩ : ∃ y, lftS s (t + 1) = y := ⟨_, rfl⟩
      rw [hy] at q2 HLE
      have HY := Lib.hid hy
      clear hy
      generalize lftS s j = x at *
      go_wp2_with (fail)
      refine HTZ.out.mono ?_
      rintro e w1 ⟨rfl, hw1⟩
      subst hw1
      go_wp2_with (at_builtin; refine wpList_append_own _ rfl _ _ 24 rfl w.heap.size 2 i0 (.int .i64 0) 1 8 Tryz.underlying24 HI.out HZ0.out HZ1.out HZ2.out rfl (by decide) _ _ _ rfl (HO.out.alloc _) ⟨w1.heap.size, 0, none⟩ 1 1 [.int .i64 t] rfl rfl ?c1 ?c2 ?c3 ?c4 ?c5 ?_)
      case c1 => exact cell_one_new _ _ _
      case c2 => intro u hu; simp at hu; subst hu; rfl
      case c3 => unfold maxLen; omega
      case c4 => omega
      case c5 => simp; omega
      intro v' w2 hown' hgrow _
      have hb2 := Lib.hid ((HB.out.alloc hsz1 (.cells #[.int .i64 t] 2)).grown hgrow (by simp; omega) (fun q hq => (HO.out.lt q hq).1))
      have hown2 : w2.ownsRow w.heap.size 2 1 v' (selU s.testBit (t + 1)).length ((selU s.testBit (t + 1)).map (Value.int .i64)) := by
        rw [HSEL.out, List.length_append, List.map_append]; exact hown'
      have hown1 := Lib.hid hown2
      clear hown' hgrow hown2 hsz1
      go_wp2
      go_roundw
      case rel => exact ⟨t + 1, by omega, by rw [HY.out], hown1.out, hb2.out⟩
      case measure => have := HLE.out; simp [intOf]; omega
end
section
set_option linter.unusedSimpArgs false
set_option linter.unusedVariables false
open Go.ChangeShapes Go.WideShapes Go.ChangeAt Go.RowKit

def tzTab : List Int := Lib.deBruijn64tab.map fun n : Nat => (n : Int)
theorem gTz : Tryz.prog.globalNamed "math/bits.deBruijn64tab" = some 0 := by kernel_rfl
theorem gTzType : (Tryz.prog.globals[0]?).map (·.type) = some 155 := by kernel_rfl
theorem cellsTz : Tryz.prog.cellsOf 155 = 64 := by kernel_rfl
theorem cellsU8z : Tryz.prog.cellsOf 5 = 1 := by kernel_rfl
/-- What a row's list gives: the table of math/bits. -/
theorem tz_of {W : World} {rest : List (String × DataW Unit)} (h : laidMet Tryz.prog (("math/bits.deBruijn64tab", Lib.tabData .u8 tzTab) :: rest) W) : Tz W := by
  have ht : Lib.TabIs Tryz.prog W "math/bits.deBruijn64tab" .u8 tzTab := Lib.tabIs_of_head gTz gTzType Tryz.underlying155 Tryz.underlying5 cellsU8z cellsTz h
  intro j hj
  have h2 := ht.cell gTz j (by simpa [tzTab] using hj)
  rw [h2]
  simp [tzTab, List.getD, List.getElem?_map, hj]
theorem witness_row_sh {H : Type} {enc : TypeId × Value → H} {C : Checked} {os : Os} {f : FuncId} {fn : Func} {s : OpenSpec} {conds : List PathCond} {apart : Bool} {laid : List (String × DataW Unit)} (modest : Bool) (w0 : World) (args : Array Value) (hos : w0.os = os)
    (hsh : (w0.forCall (fun _ _ => 0) ⟨#[], args, []⟩).Shaped C.prog)
    (hok : Input.okWideB C.prog (w0.forCall (fun _ _ => 0) ⟨#[], args, []⟩) f ⟨#[], args, []⟩ = true)
    (hrow : s.preRow enc C.prog fn conds apart laid (w0.forCall (fun _ _ => 0) ⟨#[], args, []⟩).memory args) :
    ∃ (w : World) (tape : Tape) (i : Input), w.os = os ∧ (w.forCall tape i).Shaped C.prog ∧ i.vars = [] ∧ Input.okWide C.prog (w.forCall tape i) .any w.heap.size f i ∧
      s.preRow enc C.prog fn conds apart laid (w.forCall tape i).memory i.args ∧ ({ modest := modest } : Assume).holds C.prog (lone (Frame.enter C.prog f i.args .normal) [] (w.forCall tape i)) :=
  ⟨w0, fun _ _ => 0, ⟨#[], args, []⟩, hos, hsh, (Input.okWide_of_okWideB (base := 0) hok).1, (Input.okWide_of_okWideB hok).2, hrow, by
    simp only [Assume.holds]
    exact ⟨by simp, by simp, fun _ => Modest.zero, by simp, by simp⟩⟩
end
section
set_option linter.unusedSimpArgs false
set_option linter.unusedVariables false
open Go.ChangeAt Go.ChangeShapes Go.RowKit Go.WideShapes

/-- The cells of a parsing. -/
def pzA (X Y Z : Value) (T : List Int) (c : Int) (F : Value) : Array Value := (X :: Y :: Z :: (T.map (Value.int .i64) ++ [.int .i64 c, F])).toArray
section
variable {X Y Z F : Value} {T : List Int} {c : Int}
theorem pzA_tab {k : Nat} (hT : T.length = 48) (hk : k < 48) : (pzA X Y Z T c F)[3 + k]? = some (.int .i64 (T.getD k 0)) := by
  have e : 3 + k = k + 1 + 1 + 1 := by omega
  have hk2 : k < T.length := by omega
  simp [pzA, e, List.getElem?_append, hT, hk, hk2, List.getD]
theorem pzA_cnt (hT : T.length = 48) : (pzA X Y Z T c F)[51]? = some (.int .i64 c) := by simp [pzA, List.getElem?_append, hT]
theorem pzA_row (hT : T.length = 48) : (pzA X Y Z T c F)[52]? = some F := by simp [pzA, List.getElem?_append, hT]
theorem pzA_setT {k : Nat} (hT : T.length = 48) (hk : k < 48) (v : Int) : (pzA X Y Z T c F).setIfInBounds (3 + k) (.int .i64 v) = pzA X Y Z (T.set k v) c F := by
  have e : 3 + k = k + 1 + 1 + 1 := by omega
  unfold pzA
  rw [List.setIfInBounds_toArray, e]
  simp only [List.set_cons_succ]
  rw [List.set_append_left _ _ (by rw [List.length_map]; omega), List.map_set]
theorem pzA_setC (hT : T.length = 48) (v : Int) : (pzA X Y Z T c F).setIfInBounds 51 (.int .i64 v) = pzA X Y Z T v F := by
  unfold pzA
  rw [List.setIfInBounds_toArray, show 51 = 48 + 1 + 1 + 1 by omega]
  simp only [List.set_cons_succ]
  rw [List.set_append_right _ _ (by rw [List.length_map]; omega), List.length_map, hT]
  simp
theorem pzA_setF (hT : T.length = 48) (v : Value) : (pzA X Y Z T c F).setIfInBounds 52 v = pzA X Y Z T c v := by
  unfold pzA
  rw [List.setIfInBounds_toArray, show 52 = 49 + 1 + 1 + 1 by omega]
  simp only [List.set_cons_succ]
  rw [List.set_append_right _ _ (by rw [List.length_map]; omega), List.length_map, hT]
  simp
end
/-- The parsing in block g. -/
def PzB (w : World) (g : Nat) (X Y Z : Value) (T : List Int) (c : Int) (F : Value) : Prop := w.heap[g]? = some (.cells (pzA X Y Z T c F) 153 (0, 0))
section
variable {w w' : World} {g : Nat} {X Y Z F : Value} {T : List Int} {c : Int}
theorem PzB.lt (h : PzB w g X Y Z T c F) : g < w.heap.size := (Array.getElem?_eq_some_iff.1 h).1
theorem PzB.keep (h : PzB w g X Y Z T c F) (hb : w'.heap[g]? = w.heap[g]?) : PzB w' g X Y Z T c F := hb.trans h
theorem PzB.three (h : PzB w g X Y Z T c F) : w.cell? ⟨g, 0, none⟩ = some X ∧ w.cell? ⟨g, 1, none⟩ = some Y ∧ w.cell? ⟨g, 2, none⟩ = some Z :=
  ⟨cell_of_row _ _ 0 _ _ (0, 0) h, cell_of_row _ _ 1 _ _ (0, 0) h, cell_of_row _ _ 2 _ _ (0, 0) h⟩
theorem PzB.tab (h : PzB w g X Y Z T c F) (hT : T.length = 48) {k : Nat} (hk : k < 48) : w.cell? ⟨g, 3 + k, none⟩ = some (.int .i64 (T.getD k 0)) := (cell_of_row _ _ _ _ _ (0, 0) h).trans (pzA_tab hT hk)
theorem PzB.cnt (h : PzB w g X Y Z T c F) (hT : T.length = 48) : w.cell? ⟨g, 51, none⟩ = some (.int .i64 c) := (cell_of_row _ _ _ _ _ (0, 0) h).trans (pzA_cnt hT)
theorem PzB.row (h : PzB w g X Y Z T c F) (hT : T.length = 48) : w.cell? ⟨g, 52, none⟩ = some F := (cell_of_row _ _ _ _ _ (0, 0) h).trans (pzA_row hT)
theorem PzB.frozen (h : PzB w g X Y Z T c F) (i : Nat) : w.frozen? ⟨g, i, none⟩ = false := frozen_of_row _ _ i _ _ h
theorem PzB.setT (h : PzB w g X Y Z T c F) (hT : T.length = 48) {k : Nat} (hk : k < 48) (v : Int) : PzB (w.setCell ⟨g, 3 + k, none⟩ (.int .i64 v)) g X Y Z (T.set k v) c F := by
  have := heap_setCell_same w g (3 + k) _ _ (.int .i64 v) h
  rw [pzA_setT hT hk] at this; exact this
theorem PzB.setC (h : PzB w g X Y Z T c F) (hT : T.length = 48) (v : Int) : PzB (w.setCell ⟨g, 51, none⟩ (.int .i64 v)) g X Y Z T v F := by
  have := heap_setCell_same w g 51 _ _ (.int .i64 v) h
  rw [pzA_setC hT] at this; exact this
theorem PzB.setF (h : PzB w g X Y Z T c F) (hT : T.length = 48) (v : Value) : PzB (w.setCell ⟨g, 52, none⟩ v) g X Y Z T c v := by
  have := heap_setCell_same w g 52 _ _ v h
  rw [pzA_setF hT] at this; exact this
end
theorem kept_set (w : World) (g i : Nat) (v : Value) : KeptS (fun k => k = g) w (w.setCell ⟨g, i, none⟩ v) :=
  KeptS.mk rfl rfl rfl ((Below.refl g w).setCell (p := ⟨g, i, none⟩) (Nat.le_refl _) _).size fun p _ hp => Below.heap_setCell _ _ _ _ hp
/-- isFired, at a table that lies at some place. -/
theorem isFired_any (g o : Nat) (v : Int) (k : Nat) (w : World) (x0 : w.cell? ⟨g, o + k, none⟩ = some (.int .i64 v)) (hk : k < 48) :
    Calls Tryz.prog 176 #[.pointer (some ⟨g, o, none⟩), .int .i64 k] w fun e w' => e = .returned (.bool (v != -1)) ∧ w = w' := by
  have hi : (k : Int) < 48 := by omega
  clear hk
  go_enter Tryz.func176, Tryz.ntmps176
  go_wp2
  go_ret
  exact ⟨rfl, rfl⟩
set_option maxRecDepth 100000 in
set_option maxHeartbeats 1000000 in
/-- partOf: the part of a link. -/
theorem partOf_any (g : Nat) (X Y Z F : Value) (T : List Int) (c : Int) (Q : Nat → Int) (k : Nat) (w : World) (hP : PzB w g X Y Z T c F) (U : Uf T Q) (hk : k < 48) :
    Calls Tryz.prog 145 #[.pointer (some ⟨g, 3, none⟩), .int .i64 k] w fun e w' => e = .returned (.int .i64 (Q k)) ∧ w = w' := by
  have HT := Lib.hid (fun (j : Nat) (hj : j < 48) => hP.tab U.len hj)
  have HU := Lib.hid U
  clear hP U
  go_enter Tryz.func145, Tryz.ntmps145
  go_wp2
  go_loopw [1] (fun i wr => ∃ j : Nat, j < 48 ∧ i = .int .i64 j ∧ Q j = Q k ∧ w = wr) (fun i _ => (intOf i).toNat)
  case atStart => exact ⟨k, hk, rfl, rfl, rfl⟩
  case round =>
    obtain ⟨j, hj, rfl, hq, rfl⟩ := hrel
    have x0 := HT.out j hj
    have hi : (j : Int) < 48 := by omega
    by_cases hm : Q j = -1
    · rw [HU.out.out j hj hm] at x0
      have HE : Hid ((-1 : Int) = Q k) := Lib.hid (hm.symm.trans hq)
      clear hm hq
      go_wp2_with (fail)
      refine (isFired_any _ 3 (-1) j _ x0 hj).mono ?_
      rintro e w1 ⟨rfl, rfl⟩
      have d1 : ((-1 : Int) != -1) = false := rfl
      rw [d1]
      go_wp2
      go_ret
      exact ⟨ret_i64 HE.out, rfl⟩
    · obtain ⟨i, i1, i2, i3, i4⟩ := HU.out.inn j hj hm
      rw [i1] at x0
      have d1 : ((i : Int) != -1) = true := by simp
      have HF := Lib.hid (isFired_any g 3 (i : Int) j w x0 hj)
      by_cases hij : i = j
      · subst hij
        have d2 : ((i : Int) != (i : Int)) = false := by simp
        have HE : Hid ((i : Int) = Q k) := Lib.hid ((i4 rfl).symm.trans hq)
        clear hm hq i1 i2 i3 i4
        go_wp2_with (fail)
        refine HF.out.mono ?_
        rintro e w1 ⟨rfl, rfl⟩
        rw [d1]
        go_wp2
        go_ret
        exact ⟨ret_i64 HE.out, rfl⟩
      · have d2 : ((i : Int) != (j : Int)) = true := by simp; omega
        have HQ : Hid (Q i = Q k) := Lib.hid (i3.trans hq)
        clear hm hq i1 i3 i4
        go_wp2_with (fail)
        refine HF.out.mono ?_
        rintro e w1 ⟨rfl, rfl⟩
        rw [d1]
        go_wp2
        go_roundw
        case rel => exact ⟨i, by omega, rfl, HQ.out, by first | rfl | trivial⟩
        case measure => simp [intOf]; omega
set_option maxHeartbeats 1000000 in
/-- add: a link becomes a part of its own. -/
theorem addL_any (g : Nat) (X Y Z F : Value) (T : List Int) (c : Int) (f : Nat) (w : World) (hP : PzB w g X Y Z T c F) (hT : T.length = 48) (hf : f < 48) (hc : 0 ≤ c ∧ c ≤ 48) :
    Calls Tryz.prog 174 #[.pointer (some ⟨g, 3, none⟩), .int .i64 f] w fun e w' => e = .returned (.tuple #[]) ∧ PzB w' g X Y Z (T.set f (f : Int)) (c + 1) F ∧ KeptS (fun k => k = g) w w' := by
  have x0 := hP.tab hT hf
  have f0 := hP.frozen (3 + f)
  have hi : (f : Int) < 48 := by omega
  have h1 := hP.setT hT hf (f : Int)
  have hT1 : (T.set f (f : Int)).length = 48 := by rw [List.length_set]; exact hT
  have x1 := h1.cnt hT1
  have f1 := h1.frozen 51
  have hw : IntKind.i64.wrap (c + 1) = c + 1 := IntWalk.i64_in _ (by omega)
  have H2 := Lib.hid (h1.setC hT1 (c + 1))
  have HK := Lib.hid ((kept_set w g (3 + f) (.int .i64 (f : Int))).trans (kept_set (w.setCell ⟨g, 3 + f, none⟩ (.int .i64 (f : Int))) g 51 (.int .i64 (c + 1))))
  clear hP hT h1 hT1 hc
  generalize T.getD f 0 = v at x0
  go_enter Tryz.func174, Tryz.ntmps174
  go_wp2
  refine bodyPost_end (results_none rfl _ _ _) rfl ?_
  exact ⟨rfl, H2.out, HK.out⟩
theorem uniQ_same {Q : Nat → Int} {a b : Nat} (h : Q a = Q b) : uniQ Q a b = Q := by
  funext k
  unfold uniQ
  rw [h, Int.max_self, Int.min_self]
  split
  · omega
  · rfl
theorem quiet_sm {P : Program} {f : FuncId} {args : Array Value} {w : World} {n : Nat} {v : Value} (h : Calls P f args (w.drewN n) fun e w' => e = .returned v ∧ w.drewN n = w') :
    Calls P f args (w.drewN n) fun e w'' => e = .returned v ∧ ∃ m, w'' = w.drewN m := h.mono fun _ _ ⟨he, hm⟩ => ⟨he, n, hm.symm⟩
theorem PzB.drew {w : World} {g : Nat} {X Y Z F : Value} {T : List Int} {c : Int} (h : PzB w g X Y Z T c F) (n : Nat) : PzB (w.drewN n) g X Y Z T c F := h
set_option maxRecDepth 100000 in
set_option maxHeartbeats 1000000 in
/-- unite: the parts of two links become one. -/
theorem unite_any (g : Nat) (X Y Z F : Value) (T : List Int) (Q : Nat → Int) (a b : Nat) (w : World) (hP : PzB w g X Y Z T (cntQ Q) F) (U : Uf T Q) (ha : a < 48) (hb : b < 48) (hqa : Q a ≠ -1) (hqb : Q b ≠ -1) :
    Calls Tryz.prog 175 #[.pointer (some ⟨g, 3, none⟩), .int .i64 a, .int .i64 b] w fun e w' => e = .returned (.tuple #[]) ∧ ∃ T', PzB w' g X Y Z T' (cntQ (uniQ Q a b)) F ∧ Uf T' (uniQ Q a b) ∧ KeptS (fun k => k = g) w w' := by
  have HA := Lib.hid (fun n => quiet_sm (partOf_any g X Y Z F T (cntQ Q) Q a (w.drewN n) (hP.drew n) U ha))
  have HB := Lib.hid (fun n => quiet_sm (partOf_any g X Y Z F T (cntQ Q) Q b (w.drewN n) (hP.drew n) U hb))
  have HKN := Lib.hid (fun n => KeptS.of_below (S := fun k => k = g) (below_drewN (Below.refl w.heap.size w) n))
  have HP := Lib.hid hP
  have hpn : ∀ k, Q k ≠ -1 → ∃ r : Nat, Q k = (r : Int) ∧ (k < 48 → r < 48) := fun k hk => by
    rcases U.rep k with e | ⟨r, r1, r2, _⟩
    · exact absurd e hk
    · exact ⟨r, r1, fun h => by omega⟩
  by_cases he : Q a = Q b
  · have d1 : (Q a == Q b) = true := by simpa using he
    have HE : Hid (∀ w', PzB w' g X Y Z T (cntQ Q) F → KeptS (fun k => k = g) w w' → ∃ T', PzB w' g X Y Z T' (cntQ (uniQ Q a b)) F ∧ Uf T' (uniQ Q a b) ∧ KeptS (fun k => k = g) w w') := Lib.hid fun w' h1 h2 => ⟨T, by rw [uniQ_same he]; exact h1, by rw [uniQ_same he]; exact U, h2⟩
    clear hP U hqa hqb he hpn
    generalize Q a = A at d1 HA
    generalize Q b = B at d1 HB
    go_enter Tryz.func175, Tryz.ntmps175
    go_upto_region 0 with (fail)
    go_quiet (first | (go_at_call 145; first | with_reducible exact HA.out _ | with_reducible exact HB.out _))
    have HEE := Lib.hid (HE.out _ (HP.out.drew nq) (HKN.out nq))
    go_wp2
    first | refine bodyPost_ret (results_none rfl _ _ _) rfl ?_ | refine bodyPost_end (results_none rfl _ _ _) rfl ?_
    exact ⟨rfl, HEE.out⟩
  · have d1 : (Q a == Q b) = false := by simpa using he
    obtain ⟨p, hp, hp8⟩ := hpn a hqa
    obtain ⟨q, hq, hq8⟩ := hpn b hqb
    have hU := U.unite hqa hqb ha hb he
    obtain ⟨m, n, hmx, hmn, hm8⟩ : ∃ m n : Nat, max (Q a) (Q b) = (m : Int) ∧ min (Q a) (Q b) = (n : Int) ∧ m < 48 := ⟨max p q, min p q, by omega, by omega, by have := hp8 ha; have := hq8 hb; omega⟩
    rw [hmx, hmn, Int.toNat_natCast] at hU
    have hT := U.len
    have hT1 : (T.set m (n : Int)).length = 48 := by rw [List.length_set]; exact hT
    have hcb := cntQ_le Q
    have hwr : IntKind.i64.wrap (cntQ Q - 1) = cntQ Q - 1 := IntWalk.i64_in _ (by omega)
    have HX0 := Lib.hid (fun k => (hP.drew k).tab hT hm8)
    have HF0 := Lib.hid (fun k => (hP.drew k).frozen (3 + m))
    have HX1 := Lib.hid (fun k => ((hP.drew k).setT hT hm8 (n : Int)).cnt hT1)
    have HF1 := Lib.hid (fun k => ((hP.drew k).setT hT hm8 (n : Int)).frozen 51)
    have HE : Hid (∀ k, ∃ T', PzB (((w.drewN k).setCell ⟨g, 3 + m, none⟩ (.int .i64 n)).setCell ⟨g, 51, none⟩ (.int .i64 (cntQ Q - 1))) g X Y Z T' (cntQ (uniQ Q a b)) F ∧ Uf T' (uniQ Q a b) ∧ KeptS (fun k => k = g) w (((w.drewN k).setCell ⟨g, 3 + m, none⟩ (.int .i64 n)).setCell ⟨g, 51, none⟩ (.int .i64 (cntQ Q - 1)))) := Lib.hid fun k =>
      ⟨T.set m (n : Int), by rw [hU.2]; exact ((hP.drew k).setT hT hm8 (n : Int)).setC hT1 (cntQ Q - 1), hU.1, ((HKN.out k).trans (kept_set _ _ _ _)).trans (kept_set _ _ _ _)⟩
    have hmi : (m : Int) < 48 := by omega
    clear hP U hqa hqb he hpn hp hp8 hq hq8 hU hT hT1 hcb HP HKN
    generalize T.getD m 0 = tm at HX0
    generalize uniQ Q a b = Q2 at *
    generalize cntQ Q = c at *
    generalize Q a = A at *
    generalize Q b = B at *
    go_enter Tryz.func175, Tryz.ntmps175
    go_upto_region 0 with (fail)
    go_quiet (first | (go_at_call 145; first | with_reducible exact HA.out _ | with_reducible exact HB.out _))
    have x0 := HX0.out nq
    have f0 := HF0.out nq
    have x1 := HX1.out nq
    have f1 := HF1.out nq
    have HEE := Lib.hid (HE.out nq)
    clear HX0 HF0 HX1 HF1 HE
    generalize w.drewN nq = w1 at *
    go_wp2
    refine bodyPost_end (results_none rfl _ _ _) rfl ?_
    exact ⟨rfl, HEE.out⟩
end
section
set_option linter.unusedSimpArgs false
set_option linter.unusedVariables false
open Go.ChangeAt Go.ChangeShapes Go.RowKit Go.WideShapes

/-- Where the rows of a parsing lie. -/
structure PzH where
  T : List Int
  P : Option Addr
  p : Nat
  C : Option Addr
  q : Nat
  A : Option Addr
  a : Nat
/-- The parsing of a net in block g, of which some links have been fired. -/
structure PzS (w : World) (g : Nat) (h : NH) (N : Nt) (fs : List Int) (r : PzH) : Prop where
  box : PzB w g (.slice h.L N.l.length h.d) (.slice r.P N.w.length r.p) (.slice r.C N.w.length r.q) r.T (cntQ (qN N fs)) (.slice r.A fs.length r.a)
  uf : Uf r.T (qN N fs)
  isf : isF N fs = true
  pro : RdI w g r.P N.w.length (lxL outL N)
  con : RdI w g r.C N.w.length (lxL inL N)
  lnk : RdL w g h.L N.l.length N.l
  own : w.ownsRow (g + 1) 2 1 (.slice r.A fs.length r.a) fs.length (fs.map (Value.int .i64))
section
variable {w w' : World} {g : Nat} {h : NH} {N : Nt} {fs : List Int} {r : PzH}
theorem PzS.lt (s : PzS w g h N fs r) : g < w.heap.size := s.box.lt
theorem PzS.below (s : PzS w g h N fs r) (hb : Below w.heap.size w w') : PzS w' g h N fs r := by
  have hg := s.lt
  have hb2 : Below g w w' := hb.mono (Nat.le_of_lt hg)
  exact ⟨s.box.keep (hb.block _ hg), s.uf, s.isf, s.pro.below hb2, s.con.below hb2, s.lnk.below hb2, own_same s.own fun k e => hb.block k (s.own.lt k e).2⟩
theorem PzS.ok (s : PzS w g h N fs r) : QOk N fs (qN N fs) := isF_ok s.isf
/-- The cells of a link, the producer and the consumer of a wire. -/
theorem PzS.link (s : PzS w g h N fs r) (hb : Below g w w') {k : Nat} (hk : k < N.l.length) : ∃ b off, h.L = some ⟨b, off, none⟩ ∧ w'.cell? ⟨b, off + k * 4, none⟩ = some (.int .i64 (N.l.getD k Lk.nil).k) ∧ w'.cell? ⟨b, off + k * 4 + 1, none⟩ = some (.int .i64 (N.l.getD k Lk.nil).a) ∧ w'.cell? ⟨b, off + k * 4 + 2, none⟩ = some (.int .i64 (N.l.getD k Lk.nil).b) ∧ w'.cell? ⟨b, off + k * 4 + 3, none⟩ = some (.int .i64 (N.l.getD k Lk.nil).c) := by
  obtain ⟨b, off, e, _, hc⟩ := (s.lnk.below hb).at (show 0 < N.l.length by omega)
  exact ⟨b, off, e, hc k hk⟩
theorem PzS.proAt (s : PzS w g h N fs r) (hb : Below g w w') {x : Nat} (hx : x < N.w.length) : ∃ b off, r.P = some ⟨b, off, none⟩ ∧ w'.cell? ⟨b, off + x, none⟩ = some (.int .i64 (lxN outL N (x : Int))) := by
  obtain ⟨b, off, e, _, hc⟩ := (s.pro.below hb).2 (show 0 < N.w.length by omega)
  have := hc x hx
  rw [lxL_at outL N hx] at this
  exact ⟨b, off, e, this⟩
theorem PzS.conAt (s : PzS w g h N fs r) (hb : Below g w w') {x : Nat} (hx : x < N.w.length) : ∃ b off, r.C = some ⟨b, off, none⟩ ∧ w'.cell? ⟨b, off + x, none⟩ = some (.int .i64 (lxN inL N (x : Int))) := by
  obtain ⟨b, off, e, _, hc⟩ := (s.con.below hb).2 (show 0 < N.w.length by omega)
  have := hc x hx
  rw [lxL_at inL N hx] at this
  exact ⟨b, off, e, this⟩
end
theorem own_shapeP {w : World} {base n : Nat} {e : TypeId} {v : Value} {xs : List Value} (h : w.ownsRow base e 1 v n xs) : ∃ A c, v = .slice A n c := by
  rcases h.2 with ⟨rfl, rfl⟩ | ⟨g, cap, cur, rfl, _, _, hn, _⟩
  · exact ⟨_, _, rfl⟩
  · exact ⟨_, _, rfl⟩
theorem kept_below {g : Nat} {w w' : World} (h : KeptS (fun k => k = g) w w') (hg : g < w.heap.size) : Below g w w' :=
  ⟨h.os, h.tape, h.output, h.size, fun k hk => h.block k (by omega) (by show ¬ k = g; omega)⟩
set_option maxRecDepth 100000 in
set_option maxHeartbeats 1000000 in
/-- fire: a link that is ready is fired. -/
theorem fire_any (h : NH) (N : Nt) (g f : Nat) (fs : List Int) (r : PzH) (w : World) (hv : valN N = true) (s : PzS w g h N fs r) (ho : okF N fs (f : Int) = true) :
    Calls Tryz.prog 165 #[.pointer (some ⟨g, 0, none⟩), .int .i64 f] w fun e w' => e = .returned (.tuple #[]) ∧ (∃ r', PzS w' g h N (fs ++ [(f : Int)]) r') ∧ Below g w w' := by
  obtain ⟨i0, hi0, hz0, hz1, hz2⟩ := info_parts info_i64
  obtain ⟨ho1, ho2, ho3⟩ := okF_yes ho
  have hfl := (inW_yes ho1).2.1
  rw [Int.toNat_natCast] at hfl ho3
  obtain ⟨h48, h48l⟩ := valN_size hv
  have hok := s.ok
  have hflen := hok.len
  have hg := s.lt
  have hT := s.uf.len
  have hf8 : f < 48 := by omega
  have hqf : qN N fs f = -1 := Decidable.byContradiction fun e => ho2 ((hok.mem f).1 e)
  have hadd := s.uf.add hf8 hqf
  have hcb := cntQ_le (qN N fs)
  -- what stands behind the append and its store
  have HAPP : Hid (∀ v' w2, w2.ownsRow (g + 1) 2 1 v' (fs.length + 1) (fs.map (Value.int .i64) ++ [.int .i64 f]) → (w.alloc (.cells #[.int .i64 f] 2)).grownBy w2 (Value.slice r.A fs.length r.a).ownBlock →
      ∃ A c, v' = .slice A (fs.length + 1) c ∧ PzB w2 g (.slice h.L N.l.length h.d) (.slice r.P N.w.length r.p) (.slice r.C N.w.length r.q) r.T (cntQ (qN N fs)) (.slice r.A fs.length r.a) ∧ Below g w w2) := Lib.hid fun v' w2 hown hgr => by
    obtain ⟨A, c, rfl⟩ := own_shapeP hown
    have hba : Below g w (w.alloc (.cells #[.int .i64 f] 2)) := (Below.refl _ _).alloc (Nat.le_of_lt hg) _
    have hba2 : Below w.heap.size w (w.alloc (.cells #[.int .i64 f] 2)) := (Below.refl _ _).alloc (Nat.le_refl _) _
    refine ⟨A, c, rfl, ?_, hba.grown hgr (Nat.le_trans (Nat.le_of_lt hg) hba.size) fun q hq => by have := (s.own.lt q hq).1; omega⟩
    refine s.box.keep ?_
    rw [hgr.block g (by simp; omega) fun e => by have := (s.own.lt _ e.symm).1; omega]
    exact hba2.block g hg
  have HADD : Hid (∀ w3 A c, PzB w3 g (.slice h.L N.l.length h.d) (.slice r.P N.w.length r.p) (.slice r.C N.w.length r.q) r.T (cntQ (qN N fs)) (.slice A (fs.length + 1) c) →
      Calls Tryz.prog 174 #[.pointer (some ⟨g, 3, none⟩), .int .i64 f] w3 fun e w' => e = .returned (.tuple #[]) ∧ PzB w' g (.slice h.L N.l.length h.d) (.slice r.P N.w.length r.p) (.slice r.C N.w.length r.q) (r.T.set f (f : Int)) (cntQ (fiQ N (qN N fs) f 0)) (.slice A (fs.length + 1) c) ∧ KeptS (fun k => k = g) w3 w') := Lib.hid fun w3 A c hP => by
    have := addL_any g _ _ _ _ r.T (cntQ (qN N fs)) f w3 hP hT hf8 hcb
    rw [← hadd.2] at this
    exact this
  have HU0 : Hid (Uf (r.T.set f (f : Int)) (fiQ N (qN N fs) f 0)) := Lib.hid hadd.1
  have x0 := s.box.row hT
  have f0 := s.box.frozen 52
  have HB52 := Lib.hid (fun (w2 : World) (A : Option Addr) (c : Nat) (hP : PzB w2 g (.slice h.L N.l.length h.d) (.slice r.P N.w.length r.p) (.slice r.C N.w.length r.q) r.T (cntQ (qN N fs)) (.slice r.A fs.length r.a)) => And.intro (hP.row hT) (And.intro (hP.frozen 52) (hP.setF hT (.slice A (fs.length + 1) c))))
  have HFG := Lib.hid (fun j hj => fi_ge hok ho3 j hj)
  have HALL := Lib.hid (fi_all hok ho2 ho3)
  have HLK := Lib.hid (fun (wx : World) (hx : Below g w wx) => s.link hx hfl)
  have HPR := Lib.hid (fun (wx : World) (hx : Below g w wx) (x : Nat) (hx2 : x < N.w.length) => s.proAt hx hx2)
  have HSN := Lib.hid (isF_snoc s.isf ho)
  have HQN := Lib.hid (qN_snoc N fs (f : Int))
  have HOWN := Lib.hid s.own
  have HPRO := Lib.hid (fun (wx : World) (hx : Below g w wx) => s.pro.below hx)
  have HCON := Lib.hid (fun (wx : World) (hx : Below g w wx) => s.con.below hx)
  have HLNK := Lib.hid (fun (wx : World) (hx : Below g w wx) => s.lnk.below hx)
  have HIN := Lib.hid (fun t (ht : t < (inL (N.l.getD f Lk.nil)).length) => (oneP_in hv).ins f hfl t ht)
  have HFR := Lib.hid (fun (x : Int) (hx : inW N.w.length x = true) => fr_lt hv hx)
  have hil := inL_len (N.l.getD f Lk.nil)
  have HI := Lib.hid hi0; have HZ0 := Lib.hid hz0; have HZ1 := Lib.hid hz1; have HZ2 := Lib.hid hz2
  have hgg := Nat.le_of_lt hg
  have HH48 := Lib.hid h48l
  have hfi : (f : Int) < (N.l.length : Int) := by omega
  clear hi0 hz0 hz1 hz2 s ho ho1 ho2 ho3 hok hT hqf hadd hcb hv h48
  go_enter Tryz.func165, Tryz.ntmps165
  go_wp2_with (at_builtin; refine wpList_append_own _ rfl _ _ 24 rfl (g + 1) 2 i0 (.int .i64 0) 1 8 Tryz.underlying24 HI.out HZ0.out HZ1.out HZ2.out rfl (by decide) _ _ _ rfl (HOWN.out.alloc _) ⟨w.heap.size, 0, none⟩ 1 1 [.int .i64 f] rfl rfl ?c1 ?c2 ?c3 ?c4 ?c5 ?_)
  case c1 => exact cell_one_new _ _ _
  case c2 => intro u hu; simp at hu; subst hu; rfl
  case c3 => unfold maxLen; omega
  case c4 => omega
  case c5 => simp; omega
  intro v' w2 hown' hgrow _
  obtain ⟨A2, c2, rfl, hP2, hB2⟩ := HAPP.out _ _ hown' hgrow
  obtain ⟨y0, z0, hP3⟩ := HB52.out w2 A2 c2 hP2
  obtain ⟨w3, hw3⟩ : ∃ w3, w3 = w2.setCell ⟨g, 52, none⟩ (.slice A2 (fs.length + 1) c2) := ⟨_, rfl⟩
  rw [← hw3] at hP3
  have hB3 : Below g w w3 := by rw [hw3]; exact hB2.setCell (p := ⟨g, 52, none⟩) (Nat.le_refl _) _
  have hO3 : w3.ownsRow (g + 1) 2 1 (.slice A2 (fs.length + 1) c2) (fs.length + 1) ((fs ++ [(f : Int)]).map (Value.int .i64)) := by
    rw [List.map_append, hw3]
    exact own_same hown' fun k e => heap_setCell_other _ _ _ _ (by show k ≠ g; have := (hown'.lt k e).1; omega)
  have HW3 := Lib.hid hw3; have HB3 := Lib.hid hB3; have HO3 := Lib.hid hO3; have HP3 := Lib.hid hP3
  clear hown' hgrow hP2 hB2 hw3 hB3 hO3 hP3 x0 f0
  go_wp2_with (fail)
  rw [← HW3.out]
  clear y0 z0 HW3
  refine (HADD.out w3 A2 c2 HP3.out).mono ?_
  rintro e w4 ⟨rfl, hP4, hK4⟩
  have hg3 := HP3.out.lt
  have HB4 := Lib.hid (HB3.out.trans (kept_below hK4 hg3))
  have HO4 : Hid (w4.ownsRow (g + 1) 2 1 (.slice A2 (fs.length + 1) c2) (fs.length + 1) ((fs ++ [(f : Int)]).map (Value.int .i64))) := Lib.hid (own_same HO3.out fun k e => hK4.block k (HO3.out.lt k e).2 (by have := (HO3.out.lt k e).1; show ¬ k = g; omega))
  have HP4 := Lib.hid hP4
  have hg4 := hP4.lt
  obtain ⟨x0, x1, x2⟩ := hP4.three
  obtain ⟨b, off, hA, l0, l1, l2, l3⟩ := HLK.out _ HB4.out
  clear hK4 hP4 HO3 HB3 HP3 hg3 x1 x2
  obtain ⟨⟨lk, la, lb, lc⟩, hl⟩ : ∃ l, N.l.getD f Lk.nil = l := ⟨_, rfl⟩
  rw [hl] at l0 l1 l2 l3 HFG HALL HIN hil
  have HL := Lib.hid hl
  dsimp only at l0 l1 l2 l3
  clear hl
  rw [hA] at x0
  go_wp2_with (fail)
  refine (show Calls Tryz.prog 122 #[.agg #[.int .i64 lk, .int .i64 la, .int .i64 lb, .int .i64 lc]] w4 (Gives w4 (inL ⟨lk, la, lb, lc⟩)) from inputsOf_any ⟨lk, la, lb, lc⟩ w4).mono ?_
  rintro e w5 ⟨A5, c5, rfl, o5, b5⟩
  have HB5 := Lib.hid (HB4.out.trans (b5.mono (show g ≤ w4.heap.size by omega)))
  have HO5 : Hid (w5.ownsRow (g + 1) 2 1 (.slice A2 (fs.length + 1) c2) (fs.length + 1) ((fs ++ [(f : Int)]).map (Value.int .i64))) := Lib.hid (own_below HO4.out b5 (Nat.le_refl _))
  have HP5 := Lib.hid (HP4.out.keep (b5.block _ hg4))
  have R5 := Lib.hid (RdI.of_own o5)
  have HLO := Lib.hid (fun b (e : Value.ownBlock (.slice A5 (inL ⟨lk, la, lb, lc⟩).length c5) = some b) => (o5.lt b e))
  have hsz5 := b5.size
  have HFI : Hid (∀ j, fiQ N (qN N fs) f (j + 1) = uniQ (fiQ N (qN N fs) f j) f (frN N ((inL ⟨lk, la, lb, lc⟩).getD j 0))) := Lib.hid fun j => by rw [← HL.out]; rfl
  clear o5 b5 HB4 HO4 HP4 l0 l1 l2 l3 x0
  generalize inL ⟨lk, la, lb, lc⟩ = X at *
  go_wp2
  go_loopw [30] (fun i wx => ∃ (j : Nat) (T' : List Int), j ≤ X.length ∧ i = .int .i64 j ∧ PzB wx g (.slice h.L N.l.length h.d) (.slice r.P N.w.length r.p) (.slice r.C N.w.length r.q) T' (cntQ (fiQ N (qN N fs) f j)) (.slice A2 (fs.length + 1) c2) ∧ Uf T' (fiQ N (qN N fs) f j) ∧ KeptS (fun k => k = g) w5 wx) (fun i _ => X.length - (intOf i).toNat)
  case atStart => exact ⟨0, _, Nat.zero_le _, rfl, HP5.out, HU0.out, KeptS.refl _ _⟩
  case round =>
    obtain ⟨j, T', hj, rfl, hP, hU, hK⟩ := hrel
    have HBX := Lib.hid (HB5.out.trans (kept_below hK HP5.out.lt))
    by_cases hlt : j < X.length
    · obtain ⟨bo, offo, rfl, hbo, hco⟩ := R5.out.2 (by omega)
      have hbl := (HLO.out bo rfl).1
      have hx0 : wr.cell? ⟨bo, offo + j, none⟩ = some (.int .i64 (X.getD j 0)) := (World.cell?_of_block (a := ⟨bo, offo + j, none⟩) (hK.block bo hbo (show ¬ bo = g by omega))).trans (hco j hlt)
      have hin := HIN.out j hlt
      obtain ⟨hg1, hg2⟩ := HFG.out j (by omega)
      have hg3 := hg2 j hlt
      have hfi := HFI.out j
      obtain ⟨hfr1, hfr2⟩ := HFR.out _ hin
      obtain ⟨z, hz⟩ : ∃ z, X.getD j 0 = z := ⟨_, rfl⟩
      rw [hz] at hx0 hin hg3 hfi hfr1 hfr2
      have hzl := (inW_yes hin).2.1
      have ez := (inW_yes hin).2.2
      obtain ⟨bp, offp, hPe, hpc⟩ := HPR.out _ HBX.out z.toNat hzl
      rw [← ez, hfr1] at hpc
      obtain ⟨m0, m1, m2⟩ := hP.three
      rw [hPe] at m1
      obtain ⟨Q, hQ⟩ : ∃ Q, fiQ N (qN N fs) f j = Q := ⟨_, rfl⟩
      rw [hQ] at hP hU hg1 hg3 hfi
      have hun := unite_any g _ _ _ _ T' Q f (frN N z) wr.drew (show PzB wr.drew _ _ _ _ _ _ _ from hP) hU hf8 (by have := HH48.out; omega) (by omega) (by omega)
      have hkd := hK.trans (KeptS.of_below (S := fun k => k = g) ((Below.refl wr.heap.size wr).drew))
      have HKD := Lib.hid hkd
      have HUN := Lib.hid hun
      have HFIJ := Lib.hid hfi
      have HKJ := Lib.hid hK
      clear hco hin hg2 hz hfr1 hP hU hun hfi m0 m2 hK hg1 hg3 hkd
      generalize hzn : z.toNat = iz at *
      subst ez
      have hzi : (iz : Int) < (N.w.length : Int) := by omega
      have HKX := Lib.hid HKD.out
      go_upto_region 5 with (fail)
      go_region_with (go_at_call 175; refine HUN.out.mono ?_; rintro e w6 ⟨rfl, hT6⟩; have HT6 := Lib.hid hT6; clear hT6)
      all_goals (obtain ⟨T6, hP6, hU6, hK6⟩ := HT6.out)
      all_goals (rw [← HFIJ.out] at hP6 hU6)
      all_goals (have HE := Lib.hid (And.intro hP6 (And.intro hU6 (HKX.out.trans hK6))); clear hP6 hU6 hK6)
      all_goals go_wp2
      all_goals go_roundw
      all_goals (first | exact ⟨j + 1, T6, by omega, by go_num, HE.out.1, HE.out.2.1, HE.out.2.2⟩ | (simp [intOf]; omega))
    · have hjl : j = X.length := by omega
      subst hjl
      rw [HALL.out] at hP hU
      have hqs := HQN.out
      rw [Int.toNat_natCast] at hqs
      rw [← hqs] at hP hU
      have HE : Hid (∃ r', PzS wr g h N (fs ++ [(f : Int)]) r') := Lib.hid ⟨⟨T', r.P, r.p, r.C, r.q, A2, c2⟩, by
        have hlen : (fs ++ [(f : Int)]).length = fs.length + 1 := by simp
        exact ⟨by rw [hlen]; exact hP, hU, HSN.out, HPRO.out _ HBX.out, HCON.out _ HBX.out, HLNK.out _ HBX.out, by rw [hlen]; exact own_same HO5.out fun k e => hK.block k (HO5.out.lt k e).2 (by have := (HO5.out.lt k e).1; show ¬ k = g; omega)⟩⟩
      clear hP hU hK hqs
      go_wp2
      refine bodyPost_end (results_none rfl _ _ _) rfl ?_
      exact ⟨rfl, HE.out, HBX.out⟩
end
end Go.Proofs.YtfdpkhiiboghiaaGreatDoor
