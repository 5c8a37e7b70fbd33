/- The model's draw of a formula is a formula. -/
import Derived.Test.YtdcommmefehlgaaDoorAny
import Derived.Test.YtdcommmefehlgaaDoorQPgI
import Derived.Deep.DeepCutAuto
namespace Go.Proofs.YtdcommmefehlgaaDoor
set_option linter.unusedSimpArgs false
set_option linter.unusedVariables false
open Go.RowKit

/-- A formula of any length. -/
def Wf (L : List Int) : Prop := scan L 1 0 = 0 + (L.length : Int)
theorem wf_leaf {r : Int} (h : arZ r = 0) : Wf [r] := by
  unfold Wf; rw [scan_end _ _ _ (by omega) (by omega)]; simp
theorem wf_one {op : Int} {a : List Int} (ho : arZ op = 1) (ha : Wf a) : Wf (op :: a) := by
  unfold Wf at *
  have h := scan_app a 1 0 (by omega) (by omega) ha [] 0 1 (by omega)
  rw [if_pos rfl, List.append_nil] at h
  rw [scan_on _ _ _ (by omega) (by omega), ho]
  simp only [List.length_cons]
  have e : (1 : Int) + 1 - 1 = 1 + 0 := by omega
  rw [e, Int.zero_add, h]
  omega
theorem wf_two {op : Int} {a b : List Int} (ho : arZ op = 2) (ha : Wf a) (hb : Wf b) : Wf (op :: (a ++ b)) := by
  unfold Wf at *
  have h1 := scan_app a 1 0 (by omega) (by omega) ha b 1 1 (by omega)
  have h2 := scan_app b 1 0 (by omega) (by omega) hb [] 0 (1 + (a.length : Int)) (by omega)
  rw [if_neg (by omega)] at h1
  rw [if_pos rfl, List.append_nil] at h2
  rw [scan_on _ _ _ (by omega) (by omega), ho]
  have e : (1 : Int) + 2 - 1 = 1 + 1 := by omega
  rw [e, Int.zero_add, h1]
  have e2 : (1 : Int) + 0 = 1 := by omega
  rw [e2] at h2
  rw [h2]
  simp only [List.length_cons, List.length_append]
  omega
theorem wf_valid {L : List Int} (h : Wf L) (h1 : 1 ≤ L.length) (h2 : L.length ≤ 24) : validB L = true := by
  unfold validB
  rw [feI_small h2]
  refine decide_eq_true ?_
  have := fe_nat (f := L) (a := 0) (by omega)
  rw [List.drop_zero] at this
  rw [show (0 : Int) = ((0 : Nat) : Int) from rfl, this]
  unfold Wf at h
  simpa using h

set_option maxHeartbeats 1000000 in
theorem drawAtomV_any (g n c : Nat) (A : Option Addr) (code : List Int) (w : World) (h : Src w g A n c code) :
    Calls Tryd.prog 100 #[.pointer (some ⟨g, 0, none⟩)] w fun e w' => ∃ r : Int, arZ r = 0 ∧ e = .returned (.int .i64 r) ∧ Src w' g A n c code ∧ w.grownBy w' (some g) := by
  go_enter Tryd.func100, Tryd.ntmps100
  go_wp2_with (fail)
  refine (pick_any g n c A code 3 w h (by omega) (by omega)).mono ?_
  rintro e w1 ⟨r1, p1, p2, rfl, S1, G1⟩
  go_wp2_with (fail)
  refine (pick_any g n c A code 2 w1 S1 (by omega) (by omega)).mono ?_
  rintro e w2 ⟨r2, q1, q2, rfl, S2, G2⟩
  have G3 := Lib.hid (grownBy_trans G1 G2)
  have HS := Lib.hid S2
  clear G1 G2 S1 S2
  by_cases h0 : r2 = 0
  · subst h0
    go_wp2
    go_ret
    exact ⟨_, arZ_leaf (leaf_iff.2 (by omega)), rfl, HS.out, G3.out⟩
  · have hne : (r2 == 0) = false := by simpa using h0
    clear h0
    go_wp2
    go_ret
    exact ⟨_, arZ_leaf (leaf_iff.2 (by omega)), rfl, HS.out, G3.out⟩

/-- The operators gathered so far: a short list in a row of the call's own. -/
def OpsV (w : World) (g : Nat) (A : Option Addr) (n c : Nat) (code : List Int) (L : List Int) (A' : Option Addr) (c' : Nat) (wx : World) : Prop :=
  (∀ z ∈ L, 11 ≤ z ∧ z ≤ 16 ∧ arZ z = 2) ∧ wx.ownsRow w.heap.size 2 1 (.slice A' L.length c') L.length (L.map (Value.int .i64)) ∧ Src wx g A n c code ∧ w.grownBy wx (some g) ∧ g < w.heap.size
theorem OpsV.own {w wx : World} {g n c c' : Nat} {A A' : Option Addr} {code L : List Int} (h : OpsV w g A n c code L A' c' wx) : wx.ownsRow w.heap.size 2 1 (.slice A' L.length c') L.length (L.map (Value.int .i64)) := h.2.1
theorem OpsV.src {w wx : World} {g n c c' : Nat} {A A' : Option Addr} {code L : List Int} (h : OpsV w g A n c code L A' c' wx) : Src wx g A n c code := h.2.2.1
theorem OpsV.grew {w wx : World} {g n c c' : Nat} {A A' : Option Addr} {code L : List Int} (h : OpsV w g A n c code L A' c' wx) : w.grownBy wx (some g) := h.2.2.2.1
theorem OpsV.start {w : World} {g n c : Nat} {A : Option Addr} {code : List Int} (h : Src w g A n c code) : OpsV w g A n c code [] (some ⟨w.heap.size, 0, none⟩) 0 (w.alloc (.cells #[] 2)) :=
  ⟨by simp, World.ownsRow_made w #[] 0 (Nat.le_refl _) (by simp [maxLen]) rfl, h.grown (grown_alloc w _ none) (by simp), grown_alloc w _ _, h.lt⟩
/-- An append of two operators. -/
theorem OpsV.push {w wx w2 : World} {g n c : Nat} {A A' : Option Addr} {code L : List Int} {c' : Nat} {v2 : Value} {a b : Int} {o : Obj} (h : OpsV w g A n c code L A' c' wx) (ha : 11 ≤ a ∧ a ≤ 16 ∧ arZ a = 2) (hb : 11 ≤ b ∧ b ≤ 16 ∧ arZ b = 2)
    (hown2 : w2.ownsRow w.heap.size 2 1 v2 (L.length + 2) (L.map (Value.int .i64) ++ [.int .i64 a, .int .i64 b])) (hgrow : (wx.alloc o).grownBy w2 (Value.slice A' L.length c').ownBlock) : ∃ (A2 : Option Addr) (c2 : Nat), v2 = .slice A2 (L.length + 2) c2 ∧ OpsV w g A n c code (L ++ [a, b]) A2 c2 w2 := by
  obtain ⟨hL2, hown, hs, hg, hgw⟩ := h
  obtain ⟨A2, c2, rfl⟩ := own_shape hown2
  have hr : ∀ q, (Value.slice A' L.length c').ownBlock = some q → w.heap.size ≤ q := fun q hq => (hown.lt q hq).1
  have e : (L ++ [a, b]).length = L.length + 2 := by simp
  refine ⟨A2, c2, rfl, fun z hz => ?_, by rw [e, List.map_append]; exact hown2, (hs.grown (grown_alloc wx o none) (by simp)).grown hgrow (fun r hr' => by have := hr r hr'; omega), grown_own (grown_own hg (grown_alloc wx o none) (by simp)) hgrow hr, hgw⟩
  rcases List.mem_append.1 hz with h | h
  · exact hL2 z h
  · simp at h
    rcases h with rfl | rfl
    · exact ha
    · exact hb

/-- A pick, or a draw, leaves them as they are. -/
theorem OpsV.kept {w wx w2 : World} {g n c c' : Nat} {A A' : Option Addr} {code L : List Int} (h : OpsV w g A n c code L A' c' wx) (hs : Src w2 g A n c code) (hg : wx.grownBy w2 (some g)) : OpsV w g A n c code L A' c' w2 := by
  obtain ⟨hL2, hown, _, hg0, hgw⟩ := h
  refine ⟨hL2, hown.kept hg ?_, hs, grownBy_trans hg0 hg, hgw⟩
  cases hv : (Value.slice A' L.length c').ownBlock with
  | none => exact .inl rfl
  | some k => exact .inr (by intro e; have := (hown.lt k hv).1; injection e with e; omega)
/-- One of them, read. -/
theorem OpsV.at_ {w wx : World} {g n c c' : Nat} {A A' : Option Addr} {code L : List Int} (h : OpsV w g A n c code L A' c' wx) {q : Nat} (hq : q < L.length) : ∃ (b : Nat) (z : Int), A' = some ⟨b, 0, none⟩ ∧ 11 ≤ z ∧ z ≤ 16 ∧ arZ z = 2 ∧ wx.cell? ⟨b, q, none⟩ = some (.int .i64 z) := by
  obtain ⟨b, cap, hv, _, hlt⟩ := h.own.form (by omega)
  have hA : A' = some ⟨b, 0, none⟩ := by injection hv
  subst hA
  have hc := h.own.cellAt (g := b) q (by omega)
  have hz := h.1 (L.getD q 0) (by simp [List.getD, hq])
  refine ⟨b, L.getD q 0, rfl, hz.1, hz.2.1, hz.2.2, ?_⟩
  rw [hc]
  simp [List.getD, hq]

/-- What a draw of a formula leaves. -/
def DrawnV (w : World) (g : Nat) (A : Option Addr) (n c : Nat) (code : List Int) (size : Nat) (e : Ending) (w' : World) : Prop :=
  ∃ (L : List Int) (A' : Option Addr) (c' : Nat), e = .returned (.slice A' L.length c') ∧ 1 ≤ L.length ∧ L.length ≤ size ∧ Wf L ∧ w'.ownsRow w.heap.size 2 1 (.slice A' L.length c') L.length (L.map (Value.int .i64)) ∧ Src w' g A n c code ∧ w.grownBy w' (some g)

/-- A list of one number in a new block. -/
theorem drawnV_one {w wx : World} {g n c size : Nat} {A : Option Addr} {code : List Int} {r : Int} (hg : w.grownBy wx (some g)) (hs : Src wx g A n c code) (h1 : 1 ≤ size) (hr : arZ r = 0) :
    DrawnV w g A n c code size (.returned (.slice (some ⟨wx.heap.size, 0, none⟩) 1 1)) (wx.alloc (.cells #[.int .i64 r] 2)) :=
  ⟨[r], _, _, rfl, by simp, by simpa using h1, wf_leaf hr, World.ownsRow_lit (base := w.heap.size) (e := 2) (size := 1) wx #[.int .i64 r] 1 hg.size (by simp [maxLen]) rfl, hs.grown (grown_alloc wx _ none) (by simp), grown_own hg (grown_alloc wx _ none) (by simp)⟩
/-- An operator and two drawn formulas. -/
theorem drawnV_two {w wx wy wz : World} {g n c size : Nat} {A : Option Addr} {code La Lb : List Int} {op : Int} {e : Ending} (hg : w.grownBy wx (some g)) (hg2 : wx.grownBy wy (some g)) (hs : Src wy g A n c code) (hG : Gives wy (op :: (La ++ Lb)) e wz)
    (h1 : 1 + La.length + Lb.length ≤ size) (hop : arZ op = 2) (ha : Wf La) (hb : Wf Lb) : DrawnV w g A n c code size e wz := by
  obtain ⟨A2, c2, he, ho, hbel⟩ := hG
  have hgg := grownBy_trans hg hg2
  refine ⟨op :: (La ++ Lb), A2, c2, he, by simp, by simp; omega, wf_two hop ha hb, ho.mono hgg.size, hs.below hbel hs.lt, grown_below hgg hbel⟩
/-- An operator and one drawn formula, appended. -/
theorem drawnV_app {w wx wy wz : World} {g n c size n2 : Nat} {A : Option Addr} {code La : List Int} {op : Int} {v0 v2 : Value} {xs : List Value} (hg : w.grownBy wx (some g)) (hg2 : wx.grownBy wy (some g)) (hs : Src wy g A n c code) (hs0 : g < w.heap.size)
    (h0 : wy.ownsRow w.heap.size 2 1 v0 1 xs) (hown : wz.ownsRow w.heap.size 2 1 v2 n2 ([.int .i64 op] ++ La.map (Value.int .i64))) (hn : n2 = 1 + La.length) (hgrow : wy.grownBy wz v0.ownBlock)
    (h1 : 1 + La.length ≤ size) (hop : arZ op = 1) (ha : Wf La) : ∃ A2 c2, v2 = .slice A2 n2 c2 ∧ DrawnV w g A n c code size (.returned (.slice A2 n2 c2)) wz := by
  obtain ⟨A2, c2, rfl⟩ := own_shape hown
  have hr : ∀ q, v0.ownBlock = some q → w.heap.size ≤ q := fun q hq => (h0.lt q hq).1
  have hgg := grownBy_trans hg hg2
  have e : (op :: La).length = n2 := by rw [hn]; simp; omega
  refine ⟨A2, c2, rfl, op :: La, A2, c2, by rw [e], by simp, by rw [e, hn]; exact h1, wf_one hop ha, by rw [e]; exact hown, hs.grown hgrow (fun r hr' => by have := hr r hr'; omega), grown_own hgg hgrow hr⟩

set_option maxRecDepth 100000 in
set_option maxHeartbeats 8000000 in
theorem drawFormV_any (g n c : Nat) (A : Option Addr) (code : List Int) (fr : Int) : ∀ (size : Nat) (w : World), Src w g A n c code → 1 ≤ size → size ≤ 256 →
    Calls Tryd.prog 88 #[.pointer (some ⟨g, 0, none⟩), .int .i64 fr, .int .i64 size] w (DrawnV w g A n c code size) := by
  intro size
  induction size using Nat.strongRecOn with
  | ind size ih =>
  intro w h hs1 hs2
  obtain ⟨i0, hi0, hz0, hz1, hz2⟩ := info_parts info_i64
  have hStart := Lib.hid (OpsV.start h)
  have IH := Lib.hid ih
  clear ih
  go_enter Tryd.func88, Tryd.ntmps88
  have HI := Lib.hid hi0; have HZ0 := Lib.hid hz0; have HZ1 := Lib.hid hz1; have HZ2 := Lib.hid hz2
  clear hi0 hz0 hz1 hz2
  go_upto_if 14 with (fail)
  go_cut [7] (fun v wx => ∃ (L : List Int) (A' : Option Addr) (c' : Nat), v = .slice A' L.length c' ∧ L.length ≤ 2 ∧ OpsV w g A n c code L A' c' wx)
  case first =>
    cases hb1 : (bits BinOp.and IntKind.i64 fr 1 != 0) with
    | false =>
      go_wp2_with (fail)
      go_meet
      exact ⟨[], _, _, rfl, by simp, hStart.out⟩
    | true =>
      go_wp2_with (at_builtin; refine wpList_append_own _ rfl _ _ 24 rfl w.heap.size 2 i0 (.int .i64 0) 1 8 Tryd.underlying24 HI.out HZ0.out HZ1.out HZ2.out rfl (by decide) _ _ _ rfl (hStart.out.own.alloc _) ⟨w.heap.size + 1, 0, none⟩ 2 2 [.int .i64 11, .int .i64 12] rfl rfl ?c1 ?c2 ?c3 ?c4 ?c5 ?_)
      case c1 => exact two_cells _ _ _ _ _ (by simp)
      case c2 => exact two_one 11 12
      case c3 => simp [maxLen]
      case c4 => simp
      case c5 => simp; omega
      intro v2 w2 hown2 hgrow2 _
      obtain ⟨A2, c2, rfl, hO⟩ := hStart.out.push (a := 11) (b := 12) (by decide) (by decide) hown2 hgrow2
      have HO := Lib.hid hO
      clear hown2 hgrow2 hO
      go_wp2_with (fail)
      go_meet
      exact ⟨[11, 12], _, _, rfl, by simp, HO.out⟩
  case rest =>
    obtain ⟨L, A', c', rfl, hL, hO⟩ := hcut
    have HO := Lib.hid hO
    clear hO
    go_upto_if 20 with (fail)
    go_cut [7] (fun v wx => ∃ (L : List Int) (A' : Option Addr) (c' : Nat), v = .slice A' L.length c' ∧ L.length ≤ 4 ∧ OpsV w g A n c code L A' c' wx)
    case first =>
      cases hb4 : (bits BinOp.and IntKind.i64 fr 4 != 0) with
      | false =>
        go_wp2_with (fail)
        go_meet
        exact ⟨L, _, _, rfl, by omega, HO.out⟩
      | true =>
        go_wp2_with (at_builtin; refine wpList_append_own _ rfl _ _ 24 rfl w.heap.size 2 i0 (.int .i64 0) 1 8 Tryd.underlying24 HI.out HZ0.out HZ1.out HZ2.out rfl (by decide) _ _ _ rfl (HO.out.own.alloc _) ⟨wc.heap.size, 0, none⟩ 2 2 [.int .i64 15, .int .i64 16] rfl rfl ?c1 ?c2 ?c3 ?c4 ?c5 ?_)
        case c1 => exact two_cells _ _ _ _ _ rfl
        case c2 => exact two_one 15 16
        case c3 => unfold maxLen; omega
        case c4 => omega
        case c5 => have := HO.out.grew.size; simp; omega
        intro v2 w2 hown2 hgrow2 _
        obtain ⟨A2, c2, rfl, hO⟩ := HO.out.push (a := 15) (b := 16) (by decide) (by decide) hown2 hgrow2
        have HO2 := Lib.hid hO
        have HL : Hid ((L ++ [15, 16]).length = L.length + 2) := Lib.hid (by simp)
        clear hown2 hgrow2 hO
        go_wp2_with (fail)
        go_meet
        exact ⟨L ++ [15, 16], _, _, by rw [HL.out], by rw [HL.out]; omega, HO2.out⟩
    case rest =>
      obtain ⟨L, A', c', rfl, hL, hO⟩ := hcut
      have HO := Lib.hid hO
      clear hO
      go_upto_region 6 with (fail)
      go_cut [35] (fun b wx => ∃ t : Bool, b = .bool t ∧ (t = true → 3 ≤ size ∧ 0 < L.length) ∧ OpsV w g A n c code L A' c' wx)
      case first =>
        by_cases hz3 : 3 ≤ size
        · have hd3 : decide (3 ≤ (size : Int)) = true := decide_eq_true (by omega)
          by_cases hl0 : 0 < L.length
          · have hd0 : decide (0 < (L.length : Int)) = true := decide_eq_true (by omega)
            go_wp2_with (go_at_call 87; refine (pick_any g n c A code 3 _ HO.out.src (by omega) (by omega)).mono ?_; rintro e w3 ⟨r, r1, r2, rfl, S3, G3⟩; have HO3 := Lib.hid (HO.out.kept S3 G3); clear S3 G3)
            go_meet
            exact ⟨_, rfl, fun _ => ⟨hz3, hl0⟩, HO3.out⟩
          · have hd0 : decide (0 < (L.length : Int)) = false := decide_eq_false (by omega)
            go_wp2_with (fail)
            go_meet
            exact ⟨_, rfl, (fun h => by cases h), HO.out⟩
        · have hd3 : decide (3 ≤ (size : Int)) = false := decide_eq_false (by omega)
          go_wp2_with (fail)
          go_meet
          exact ⟨_, rfl, (fun h => by cases h), HO.out⟩
      case rest =>
        obtain ⟨t, rfl, ht, hO⟩ := hcut
        have HO := Lib.hid hO
        clear hO
        cases t with
        | true =>
          obtain ⟨hz3, hl0⟩ := ht rfl
          clear ht
          go_wp2_with (fail)
          refine (pick_any g n c A code ((size : Int) - 2) _ HO.out.src (by omega) (by omega)).mono ?_
          rintro e w4 ⟨r1, p1, p2, rfl, S4, G4⟩
          obtain ⟨q1, rfl⟩ : ∃ q : Nat, r1 = q := ⟨r1.toNat, by omega⟩
          have HO4 := Lib.hid (HO.out.kept S4 G4)
          clear S4 G4
          go_wp2_with (fail)
          refine (pick_any g n c A code (L.length : Int) _ HO4.out.src (by omega) (by omega)).mono ?_
          rintro e w5 ⟨r2, p3, p4, rfl, S5, G5⟩
          obtain ⟨q2, rfl⟩ : ∃ q : Nat, r2 = q := ⟨r2.toNat, by omega⟩
          have HO5 := Lib.hid (HO4.out.kept S5 G5)
          clear S5 G5
          have hq2 : q2 < L.length := by omega
          obtain ⟨bo, zo, rfl, hz1, hz2, hzo, hco⟩ := HO5.out.at_ hq2
          have hI := IH.out (1 + q1) (by omega) w5 HO5.out.src (by omega) (by omega)
          rw [show ((1 + q1 : Nat) : Int) = 1 + (q1 : Int) by omega] at hI
          have HI1 := Lib.hid hI
          clear hI
          go_wp2_with (fail)
          refine HI1.out.mono ?_
          rintro e w6 ⟨La, Aa, ca, rfl, la1, la2, la3, oa, S6, G6⟩
          have hI := IH.out (size - 1 - La.length) (by omega) w6 S6 (by omega) (by omega)
          rw [show ((size - 1 - La.length : Nat) : Int) = (size : Int) - 1 - (La.length : Int) by omega] at hI
          have HI2 := Lib.hid hI
          have HLA := Lib.hid la3; have HOA := Lib.hid oa; have HS6 := Lib.hid S6; have HG6 := Lib.hid G6
          clear hI la3 oa S6 G6 HI1 hco
          go_wp2_with (fail)
          refine HI2.out.mono ?_
          rintro e w7 ⟨Lb, Ab, cb, rfl, lb1, lb2, lb3, ob, S7, G7⟩
          have hg5 : g < w5.heap.size := HO5.out.src.lt
          have oa7 := own_keep HOA.out G7 hg5
          have hJ := sjoined_any zo Aa La.length ca La Ab Lb.length cb Lb w7 (RdI.of_own oa7) (RdI.of_own ob) (by omega) (by omega) (by omega) (by omega)
          have HJ := Lib.hid hJ
          have hW7 : w.grownBy w7 (some g) := grownBy_trans (grownBy_trans HO5.out.grew HG6.out) G7
          have HD := Lib.hid (fun e wz (hG : Gives w7 (zo :: (La ++ Lb)) e wz) => drawnV_two (size := size) hW7 (World.grownBy.refl w7 _) S7 hG (by omega) hzo HLA.out lb3)
          clear hJ oa7 ob S7 G7 lb3 hW7 HI2
          go_wp2_with (fail)
          refine HJ.out.mono ?_
          intro e w8 hG
          have hD := HD.out e w8 hG
          obtain ⟨v8, rfl⟩ := gives_val hG
          have HDD := Lib.hid hD
          clear hD hG HD HJ
          go_wp2
          go_ret
          exact HDD.out
        | false =>
          clear ht
          have HSr := Lib.hid HO.out.src
          have HGr := Lib.hid HO.out.grew
          have hgw : g < w.heap.size := h.lt
          go_upto_region 11 with (fail)
          go_cut [74] (fun b wx => ∃ t : Bool, b = .bool t ∧ (t = true → 2 ≤ size) ∧ Src wx g A n c code ∧ w.grownBy wx (some g))
          case first =>
            by_cases hz3 : 2 ≤ size
            · have hd3 : decide (2 ≤ (size : Int)) = true := decide_eq_true (by omega)
              cases hb8 : (bits BinOp.and IntKind.i64 fr 8 != 0) with
              | true =>
                go_wp2_with (go_at_call 87; refine (pick_any g n c A code 3 _ HSr.out (by omega) (by omega)).mono ?_; rintro e w3 ⟨r, r1, r2, rfl, S3, G3⟩; have HS3 := Lib.hid S3; have HG3 := Lib.hid (grownBy_trans HGr.out G3); clear S3 G3)
                go_meet
                exact ⟨_, rfl, fun _ => hz3, HS3.out, HG3.out⟩
              | false =>
                go_wp2_with (fail)
                go_meet
                exact ⟨_, rfl, (fun h => by cases h), HSr.out, HGr.out⟩
            · have hd3 : decide (2 ≤ (size : Int)) = false := decide_eq_false (by omega)
              go_wp2_with (fail)
              go_meet
              exact ⟨_, rfl, (fun h => by cases h), HSr.out, HGr.out⟩
          case rest =>
            obtain ⟨t, rfl, ht, hS, hG⟩ := hcut
            clear HSr HGr HO
            have HSr := Lib.hid hS; have HGr := Lib.hid hG
            clear hS hG
            cases t with
            | true =>
              have hz3 := ht rfl
              clear ht
              go_wp2_with (fail)
              refine (pick_any g n c A code 2 _ HSr.out (by omega) (by omega)).mono ?_
              rintro e w4 ⟨r, r1, r2, rfl, S4, G4⟩
              have hG4 := grownBy_trans HGr.out G4
              have h0 := World.ownsRow_lit (base := w.heap.size) (e := 2) (size := 1) w4 #[.int .i64 (17 + r)] 1 hG4.size (by simp [maxLen]) rfl
              have S5 := S4.grown (grown_alloc w4 (.cells #[.int .i64 (17 + r)] 2) none) (by simp)
              have hG5 := grown_own hG4 (grown_alloc w4 (.cells #[.int .i64 (17 + r)] 2) none) (by simp)
              have hI := IH.out (size - 1) (by omega) _ S5 (by omega) (by omega)
              rw [show ((size - 1 : Nat) : Int) = (size : Int) - 1 by omega] at hI
              have HI1 := Lib.hid hI; have HH0 := Lib.hid h0; have HG5 := Lib.hid hG5
              clear hI h0 hG5 hG4 S5 S4 G4
              go_wp2_with (fail)
              refine HI1.out.mono ?_
              rintro e w6 ⟨La, Aa, ca, rfl, la1, la2, la3, oa, S6, G6⟩
              obtain ⟨ba, capa, hva, _, _⟩ := oa.form (by omega)
              have hAa : Aa = some ⟨ba, 0, none⟩ := by injection hva
              subst hAa
              have h06 := own_keep HH0.out G6 hgw
              have ra := RdI.of_own oa
              obtain ⟨b', off', hbo, _, hcs⟩ := ra.2 (by omega)
              have hbo' : ba = b' ∧ 0 = off' := by injection hbo with hbo; injection hbo with h1 h2 _; exact ⟨h1, h2⟩
              obtain ⟨rfl, rfl⟩ := hbo'
              have HN := Lib.hid (part_news (zs := La) hcs)
              have HN1 := Lib.hid (ints_one La)
              have HNL : Hid ((La.map (Value.int .i64)).length = La.length * 1) := Lib.hid (by simp)
              have HM1 : Hid (1 + La.length ≤ maxLen) := Lib.hid (by unfold maxLen; omega)
              have HS1 : Hid ((1 + La.length) * 8 ≤ 140737488355328) := Lib.hid (by omega)
              have HSz : Hid (w.heap.size ≤ w6.heap.size) := Lib.hid (grownBy_trans HG5.out G6).size
              have HH6 := Lib.hid h06
              have HD := Lib.hid (fun wz v2 n2 hown hn hgrow => drawnV_app (size := size) (op := 17 + r) (wz := wz) (v2 := v2) (n2 := n2) HG5.out G6 S6 hgw h06 hown hn hgrow (by omega) (by rcases (by omega : r = 0 ∨ r = 1) with rfl | rfl <;> decide) la3)
              clear hva hbo hcs ra oa S6 G6 h06 la3 HI1 HH0 HG5
              go_wp2_with (at_builtin; refine wpList_append_own _ rfl (.tmp 78) (.tmp 83) 24 rfl w.heap.size 2 i0 (.int .i64 0) 1 8 Tryd.underlying24 HI.out HZ0.out HZ1.out HZ2.out rfl (by decide) _ _ _ rfl HH6.out ⟨ba, 0, none⟩ La.length ca (La.map (Value.int .i64)) rfl HNL.out HN.out HN1.out HM1.out HS1.out HSz.out ?_; intro v2 w7 hown2 hgrow2 _; obtain ⟨A7, c7, rfl, hDr⟩ := HD.out w7 v2 _ hown2 rfl hgrow2; have HDr := Lib.hid hDr; clear hDr hown2 hgrow2)
              go_ret
              exact HDr.out
            | false =>
              clear ht
              go_upto_region 13 with (fail)
              go_cut [92] (fun b wx => ∃ t : Bool, b = .bool t ∧ Src wx g A n c code ∧ w.grownBy wx (some g))
              case first =>
                cases hb2 : (bits BinOp.and IntKind.i64 fr 2 != 0) with
                | true =>
                  go_wp2_with (go_at_call 87; refine (pick_any g n c A code 4 _ HSr.out (by omega) (by omega)).mono ?_; rintro e w3 ⟨r, r1, r2, rfl, S3, G3⟩; have HS3 := Lib.hid S3; have HG3 := Lib.hid (grownBy_trans HGr.out G3); clear S3 G3)
                  go_meet
                  exact ⟨_, rfl, HS3.out, HG3.out⟩
                | false =>
                  go_wp2_with (fail)
                  go_meet
                  exact ⟨_, rfl, HSr.out, HGr.out⟩
              case rest =>
                obtain ⟨t, rfl, hS, hG⟩ := hcut
                clear HSr HGr
                have HSr := Lib.hid hS; have HGr := Lib.hid hG
                clear hS hG
                cases t with
                | true =>
                  go_wp2_with (go_at_call 87; refine (pick_any g n c A code 2 _ HSr.out (by omega) (by omega)).mono ?_; rintro e w3 ⟨r, r1, r2, rfl, S3, G3⟩; have HD := Lib.hid (drawnV_one (r := 13 + r) (size := size) (grownBy_trans HGr.out G3) S3 hs1 (by rcases (by omega : r = 0 ∨ r = 1) with rfl | rfl <;> decide)); clear S3 G3)
                  go_ret
                  exact HD.out
                | false =>
                  go_wp2_with (go_at_call 100; refine (drawAtomV_any g n c A code _ HSr.out).mono ?_; rintro e w3 ⟨r, r1, rfl, S3, G3⟩; have HD := Lib.hid (drawnV_one (r := r) (size := size) (grownBy_trans HGr.out G3) S3 hs1 r1); clear S3 G3)
                  go_ret
                  exact HD.out
end Go.Proofs.YtdcommmefehlgaaDoor
