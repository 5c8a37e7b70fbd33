/- slices.Clone and slices.DeleteFunc at arcs. slices.DeleteFunc at arcs. slices.IndexFunc and slices.DeleteFunc at arcs, with the closure that leaves out the arcs of one wire. Made by mkemk.py. The program: allLinks, combinedSubnets, KingdomOf, EmpireOf, InKingdom. Made by mkemi.py. An operation of a drawn region taken: its side conditions by themselves. -/
import Derived.Test.YtfdpkhiiboghiaaGreatDoorJQEnF
import Derived.Deep.RegionHeldLaw
import Derived.Deep.DeepCutAuto
import Derived.BigQuiet
import Derived.Lib.SliceRun
import Derived.Test.YtfdpkhiiboghiaaGreatDoorJQEmR
import Derived.OrdersHeld
import Derived.ChangeAt
import Derived.Below
import Derived.Deep.RegionHeld
import Derived.Test.YtfdpkhiiboghiaaGreatDoorJQMath
import Derived.Deep.RegionHeld3
namespace Go.Proofs.YtfdpkhiiboghiaaGreatDoor
set_option linter.unusedSimpArgs false
set_option linter.unusedVariables false
section
set_option linter.unusedSimpArgs false
set_option linter.unusedVariables false
open Go.ChangeAt Go.ChangeShapes Go.RowKit Go.WideShapes

theorem intsA_one (zs : List Int) : ∀ u ∈ zs.map (Value.int .i64), u.oneCell' = true := fun u hu => by
  obtain ⟨z, _, rfl⟩ := List.mem_map.1 hu
  rfl
/-- What an append of a part to an empty row of the call's own leaves, at arcs. -/
theorem app_newsA {w wa w2 : World} {v0 v2 : Value} {n2 : Nat} {ys : List Value} {ar : List Ac} (HB1 : Hid (Below w.heap.size w wa)) (HO1 : Hid (wa.ownsRow w.heap.size 85 3 v0 0 [])) (hown2 : w2.ownsRow w.heap.size 85 3 v2 n2 ys) (hgrow2 : wa.grownBy w2 v0.ownBlock)
    (HJ : Hid (ys = (flA ar).map (Value.int .i64))) (hl : n2 = ar.length) : ∃ A c, v2 = .slice A ar.length c ∧ Hid (w2.ownsRow w.heap.size 85 3 (.slice A ar.length c) ar.length ((flA ar).map (Value.int .i64))) ∧ Hid (Below w.heap.size w w2) := by
  subst hl
  have hb2' : Below w.heap.size w w2 := HB1.out.grown hgrow2 HB1.out.size (fun q hq => (HO1.out.lt q hq).1)
  obtain ⟨A2, c2, rfl⟩ := own_shape3 hown2
  rw [HJ.out] at hown2
  exact ⟨A2, c2, rfl, hown2, hb2'⟩
set_option maxRecDepth 100000 in
set_option maxHeartbeats 1000000 in
theorem cloneArc_any (A : Option Addr) (c : Nat) (ar : List Ac) (w : World) (h : RdA w w.heap.size A ar.length ar) (hn : ar.length ≤ 1048576) :
    Calls Tryz.prog 133 #[.slice A ar.length c] w (GivesA w ar) := by
  obtain ⟨i3, hi3, hz3, hs3, hb3⟩ := info_parts info_arc
  cases A with
  | none =>
    have h0 : ar.length = 0 := by
      by_cases e : 0 < ar.length
      · obtain ⟨b, off, e2, _⟩ := h.at e
        cases e2
      · omega
    obtain rfl : ar = [] := List.eq_nil_of_length_eq_zero h0
    have hnil : ∀ wx : World, (binOp .eql 82 (.slice none 0 c) (.slice none 0 0)).run Tryz.prog wx = .ok (.bool true) wx := fun wx => Lib.run_eql_slice_nil wx 82 85 _ _ _ _ _ Tryz.underlying82
    have HG : Hid (GivesA w [] (.returned (.slice none 0 0)) w) := Lib.hid ⟨none, 0, rfl, World.ownsRow_nil _ _ _ _, Below.refl _ _⟩
    clear h h0 hi3 hz3 hs3 hb3 hn
    rw [List.length_nil]
    go_enter Tryz.func133, Tryz.ntmps133
    go_wp2
    go_ret
    exact HG.out
  | some a =>
    have hnil : ∀ wx : World, (binOp .eql 82 (.slice (some a) ar.length c) (.slice none 0 0)).run Tryz.prog wx = .ok (.bool false) wx := fun wx => Lib.run_eql_slice_nil wx 82 85 _ _ _ _ _ Tryz.underlying82
    have hb0 : Below w.heap.size w (w.alloc (.cells #[] 85)) := (Below.refl _ _).alloc (Nat.le_refl _) _
    have H0 := Lib.hid (World.ownsRow_made (e := 85) (base := w.heap.size) (size := 3) w #[] 0 (Nat.le_refl _) (by simp [maxLen]) rfl)
    have HN1 : Hid (∀ j u, ((flA ar).map (Value.int .i64))[j]? = some u → (w.alloc (.cells #[] 85)).cell? (a.add j) = some u) := Lib.hid (fun j u hu => by
      by_cases e : 0 < ar.length
      · obtain ⟨b1, off1, e2, hb1, hc1⟩ := h.2.2 (by omega)
        injection e2 with e2
        subst e2
        have hj := (List.getElem?_eq_some_iff.1 hu).1
        rw [List.length_map, flA_len] at hj
        have ea : (⟨b1, off1, none⟩ : Addr).add j = ⟨b1, off1 + j, none⟩ := by simp [Addr.add]
        rw [ea, hb0.cell (p := ⟨b1, off1 + j, none⟩) hb1, hc1 j hj, ← hu, List.getElem?_map]
        have hj2 : j < (flA ar).length := by rw [flA_len]; exact hj
        simp [List.getD, hj2]
      · rw [List.eq_nil_of_length_eq_zero (by omega : ar.length = 0)] at hu
        simp [flA] at hu)
    have HB0 := Lib.hid hb0
    have HL1 : Hid (((flA ar).map (Value.int .i64)).length = ar.length * 3) := Lib.hid (by rw [List.length_map, flA_len])
    have HHO := Lib.hid (intsA_one (flA ar))
    have HM1 : Hid (0 + ar.length ≤ maxLen) := Lib.hid (by unfold maxLen; omega)
    have HS1 : Hid ((0 + ar.length) * 24 ≤ 140737488355328) := Lib.hid (by omega)
    have HJ : Hid ([] ++ (flA ar).map (Value.int .i64) = (flA ar).map (Value.int .i64)) := Lib.hid (by simp)
    have HI := Lib.hid hi3; have HZ0 := Lib.hid hz3; have HZ1 := Lib.hid hs3; have HZ2 := Lib.hid hb3
    have HLL : Hid (0 + ar.length = ar.length) := Lib.hid (by omega)
    clear hb0 hi3 hz3 hs3 hb3 h
    go_enter Tryz.func133, Tryz.ntmps133
    go_wp2_with (at_builtin; refine wpList_append_own _ rfl _ _ 82 rfl w.heap.size 85 i3 (.agg #[.int .i64 0, .int .i64 0, .int .i64 0]) 3 24 Tryz.underlying82 HI.out HZ0.out HZ1.out HZ2.out rfl (by decide) _ _ _ rfl H0.out a ar.length c ((flA ar).map (Value.int .i64)) rfl HL1.out HN1.out HHO.out HM1.out HS1.out HB0.out.size ?_; intro v2 w2 hown2 hgrow2 _; obtain ⟨A2, c2, rfl, HO2, HB2⟩ := app_newsA HB0 H0 hown2 hgrow2 HJ HLL.out; clear hown2 hgrow2)
    go_ret
    exact ⟨_, _, rfl, HO2.out, HB2.out⟩
/-- Three cells set. -/
def put3 (xs : List Value) (o : Nat) (v0 v1 v2 : Value) : List Value := ((xs.set o v0).set (o + 1) v1).set (o + 2) v2
def threeW (w : World) (g o : Nat) (v0 v1 v2 : Value) : World := ((w.setCell ⟨g, o, none⟩ v0).setCell ⟨g, o + 1, none⟩ v1).setCell ⟨g, o + 2, none⟩ v2
theorem three_own {w : World} {base g n cap o : Nat} {e : TypeId} {xs : List Value} (h : w.ownsRow base e 3 (.slice (some ⟨g, 0, none⟩) n cap) n xs) (v0 v1 v2 : Value) :
    (threeW w g o v0 v1 v2).ownsRow base e 3 (.slice (some ⟨g, 0, none⟩) n cap) n (put3 xs o v0 v1 v2) ∧ w.grownBy (threeW w g o v0 v1 v2) (some g) := by
  have h0 := h.stored o v0
  have h1 := h0.1.stored (o + 1) v1
  have h2 := h1.1.stored (o + 2) v2
  exact ⟨h2.1, grown_transx (grown_transx h0.2 h1.2) h2.2⟩
theorem flA_set : ∀ (ar : List Ac) (k : Nat) (a : Ac), k < ar.length → (flA (ar.set k a)).map (Value.int .i64) = put3 ((flA ar).map (Value.int .i64)) (k * 3) (.int .i64 a.w) (.int .i64 a.f) (.int .i64 a.t)
  | [], k, a, h => absurd h (by simp)
  | x :: xs, 0, a, _ => by simp [flA, put3]
  | x :: xs, k + 1, a, h => by
    have ih := flA_set xs k a (by simpa using h)
    have e : (k + 1) * 3 = k * 3 + 1 + 1 + 1 := by omega
    simp only [List.set_cons_succ, flA, List.map_cons, ih, put3, e]
/-- What is kept of the first j arcs. -/
def kpA (X : List Int) (ar : List Ac) (j : Nat) : List Ac := (ar.take j).filter fun a => !outB X a
theorem kpA_yes {X : List Int} {ar : List Ac} {j : Nat} (h : j < ar.length) (hk : outB X (ar.getD j Ac.nil) = false) : kpA X ar (j + 1) = kpA X ar j ++ [ar.getD j Ac.nil] := by
  unfold kpA; rw [takeL_succ (d := Ac.nil) h, List.filter_append]
  simp only [List.filter_cons, List.filter_nil, hk, Bool.not_false, if_true]
theorem kpA_no {X : List Int} {ar : List Ac} {j : Nat} (h : j < ar.length) (hk : outB X (ar.getD j Ac.nil) = true) : kpA X ar (j + 1) = kpA X ar j := by
  unfold kpA; rw [takeL_succ (d := Ac.nil) h, List.filter_append]
  simp only [List.filter_cons, List.filter_nil, hk, Bool.not_true]
  simp
theorem kpA_all {X : List Int} {ar : List Ac} {k : Nat} (hk : k ≤ ar.length) (h : ∀ m, m < k → outB X (ar.getD m Ac.nil) = false) : kpA X ar k = ar.take k := by
  unfold kpA
  rw [List.filter_eq_self]
  intro a ha
  obtain ⟨m, hm, e⟩ := List.getElem_of_mem ha
  rw [List.length_take] at hm
  have := h m (by omega)
  have e2 : ar.getD m Ac.nil = a := by
    rw [← e, List.getElem_take]
    simp [List.getD, show m < ar.length by omega]
  rw [e2] at this
  rw [this]; rfl
/-- The row while it is being filtered: m are kept of the first j. -/
structure FltA (X : List Int) (ar cur : List Ac) (j m : Nat) : Prop where
  len : cur.length = ar.length
  kept : m = (kpA X ar j).length
  lt : m < j
  front : cur.take m = kpA X ar j
  back : ∀ x, j ≤ x → x < ar.length → cur.getD x Ac.nil = ar.getD x Ac.nil
theorem FltA.start {X : List Int} {ar : List Ac} {k : Nat} (hk : k < ar.length) (h : ∀ m, m < k → outB X (ar.getD m Ac.nil) = false) (hd : outB X (ar.getD k Ac.nil) = true) : FltA X ar ar (k + 1) k := by
  have e : kpA X ar (k + 1) = ar.take k := by rw [kpA_no hk hd, kpA_all (by omega) h]
  exact ⟨rfl, by rw [e, List.length_take]; omega, by omega, e.symm, fun _ _ _ => rfl⟩
theorem FltA.drop {X : List Int} {ar cur : List Ac} {j m : Nat} (s : FltA X ar cur j m) (hj : j < ar.length) (hd : outB X (ar.getD j Ac.nil) = true) : FltA X ar cur (j + 1) m :=
  ⟨s.len, by rw [kpA_no hj hd]; exact s.kept, by have := s.lt; omega, by rw [kpA_no hj hd]; exact s.front, fun x h1 h2 => s.back x (by omega) h2⟩
theorem FltA.keep {X : List Int} {ar cur : List Ac} {j m : Nat} (s : FltA X ar cur j m) (hj : j < ar.length) (hd : outB X (ar.getD j Ac.nil) = false) : FltA X ar (cur.set m (ar.getD j Ac.nil)) (j + 1) (m + 1) := by
  have hm := s.lt
  have hlen := s.len
  refine ⟨by rw [List.length_set]; exact s.len, by rw [kpA_yes hj hd, List.length_append, ← s.kept]; rfl, by omega, ?_, fun x h1 h2 => ?_⟩
  · rw [kpA_yes hj hd, ← s.front]
    generalize ar.getD j Ac.nil = a
    rw [List.take_succ_eq_append_getElem (by rw [List.length_set]; omega), List.take_set_of_le (Nat.le_refl m)]
    simp
  · rw [← s.back x (by omega) h2]
    generalize ar.getD j Ac.nil = a
    simp only [List.getD]
    rw [List.getElem?_set_ne (by omega)]
theorem own_setCells3 {g lo n cap : Nat} {e : TypeId} : ∀ (vs : List Value) (o : Nat) (w : World) (xs : List Value), w.ownsRow lo e 3 (.slice (some ⟨g, 0, none⟩) n cap) n xs →
    ∃ xs', (w.setCells g o vs).ownsRow lo e 3 (.slice (some ⟨g, 0, none⟩) n cap) n xs' ∧ xs'.take o = xs.take o ∧ w.grownBy (w.setCells g o vs) (some g)
  | [], o, w, xs, h => ⟨xs, h, rfl, World.grownBy.refl w _⟩
  | v :: vs, o, w, xs, h => by
    obtain ⟨h1, h2⟩ := h.stored o v
    obtain ⟨xs', h3, h4, h5⟩ := own_setCells3 vs (o + 1) (w.setCell ⟨g, o, none⟩ v) (xs.set o v) h1
    refine ⟨xs', h3, ?_, grown_transx h2 h5⟩
    have e1 := congrArg (List.take o) h4
    rw [List.take_take, List.take_take, Nat.min_eq_left (by omega)] at e1
    rw [e1, List.take_set_of_le (Nat.le_refl o)]
theorem own_short3 {w : World} {base n k c : Nat} {e : TypeId} {A : Option Addr} {xs : List Value} (h : w.ownsRow base e 3 (.slice A n c) n xs) (hk : k ≤ n) : w.ownsRow base e 3 (.slice A k c) k (xs.take (k * 3)) := by
  obtain ⟨h1, h2⟩ := h
  refine ⟨by rw [List.length_take]; omega, ?_⟩
  rcases h2 with ⟨hv, rfl⟩ | ⟨g, cap, cur, hv, hb, hh, hn, hc, hs, ht⟩
  · have : k = 0 := by omega
    subst this
    exact .inl ⟨hv, rfl⟩
  · refine .inr ⟨g, cap, cur, ?_, hb, hh, by omega, hc, hs, ?_⟩
    · injection hv with a1 a2 a3
      rw [a1, a3]
    · rw [← ht, List.take_take, Nat.min_eq_left (by omega)]
theorem flA_take : ∀ (ar : List Ac) (m : Nat), flA (ar.take m) = (flA ar).take (m * 3)
  | [], m => by simp [flA]
  | a :: ar, 0 => by simp [flA]
  | a :: ar, m + 1 => by
    have e : (m + 1) * 3 = m * 3 + 1 + 1 + 1 := by omega
    rw [e]
    simp only [List.take_succ_cons, flA, flA_take ar m]
theorem zeroArc : ∀ w : World, (zeroValue 85).run Tryz.prog w = .ok (.agg #[.int .i64 0, .int .i64 0, .int .i64 0]) w := Tryz.zeroValue85
theorem zeroCells3 (n : Nat) : (Builtin.zeroCells (Value.agg #[.int .i64 0, .int .i64 0, .int .i64 0]).cells n).toList = List.replicate (n * 3) (Value.int .i64 0) := by
  have hc : (Value.agg #[.int .i64 0, .int .i64 0, .int .i64 0]).cells = #[Value.int .i64 0, Value.int .i64 0, Value.int .i64 0] := rfl
  rw [hc]
  apply List.ext_getElem?
  intro j
  by_cases hj : j < n * 3
  · have : j % 3 = 0 ∨ j % 3 = 1 ∨ j % 3 = 2 := by omega
    rcases this with e | e | e <;> simp [Builtin.zeroCells, hj, e]
  · simp [Builtin.zeroCells, hj]
theorem run_clear_arcs (w : World) (ty : TypeId) (g o n c : Nat) (hn : 0 < n) (hc : ∀ j, j < n * 3 → (w.cell? ⟨g, o + j, none⟩).isSome = true) (hf : ∀ j, j < n * 3 → w.frozen? ⟨g, o + j, none⟩ = false) :
    (Builtin.clear_ #[82] ty #[.slice (some ⟨g, o, none⟩) n c]).run Tryz.prog w = .ok (.tuple #[]) (w.setCells g o (List.replicate (n * 3) (Value.int .i64 0))) := by
  have hst := run_storeCells_cells (P := Tryz.prog) g o (List.replicate (n * 3) (Value.int .i64 0)) 0 w (by simpa using hc) (by simpa using hf) (by intro v hv'; rw [List.eq_of_mem_replicate hv']; rfl)
  simp only [Nat.add_zero] at hst
  have hz := zeroArc w
  have hzc := zeroCells3 n
  obtain ⟨m, rfl⟩ : ∃ m, n = m + 1 := ⟨n - 1, by omega⟩
  simp [Builtin.clear_, run_underlying Tryz.underlying82, hz, hzc, hst]
end
section
set_option linter.unusedSimpArgs false
set_option linter.unusedVariables false
open Go.ChangeAt Go.ChangeShapes Go.RowKit Go.WideShapes

theorem grown_of_below {w w' : World} (h : Below w.heap.size w w') (o : Option Nat) : w.grownBy w' o := ⟨h.os, h.tape, h.output, h.size, fun k hk _ => h.block k hk⟩
theorem own_capA {w : World} {base n c : Nat} {e : TypeId} {A : Option Addr} {xs : List Value} (h : w.ownsRow base e 3 (.slice A n c) n xs) : n ≤ c := by
  rcases h.2 with ⟨hv, rfl⟩ | ⟨g, cap, cur, hv, hb, hh, hn, hc, hs, ht⟩
  · exact Nat.zero_le _
  · injection hv with a1 a2 a3
    subst a3
    exact hn
/-- What DeleteFunc leaves. -/
def GivesD3 (w : World) (lo : Nat) (o : Option Nat) (ar : List Ac) (e : Ending) (w' : World) : Prop :=
  ∃ A c, e = .returned (.slice A ar.length c) ∧ w'.ownsRow lo 85 3 (.slice A ar.length c) ar.length ((flA ar).map (Value.int .i64)) ∧ w.grownBy w' o
set_option maxRecDepth 100000 in
set_option maxHeartbeats 1000000 in
theorem delArc_any (bx : Nat) (XA : Option Addr) (cX : Nat) (X : List Int) (hX : X.length ≤ 1048576) (A : Option Addr) (c : Nat) (ar : List Ac) (w : World) (lo : Nat) (hO : w.ownsRow lo 85 3 (.slice A ar.length c) ar.length ((flA ar).map (Value.int .i64))) (hl : ar.length ≤ 1048576)
    (hfar : ∀ wx : World, w.grownBy wx (Value.slice A ar.length c).ownBlock → OutS wx bx XA cX X) :
    Calls Tryz.prog 83 #[.slice A ar.length c, .func (.func 132) #[] #[.pointer (some ⟨bx, 0, none⟩)]] w (GivesD3 w lo (Value.slice A ar.length c).ownBlock (kpA X ar ar.length)) := by
  have HIX := Lib.hid (indexArc_any bx XA cX X hX A c ar w (hfar w (grown_reflx _ _)) (RdA.of_own hO) hl)
  have HO := Lib.hid hO
  have HFAR := Lib.hid (fun (wx : World) (hx : w.grownBy wx (Value.slice A ar.length c).ownBlock) (a : Ac) => leftOut_any bx XA cX X a wx (hfar wx hx) hX)
  clear hfar hO
  go_enter Tryz.func83, Tryz.ntmps83
  go_wp2_with (fail)
  refine HIX.out.mono ?_
  rintro e w1 ⟨hcase, bel⟩
  have GR1 := Lib.hid (grown_of_below bel (Value.slice A ar.length c).ownBlock)
  have O1 := Lib.hid (own_below HO.out bel (Nat.le_refl _))
  clear bel
  rcases hcase with ⟨rfl, hall⟩ | ⟨k, rfl, hk, hall, hd⟩
  · have HK : Hid (kpA X ar ar.length = ar) := Lib.hid (by rw [kpA_all (Nat.le_refl _) hall, List.take_length])
    clear hall
    go_wp2
    go_ret
    exact ⟨A, c, by rw [HK.out]; rfl, by rw [HK.out]; exact O1.out, GR1.out⟩
  · obtain ⟨g, cap, hv, hlo, hhi⟩ := O1.out.form (by omega)
    have hAg : A = some ⟨g, 0, none⟩ ∧ c = cap := by injection hv with x y z; exact ⟨x, z⟩
    obtain ⟨rfl, rfl⟩ := hAg
    have HST := Lib.hid (FltA.start hk hall hd)
    have hkm : ((k : Int) == -1) = false := by simp <;> omega
    have hcap := own_capA O1.out
    have hw1 : IntKind.i64.wrap ((k : Int) + 1) = (k : Int) + 1 := IntWalk.i64_in _ (by omega)
    clear hall hd hv HIX
    go_wp2
    go_loopw [5, 6] (fun i j wr => ∃ (jn m : Nat) (cur : List Ac), i = .int .i64 m ∧ j = .int .i64 jn ∧ jn ≤ ar.length ∧ FltA X ar cur jn m ∧ wr.ownsRow lo 85 3 (.slice (some ⟨g, 0, none⟩) ar.length c) ar.length ((flA cur).map (Value.int .i64)) ∧ w.grownBy wr (some g)) (fun _ j _ => ar.length - (intOf j).toNat)
    case atStart => exact ⟨k + 1, k, ar, rfl, by go_num, by omega, HST.out, O1.out, GR1.out⟩
    case round =>
      obtain ⟨jn, m, cur, rfl, rfl, hjn, hF, hown, hgr⟩ := hrel
      clear GR1 O1 HST
      have hFl := hF.len; have hFm := hF.lt
      by_cases hlt : jn < ar.length
      · have cl := fun t (ht : t < 3) => hown.cellAt (g := g) (jn * 3 + t) (by omega)
        have hbk := hF.back jn (Nat.le_refl _) hlt
        have hml : (List.map (Value.int .i64) (flA cur)).length = ar.length * 3 := by rw [List.length_map, flA_len, hFl]
        obtain ⟨f0, f1, f2⟩ := flA_at cur jn (by omega)
        rw [hbk] at f0 f1 f2
        have HKP := Lib.hid (fun e => hF.keep hlt e)
        have HDR := Lib.hid (fun e => hF.drop hlt e)
        have gg : ∀ t, t < 3 → (flA cur).getD (jn * 3 + t) 0 = (flA cur).getD (jn * 3 + t) 0 → wr.cell? ⟨g, jn * 3 + t, none⟩ = some (.int .i64 ((flA cur).getD (jn * 3 + t) 0)) := fun t ht _ => by
          rw [cl t ht, List.getElem?_map]
          have h2 : jn * 3 + t < (flA cur).length := by rw [flA_len, hFl]; omega
          simp [List.getD, h2]
        have x0 := gg 0 (by omega) rfl
        have x1 := gg 1 (by omega) rfl
        have x2 := gg 2 (by omega) rfl
        rw [Nat.add_zero] at x0
        rw [f0] at x0; rw [f1] at x1; rw [f2] at x2
        obtain ⟨p, hp⟩ : ∃ p, outB X (ar.getD jn Ac.nil) = p := ⟨_, rfl⟩
        rw [hp] at HKP HDR
        have HP := Lib.hid hp
        obtain ⟨⟨aw, af, at'⟩, ha⟩ : ∃ a, ar.getD jn Ac.nil = a := ⟨_, rfl⟩
        rw [ha] at x0 x1 x2 HKP HP
        dsimp only at x0 x1 x2
        obtain ⟨u1, hu1⟩ : ∃ u, u = wr.alloc (.cells #[.int .i64 aw, .int .i64 af, .int .i64 at'] 85) := ⟨_, rfl⟩
        have bl : Below wr.heap.size wr u1 := by rw [hu1]; exact (Below.refl _ _).alloc (Nat.le_refl _) _
        have gl : u1.heap[wr.heap.size]? = some (.cells #[.int .i64 aw, .int .i64 af, .int .i64 at'] 85 (0, 0)) := by rw [hu1]; exact heap_alloc_new _ _
        have GU := Lib.hid (grown_transx hgr (grown_of_below bl (some g)))
        have OU := Lib.hid (own_below hown bl (Nat.le_refl _))
        have hgw : g < wr.heap.size := (hown.lt g rfl).2
        have HC := Lib.hid (HFAR.out u1 GU.out ⟨aw, af, at'⟩)
        rw [HP.out] at HC
        dsimp only at HC
        obtain ⟨bv, hbv⟩ : ∃ b, wr.heap.size = b := ⟨_, rfl⟩
        have HU1 := Lib.hid hu1
        have HBV := Lib.hid hbv
        have GL := Lib.hid gl
        have hus : bv < u1.heap.size := by rw [← hbv]; exact (Array.getElem?_eq_some_iff.1 gl).1
        rw [hbv] at GL hgw
        have z0 := cell_of_row _ _ 0 _ _ (0, 0) gl
        have z1 := cell_of_row _ _ 1 _ _ (0, 0) gl
        have z2 := cell_of_row _ _ 2 _ _ (0, 0) gl
        rw [hbv] at z0 z1 z2
        simp only [List.getElem?_toArray, List.getElem?_cons_zero, List.getElem?_cons_succ] at z0 z1 z2
        clear cl hbk hml f0 f1 f2 gg hp ha hu1 bl gl hbv hown hgr hF
        go_upto_region 8 with (fail)
        rw [HBV.out, ← HU1.out]
        clear x0 x1 x2
        go_wp2_with (fail)
        refine HC.out.mono ?_
        rintro e u2 ⟨rfl, b2⟩
        have G2 := Lib.hid (grown_transx GU.out (grown_of_below b2 (some g)))
        have O2 := Lib.hid (own_below OU.out b2 (Nat.le_refl _))
        have L2 := Lib.hid ((b2.block bv hus).trans GL.out)
        clear b2 z0 z1 z2
        cases p with
        | true =>
          have S2 := Lib.hid (HDR.out rfl)
          go_wp2
          go_roundw
          case rel => exact ⟨jn + 1, m, cur, rfl, by go_num, by omega, S2.out, O2.out, G2.out⟩
          case measure => simp [intOf]; omega
        | false =>
          have S2 := Lib.hid (HKP.out rfl)
          have z0 := cell_of_row _ _ 0 _ _ (0, 0) L2.out
          have z1 := cell_of_row _ _ 1 _ _ (0, 0) L2.out
          have z2 := cell_of_row _ _ 2 _ _ (0, 0) L2.out
          simp only [List.getElem?_toArray, List.getElem?_cons_zero, List.getElem?_cons_succ] at z0 z1 z2
          have hml : (List.map (Value.int .i64) (flA cur)).length = ar.length * 3 := by rw [List.length_map, flA_len, hFl]
          have cl := fun t (ht : t < 3) => O2.out.cellAt (g := g) (m * 3 + t) (by omega)
          have fr := fun t => O2.out.frozenAt (g := g) (m * 3 + t)
          obtain ⟨d0, e0⟩ : ∃ x, u2.cell? ⟨g, m * 3, none⟩ = some x := ⟨_, (cl 0 (by omega)).trans (List.getElem?_eq_getElem (show m * 3 + 0 < _ by rw [hml]; omega))⟩
          obtain ⟨d1, e1⟩ : ∃ x, u2.cell? ⟨g, m * 3 + 1, none⟩ = some x := ⟨_, (cl 1 (by omega)).trans (List.getElem?_eq_getElem (show m * 3 + 1 < _ by rw [hml]; omega))⟩
          obtain ⟨d2, e2⟩ : ∃ x, u2.cell? ⟨g, m * 3 + 2, none⟩ = some x := ⟨_, (cl 2 (by omega)).trans (List.getElem?_eq_getElem (show m * 3 + 2 < _ by rw [hml]; omega))⟩
          have fr0 : u2.frozen? ⟨g, m * 3, none⟩ = false := fr 0
          have fr1 := fr 1; have fr2 := fr 2
          obtain ⟨own5, gr5⟩ := three_own (o := m * 3) O2.out (.int .i64 aw) (.int .i64 af) (.int .i64 at')
          rw [← flA_set cur m ⟨aw, af, at'⟩ (by omega)] at own5
          have O5 := Lib.hid own5
          have G5 := Lib.hid (grown_transx G2.out gr5)
          have hml2 : (m : Int) < (ar.length : Int) := by omega
          have hwm : IntKind.i64.wrap ((m : Int) + 1) = (m : Int) + 1 := IntWalk.i64_in _ (by omega)
          clear cl fr hml own5 gr5
          go_wp2
          go_roundw
          case rel => exact ⟨jn + 1, m + 1, _, by go_num, by go_num, by omega, S2.out, O5.out, G5.out⟩
          case measure => simp [intOf]; omega
      · have hjl : jn = ar.length := by omega
        subst hjl
        have hmn : m < ar.length := by omega
        have hmc : m ≤ c := by omega
        have hnm : ¬ ar.length = m := by omega
        have hml : (List.map (Value.int .i64) (flA cur)).length = ar.length * 3 := by rw [List.length_map, flA_len, hFl]
        have hcl : ∀ ty o, o = m * 3 → (Builtin.clear_ #[82] ty #[.slice (some ⟨g, o, none⟩) (ar.length - m) (c - m)]).run Tryz.prog wr = .ok (.tuple #[]) (wr.setCells g (m * 3) (List.replicate ((ar.length - m) * 3) (Value.int .i64 0))) := fun ty o ho => by
          subst ho
          refine run_clear_arcs wr ty g (m * 3) (ar.length - m) (c - m) (by omega) (fun j hj => ?_) (fun j _ => hown.frozenAt (g := g) _)
          rw [hown.cellAt (g := g) (m * 3 + j) (by omega), List.getElem?_eq_getElem (by rw [hml]; omega)]
          rfl
        have hcl1 := fun ty => hcl ty (m * 3) rfl
        obtain ⟨xs', o1, o2, o3⟩ := own_setCells3 (List.replicate ((ar.length - m) * 3) (Value.int .i64 0)) (m * 3) wr _ hown
        have o4 := own_short3 o1 (show m ≤ ar.length by omega)
        rw [o2, ← List.map_take, ← flA_take, hF.front] at o4
        have HM := Lib.hid hF.kept
        have O4 := Lib.hid o4
        have G4 := Lib.hid (grown_transx hgr o3)
        clear hcl hown hgr hF o1 o2 o3 o4 hml
        go_wp2
        go_ret
        exact ⟨some ⟨g, 0, none⟩, c, by rw [← HM.out]; rfl, by rw [← HM.out]; exact O4.out, G4.out⟩
end
section
set_option linter.unusedSimpArgs false
set_option linter.unusedVariables false
open Go.ChangeAt Go.ChangeShapes Go.RowKit Go.WideShapes

theorem kp_arW (x : Int) (ar : List Ac) : kpA [x] ar ar.length = arW ar x := by
  unfold kpA arW
  rw [List.take_length]
  refine List.filter_congr fun a _ => ?_
  unfold outB
  simp
/-- What the closure wants: the wire's box. -/
structure OneS (w : World) (bx : Nat) (x : Int) : Prop where
  lt : bx < w.heap.size
  box : w.cell? ⟨bx, 0, none⟩ = some (.int .i64 x)
theorem OneS.below {w w' : World} {bx : Nat} {x : Int} (h : OneS w bx x) (hb : Below w.heap.size w w') : OneS w' bx x :=
  ⟨Nat.lt_of_lt_of_le h.lt hb.size, (hb.cell (p := ⟨bx, 0, none⟩) h.lt).trans h.box⟩
set_option maxRecDepth 100000 in
set_option maxHeartbeats 1000000 in
theorem ofWire_any (bx : Nat) (x : Int) (a : Ac) (w : World) (h : OneS w bx x) :
    Calls Tryz.prog 80 #[.agg #[.int .i64 a.w, .int .i64 a.f, .int .i64 a.t], .pointer (some ⟨bx, 0, none⟩)] w fun e w' => e = .returned (.bool (outB [x] a)) ∧ Below w.heap.size w w' := by
  obtain ⟨aw, af, at'⟩ := a
  obtain ⟨w1, hw1⟩ : ∃ u, u = w.alloc (.cells #[.int .i64 aw, .int .i64 af, .int .i64 at'] 85) := ⟨_, rfl⟩
  have hb : Below w.heap.size w w1 := by rw [hw1]; exact (Below.refl _ _).alloc (Nat.le_refl _) _
  have hg : w1.heap[w.heap.size]? = some (.cells #[.int .i64 aw, .int .i64 af, .int .i64 at'] 85 (0, 0)) := by rw [hw1]; exact heap_alloc_new _ _
  have h1 := h.below hb
  have hbox := h1.box
  have x0 := cell_of_row _ _ 0 _ _ (0, 0) hg
  have HB := Lib.hid hb
  have HE : Hid ((aw == x) = outB [x] ⟨aw, af, at'⟩) := Lib.hid (by
    unfold outB
    rw [Bool.eq_iff_iff, beq_iff_eq, decide_eq_true_eq, List.mem_singleton])
  simp only [List.getElem?_toArray, List.getElem?_cons_zero] at x0
  clear hb hg h1 h
  dsimp only
  go_enter Tryz.func80, Tryz.ntmps80
  go_upto_region 1 with (fail)
  rw [← hw1]
  clear hw1
  go_wp2
  go_ret
  exact ⟨ret_bool HE.out, HB.out⟩
set_option maxRecDepth 100000 in
set_option maxHeartbeats 1000000 in
theorem indexWire_any (bx : Nat) (x : Int) (B : Option Addr) (d : Nat) (ar : List Ac) (w : World) (h : OneS w bx x) (r : RdA w w.heap.size B ar.length ar) (hl : ar.length ≤ 1048576) :
    Calls Tryz.prog 131 #[.slice B ar.length d, .func (.func 80) #[] #[.pointer (some ⟨bx, 0, none⟩)]] w fun e w' =>
      ((e = .returned (.int .i64 (-1)) ∧ (∀ m, m < ar.length → outB [x] (ar.getD m Ac.nil) = false)) ∨ ∃ k : Nat, e = .returned (.int .i64 k) ∧ k < ar.length ∧ (∀ m, m < k → outB [x] (ar.getD m Ac.nil) = false) ∧ outB [x] (ar.getD k Ac.nil) = true) ∧ Below w.heap.size w w' := by
  have HC := Lib.hid (fun (wx : World) (hx : Below w.heap.size w wx) (a : Ac) => ofWire_any bx x a wx (h.below hx))
  have HR := Lib.hid (fun (wx : World) (hx : Below w.heap.size w wx) => show RdA wx wx.heap.size B ar.length ar from (r.below hx).more hx.size)
  clear r h
  go_enter Tryz.func131, Tryz.ntmps131
  go_wp2
  go_loopw [8] (fun i wr => ∃ k : Nat, k ≤ ar.length ∧ i = .int .i64 k ∧ (∀ m, m < k → outB [x] (ar.getD m Ac.nil) = false) ∧ Below w.heap.size w wr) (fun i _ => ar.length - (intOf i).toNat)
  case atStart => exact ⟨0, Nat.zero_le _, rfl, fun m hm => absurd hm (by omega), Below.refl _ _⟩
  case round =>
    obtain ⟨k, hk, rfl, hpl, hB⟩ := hrel
    have HB := Lib.hid hB
    have HPL := Lib.hid hpl
    by_cases hlt : k < ar.length
    · obtain ⟨b, off, hA, hbb, hcells⟩ := (HR.out _ hB).at (show 0 < ar.length by omega)
      obtain ⟨x0, x1, x2⟩ := hcells k hlt
      have hc := HC.out _ hB (ar.getD k Ac.nil)
      obtain ⟨p, hp⟩ : ∃ p, outB [x] (ar.getD k Ac.nil) = p := ⟨_, rfl⟩
      have HP := Lib.hid hp
      rw [hp] at hc
      have HCC := Lib.hid hc
      clear hcells hB hpl hp hc
      obtain ⟨⟨aw, af, at'⟩, ha⟩ : ∃ a, ar.getD k Ac.nil = a := ⟨_, rfl⟩
      rw [ha] at x0 x1 x2 HCC
      dsimp only at x0 x1 x2 HCC
      clear ha
      subst hA
      cases p with
      | true =>
        go_wp2_with (fail)
        refine HCC.out.mono ?_
        rintro e w1 ⟨rfl, bel⟩
        have HB1 := Lib.hid (HB.out.trans (bel.mono HB.out.size))
        clear bel x0 x1 x2
        go_wp2
        go_ret
        exact ⟨.inr ⟨k, rfl, hlt, HPL.out, HP.out⟩, HB1.out⟩
      | false =>
        go_wp2_with (fail)
        refine HCC.out.mono ?_
        rintro e w1 ⟨rfl, bel⟩
        have HB1 := Lib.hid (HB.out.trans (bel.mono HB.out.size))
        clear bel x0 x1 x2
        go_wp2
        go_roundw
        case rel => exact ⟨k + 1, by omega, by go_num, fun m hm => by by_cases e : m = k; (subst e; exact HP.out); exact HPL.out m (by omega), HB1.out⟩
        case measure => simp [intOf]; omega
    · have hkl : k = ar.length := by omega
      subst hkl
      clear hB hpl
      go_wp2
      go_ret
      exact ⟨.inl ⟨rfl, HPL.out⟩, HB.out⟩
set_option maxRecDepth 100000 in
set_option maxHeartbeats 1000000 in
theorem delWire_any (bx : Nat) (x : Int) (A : Option Addr) (c : Nat) (ar : List Ac) (w : World) (lo : Nat) (hO : w.ownsRow lo 85 3 (.slice A ar.length c) ar.length ((flA ar).map (Value.int .i64))) (hl : ar.length ≤ 1048576)
    (hfar : ∀ wx : World, w.grownBy wx (Value.slice A ar.length c).ownBlock → OneS wx bx x) :
    Calls Tryz.prog 83 #[.slice A ar.length c, .func (.func 80) #[] #[.pointer (some ⟨bx, 0, none⟩)]] w (GivesD3 w lo (Value.slice A ar.length c).ownBlock (kpA [x] ar ar.length)) := by
  have HIX := Lib.hid (indexWire_any bx x A c ar w (hfar w (grown_reflx _ _)) (RdA.of_own hO) hl)
  have HO := Lib.hid hO
  have HFAR := Lib.hid (fun (wx : World) (hx : w.grownBy wx (Value.slice A ar.length c).ownBlock) (a : Ac) => ofWire_any bx x a wx (hfar wx hx))
  clear hfar hO
  go_enter Tryz.func83, Tryz.ntmps83
  go_wp2_with (fail)
  refine HIX.out.mono ?_
  rintro e w1 ⟨hcase, bel⟩
  have GR1 := Lib.hid (grown_of_below bel (Value.slice A ar.length c).ownBlock)
  have O1 := Lib.hid (own_below HO.out bel (Nat.le_refl _))
  clear bel
  rcases hcase with ⟨rfl, hall⟩ | ⟨k, rfl, hk, hall, hd⟩
  · have HK : Hid (kpA [x] ar ar.length = ar) := Lib.hid (by rw [kpA_all (Nat.le_refl _) hall, List.take_length])
    clear hall
    go_wp2
    go_ret
    exact ⟨A, c, by rw [HK.out]; rfl, by rw [HK.out]; exact O1.out, GR1.out⟩
  · obtain ⟨g, cap, hv, hlo, hhi⟩ := O1.out.form (by omega)
    have hAg : A = some ⟨g, 0, none⟩ ∧ c = cap := by injection hv with x y z; exact ⟨x, z⟩
    obtain ⟨rfl, rfl⟩ := hAg
    have HST := Lib.hid (FltA.start hk hall hd)
    have hkm : ((k : Int) == -1) = false := by simp <;> omega
    have hcap := own_capA O1.out
    have hw1 : IntKind.i64.wrap ((k : Int) + 1) = (k : Int) + 1 := IntWalk.i64_in _ (by omega)
    clear hall hd hv HIX
    go_wp2
    go_loopw [5, 6] (fun i j wr => ∃ (jn m : Nat) (cur : List Ac), i = .int .i64 m ∧ j = .int .i64 jn ∧ jn ≤ ar.length ∧ FltA [x] ar cur jn m ∧ wr.ownsRow lo 85 3 (.slice (some ⟨g, 0, none⟩) ar.length c) ar.length ((flA cur).map (Value.int .i64)) ∧ w.grownBy wr (some g)) (fun _ j _ => ar.length - (intOf j).toNat)
    case atStart => exact ⟨k + 1, k, ar, rfl, by go_num, by omega, HST.out, O1.out, GR1.out⟩
    case round =>
      obtain ⟨jn, m, cur, rfl, rfl, hjn, hF, hown, hgr⟩ := hrel
      clear GR1 O1 HST
      have hFl := hF.len; have hFm := hF.lt
      by_cases hlt : jn < ar.length
      · have cl := fun t (ht : t < 3) => hown.cellAt (g := g) (jn * 3 + t) (by omega)
        have hbk := hF.back jn (Nat.le_refl _) hlt
        have hml : (List.map (Value.int .i64) (flA cur)).length = ar.length * 3 := by rw [List.length_map, flA_len, hFl]
        obtain ⟨f0, f1, f2⟩ := flA_at cur jn (by omega)
        rw [hbk] at f0 f1 f2
        have HKP := Lib.hid (fun e => hF.keep hlt e)
        have HDR := Lib.hid (fun e => hF.drop hlt e)
        have gg : ∀ t, t < 3 → (flA cur).getD (jn * 3 + t) 0 = (flA cur).getD (jn * 3 + t) 0 → wr.cell? ⟨g, jn * 3 + t, none⟩ = some (.int .i64 ((flA cur).getD (jn * 3 + t) 0)) := fun t ht _ => by
          rw [cl t ht, List.getElem?_map]
          have h2 : jn * 3 + t < (flA cur).length := by rw [flA_len, hFl]; omega
          simp [List.getD, h2]
        have x0 := gg 0 (by omega) rfl
        have x1 := gg 1 (by omega) rfl
        have x2 := gg 2 (by omega) rfl
        rw [Nat.add_zero] at x0
        rw [f0] at x0; rw [f1] at x1; rw [f2] at x2
        obtain ⟨p, hp⟩ : ∃ p, outB [x] (ar.getD jn Ac.nil) = p := ⟨_, rfl⟩
        rw [hp] at HKP HDR
        have HP := Lib.hid hp
        obtain ⟨⟨aw, af, at'⟩, ha⟩ : ∃ a, ar.getD jn Ac.nil = a := ⟨_, rfl⟩
        rw [ha] at x0 x1 x2 HKP HP
        dsimp only at x0 x1 x2
        obtain ⟨u1, hu1⟩ : ∃ u, u = wr.alloc (.cells #[.int .i64 aw, .int .i64 af, .int .i64 at'] 85) := ⟨_, rfl⟩
        have bl : Below wr.heap.size wr u1 := by rw [hu1]; exact (Below.refl _ _).alloc (Nat.le_refl _) _
        have gl : u1.heap[wr.heap.size]? = some (.cells #[.int .i64 aw, .int .i64 af, .int .i64 at'] 85 (0, 0)) := by rw [hu1]; exact heap_alloc_new _ _
        have GU := Lib.hid (grown_transx hgr (grown_of_below bl (some g)))
        have OU := Lib.hid (own_below hown bl (Nat.le_refl _))
        have hgw : g < wr.heap.size := (hown.lt g rfl).2
        have HC := Lib.hid (HFAR.out u1 GU.out ⟨aw, af, at'⟩)
        rw [HP.out] at HC
        dsimp only at HC
        obtain ⟨bv, hbv⟩ : ∃ b, wr.heap.size = b := ⟨_, rfl⟩
        have HU1 := Lib.hid hu1
        have HBV := Lib.hid hbv
        have GL := Lib.hid gl
        have hus : bv < u1.heap.size := by rw [← hbv]; exact (Array.getElem?_eq_some_iff.1 gl).1
        rw [hbv] at GL hgw
        have z0 := cell_of_row _ _ 0 _ _ (0, 0) gl
        have z1 := cell_of_row _ _ 1 _ _ (0, 0) gl
        have z2 := cell_of_row _ _ 2 _ _ (0, 0) gl
        rw [hbv] at z0 z1 z2
        simp only [List.getElem?_toArray, List.getElem?_cons_zero, List.getElem?_cons_succ] at z0 z1 z2
        clear cl hbk hml f0 f1 f2 gg hp ha hu1 bl gl hbv hown hgr hF
        go_upto_region 8 with (fail)
        rw [HBV.out, ← HU1.out]
        clear x0 x1 x2
        go_wp2_with (fail)
        refine HC.out.mono ?_
        rintro e u2 ⟨rfl, b2⟩
        have G2 := Lib.hid (grown_transx GU.out (grown_of_below b2 (some g)))
        have O2 := Lib.hid (own_below OU.out b2 (Nat.le_refl _))
        have L2 := Lib.hid ((b2.block bv hus).trans GL.out)
        clear b2 z0 z1 z2
        cases p with
        | true =>
          have S2 := Lib.hid (HDR.out rfl)
          go_wp2
          go_roundw
          case rel => exact ⟨jn + 1, m, cur, rfl, by go_num, by omega, S2.out, O2.out, G2.out⟩
          case measure => simp [intOf]; omega
        | false =>
          have S2 := Lib.hid (HKP.out rfl)
          have z0 := cell_of_row _ _ 0 _ _ (0, 0) L2.out
          have z1 := cell_of_row _ _ 1 _ _ (0, 0) L2.out
          have z2 := cell_of_row _ _ 2 _ _ (0, 0) L2.out
          simp only [List.getElem?_toArray, List.getElem?_cons_zero, List.getElem?_cons_succ] at z0 z1 z2
          have hml : (List.map (Value.int .i64) (flA cur)).length = ar.length * 3 := by rw [List.length_map, flA_len, hFl]
          have cl := fun t (ht : t < 3) => O2.out.cellAt (g := g) (m * 3 + t) (by omega)
          have fr := fun t => O2.out.frozenAt (g := g) (m * 3 + t)
          obtain ⟨d0, e0⟩ : ∃ x, u2.cell? ⟨g, m * 3, none⟩ = some x := ⟨_, (cl 0 (by omega)).trans (List.getElem?_eq_getElem (show m * 3 + 0 < _ by rw [hml]; omega))⟩
          obtain ⟨d1, e1⟩ : ∃ x, u2.cell? ⟨g, m * 3 + 1, none⟩ = some x := ⟨_, (cl 1 (by omega)).trans (List.getElem?_eq_getElem (show m * 3 + 1 < _ by rw [hml]; omega))⟩
          obtain ⟨d2, e2⟩ : ∃ x, u2.cell? ⟨g, m * 3 + 2, none⟩ = some x := ⟨_, (cl 2 (by omega)).trans (List.getElem?_eq_getElem (show m * 3 + 2 < _ by rw [hml]; omega))⟩
          have fr0 : u2.frozen? ⟨g, m * 3, none⟩ = false := fr 0
          have fr1 := fr 1; have fr2 := fr 2
          obtain ⟨own5, gr5⟩ := three_own (o := m * 3) O2.out (.int .i64 aw) (.int .i64 af) (.int .i64 at')
          rw [← flA_set cur m ⟨aw, af, at'⟩ (by omega)] at own5
          have O5 := Lib.hid own5
          have G5 := Lib.hid (grown_transx G2.out gr5)
          have hml2 : (m : Int) < (ar.length : Int) := by omega
          have hwm : IntKind.i64.wrap ((m : Int) + 1) = (m : Int) + 1 := IntWalk.i64_in _ (by omega)
          clear cl fr hml own5 gr5
          go_wp2
          go_roundw
          case rel => exact ⟨jn + 1, m + 1, _, by go_num, by go_num, by omega, S2.out, O5.out, G5.out⟩
          case measure => simp [intOf]; omega
      · have hjl : jn = ar.length := by omega
        subst hjl
        have hmn : m < ar.length := by omega
        have hmc : m ≤ c := by omega
        have hnm : ¬ ar.length = m := by omega
        have hml : (List.map (Value.int .i64) (flA cur)).length = ar.length * 3 := by rw [List.length_map, flA_len, hFl]
        have hcl : ∀ ty o, o = m * 3 → (Builtin.clear_ #[82] ty #[.slice (some ⟨g, o, none⟩) (ar.length - m) (c - m)]).run Tryz.prog wr = .ok (.tuple #[]) (wr.setCells g (m * 3) (List.replicate ((ar.length - m) * 3) (Value.int .i64 0))) := fun ty o ho => by
          subst ho
          refine run_clear_arcs wr ty g (m * 3) (ar.length - m) (c - m) (by omega) (fun j hj => ?_) (fun j _ => hown.frozenAt (g := g) _)
          rw [hown.cellAt (g := g) (m * 3 + j) (by omega), List.getElem?_eq_getElem (by rw [hml]; omega)]
          rfl
        have hcl1 := fun ty => hcl ty (m * 3) rfl
        obtain ⟨xs', o1, o2, o3⟩ := own_setCells3 (List.replicate ((ar.length - m) * 3) (Value.int .i64 0)) (m * 3) wr _ hown
        have o4 := own_short3 o1 (show m ≤ ar.length by omega)
        rw [o2, ← List.map_take, ← flA_take, hF.front] at o4
        have HM := Lib.hid hF.kept
        have O4 := Lib.hid o4
        have G4 := Lib.hid (grown_transx hgr o3)
        clear hcl hown hgr hF o1 o2 o3 o4 hml
        go_wp2
        go_ret
        exact ⟨some ⟨g, 0, none⟩, c, by rw [← HM.out]; rfl, by rw [← HM.out]; exact O4.out, G4.out⟩
end
section
set_option linter.unusedSimpArgs false
set_option linter.unusedVariables false
open Go.ChangeAt Go.ChangeShapes Go.RowKit Go.WideShapes

theorem givesB_none {w w' : World} (hb : Below w.heap.size w w') : GivesB w [] false (.returned (.tuple #[.slice none 0 0, .bool false])) w' := ⟨none, 0, rfl, World.ownsRow_nil _ _ _ _, hb⟩
set_option maxRecDepth 100000 in
set_option maxHeartbeats 1000000 in
theorem allLinks_any (h : NH) (N : Nt) (S : Nat) (w : World) (hl : N.l.length ≤ 1048576) (hS : orS (markL 0 N.l.length) = S) :
    Calls Tryz.prog 68 #[.agg #[.slice h.A N.w.length h.c, .slice h.L N.l.length h.d, .slice h.C N.c.length h.e]] w fun e w' => e = .returned (.int .u64 ((S : Nat) : Int)) ∧ Below w.heap.size w w' := by
  obtain ⟨w0, hw0⟩ : ∃ w0, w0 = w.alloc (.cells #[.slice h.A N.w.length h.c, .slice h.L N.l.length h.d, .slice h.C N.c.length h.e] 30) := ⟨_, rfl⟩
  obtain ⟨hb, g0, hsz⟩ := box3_any w (.slice h.A N.w.length h.c) (.slice h.L N.l.length h.d) (.slice h.C N.c.length h.e) 30
  rw [← hw0] at hb g0 hsz
  have HKF := Lib.hid (fun (wx : World) (hx : Below w0.heap.size w0 wx) => three_cells ((hx.block w.heap.size (by omega)).trans g0))
  have HNF := Lib.hid (numbersFrom_any 0 N.l.length w0 (by omega) (by omega))
  have HMI : Hid (∀ x ∈ markL 0 N.l.length, -1 ≤ x ∧ x ≤ 1048576) := Lib.hid fun x hx => by
    unfold markL at hx
    obtain ⟨i, hi, rfl⟩ := List.mem_map.1 hx
    have := List.mem_range.1 hi
    omega
  have HML : Hid ((markL 0 N.l.length).length = N.l.length) := Lib.hid (by unfold markL; simp)
  have HB0 := Lib.hid hb
  obtain ⟨y0, y1, y2⟩ := HKF.out _ (Below.refl _ w0)
  have HSE := Lib.hid hS
  clear hb g0 hsz hS
  go_enter Tryz.func68, Tryz.ntmps68
  go_upto_region 1 with (fail)
  rw [← hw0]
  clear hw0
  go_wp2_with (fail)
  refine HNF.out.mono ?_
  rintro e w1 ⟨A1, c1, rfl, own1, bel1⟩
  have B1 := Lib.hid (HB0.out.trans (bel1.mono HB0.out.size))
  have HSO := Lib.hid (setOf_any A1 c1 (markL 0 N.l.length) w1 (RdI.of_own own1) (by have := HML.out; omega) HMI.out)
  clear own1 bel1 y0 y1 y2
  generalize markL 0 N.l.length = ks at *
  go_wp2_with (fail)
  refine HSO.out.mono ?_
  rintro e w2 ⟨rfl, rfl⟩
  go_wp2
  go_ret
  exact ⟨ret_u64 HSE.out, B1.out⟩
end
section
open Go.ChangeAt Go.RowKit

section
variable {P : Program} {ops : Array Oper} {Q : Exit → Act → World → Prop} {md : Region.Mode} {S : World → Prop} {i : Nat} {oi : Oper} {v : Value} {fuel : Nat} {listed : Array Bool} {a : Act} {w : World}
theorem tk (hi : ops[i]? = some oi := by exact rfl) (hs : Region.noSelect ops = true := by kernel_rfl) (hf : Region.free md ops listed i = true := by kernel_rfl) (hr : (Region.ready md ops listed).contains i = true := by kernel_rfl)
    (hQ : ∀ c a w, Q (.panic c) (a.put oi.dst v) w → Q (.panic c) a w := by exact fun _ _ _ h => h)
    (hy : YieldsIf P ops S oi v a := by exact Or.inl ⟨by rfl, by (intro w hSw; (try dsimp only at hSw); go_simp; all_goals (with_reducible rfl))⟩) (hS : S w := by assumption)
    (h : wpAnyH P md ops Q S fuel (listed.setIfInBounds i true) (a.put oi.dst v) w) : wpAnyH P md ops Q S (fuel + 1) listed a w :=
  wpAnyH_take hi hs hf hr hQ hy hS h
theorem tn (hi : ops[i]? = some oi := by exact rfl) (hs : Region.noSelect ops = true := by kernel_rfl) (hf : Region.free md ops listed i = true := by kernel_rfl) (hr : (Region.ready md ops listed).contains i = true := by kernel_rfl)
    (hQ : ∀ c a w, Q (.panic c) (a.put oi.dst undef) w → Q (.panic c) a w := by exact fun _ _ _ h => h)
    (hy : YieldsIf P ops S oi undef a := by exact Or.inr ⟨by kernel_rfl, rfl⟩) (hS : S w := by assumption)
    (h : wpAnyH P md ops Q S fuel (listed.setIfInBounds i true) (a.put oi.dst undef) w) : wpAnyH P md ops Q S (fuel + 1) listed a w :=
  wpAnyH_take hi hs hf hr hQ hy hS h
theorem al {w w' : World} {o : Obj} (h : w' = w.alloc o) : Below w.heap.size w w' := by rw [h]; exact (Below.refl _ _).alloc (Nat.le_refl _) _
theorem an {w w' : World} {c : Array Value} {t : TypeId} (h : w' = w.alloc (.cells c t)) : w'.heap[w.heap.size]? = some (.cells c t (0, 0)) := by rw [h]; exact heap_alloc_new _ _
/-- One operation comes up. -/
theorem t1 {o : Oper} (hr : Region.ready md ops listed = [i] := by kernel_rfl) (ho : ops[i]? = some o := by exact rfl)
    (h : ∀ K' : Act → World → Prop, Shut (∀ a w, S w → (S w → wpAnyH P md ops Q S fuel (listed.setIfInBounds i true) a w) → K' a w) → if Region.wanted o (yielded ops a.tmps) = true then Oper.wp P o a w K' Q else K' (a.put o.dst undef) w) : wpAnyH P md ops Q S (fuel + 1) listed a w :=
  wpAnyH_ready hr (by simp) (AllReadyH.cons ho h AllReadyH.nil)
end
end
end Go.Proofs.YtfdpkhiiboghiaaGreatDoor
