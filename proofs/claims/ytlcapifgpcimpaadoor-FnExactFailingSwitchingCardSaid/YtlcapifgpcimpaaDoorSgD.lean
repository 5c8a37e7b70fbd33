/- slices.Clone and slices.DeleteFunc at arcs. -/
import Derived.Test.YtlcapifgpcimpaaDoorSgF
import Derived.Deep.RegionHeldLaw
import Derived.Deep.DeepCutAuto
import Derived.BigQuiet
import Derived.Lib.SliceRun
namespace Go.Proofs.YtlcapifgpcimpaaDoor
set_option linter.unusedSimpArgs false
set_option linter.unusedVariables false
open Go.ChangeAt Go.ChangeShapes Go.RowKit Go.WideShapes

theorem intsA_one (zs : List Int) : ∀ u ∈ zs.map (Value.int .i64), u.oneCell' = true := fun u hu => by
  obtain ⟨z, _, rfl⟩ := List.mem_map.1 hu
  rfl
/-- What an append of a part to an empty row of the call's own leaves, at arcs. -/
theorem app_newsA {w wa w2 : World} {v0 v2 : Value} {n2 : Nat} {ys : List Value} {ar : List Ac} (HB1 : Hid (Below w.heap.size w wa)) (HO1 : Hid (wa.ownsRow w.heap.size 59 3 v0 0 [])) (hown2 : w2.ownsRow w.heap.size 59 3 v2 n2 ys) (hgrow2 : wa.grownBy w2 v0.ownBlock)
    (HJ : Hid (ys = (flA ar).map (Value.int .i64))) (hl : n2 = ar.length) : ∃ A c, v2 = .slice A ar.length c ∧ Hid (w2.ownsRow w.heap.size 59 3 (.slice A ar.length c) ar.length ((flA ar).map (Value.int .i64))) ∧ Hid (Below w.heap.size w w2) := by
  subst hl
  have hb2' : Below w.heap.size w w2 := HB1.out.grown hgrow2 HB1.out.size (fun q hq => (HO1.out.lt q hq).1)
  obtain ⟨A2, c2, rfl⟩ := own_shape3 hown2
  rw [HJ.out] at hown2
  exact ⟨A2, c2, rfl, hown2, hb2'⟩
set_option maxRecDepth 100000 in
set_option maxHeartbeats 1000000 in
theorem cloneArc_any (A : Option Addr) (c : Nat) (ar : List Ac) (w : World) (h : RdA w w.heap.size A ar.length ar) (hn : ar.length ≤ 1048576) :
    Calls Tryd.prog 84 #[.slice A ar.length c] w (GivesA w ar) := by
  obtain ⟨i3, hi3, hz3, hs3, hb3⟩ := info_parts info_arc
  cases A with
  | none =>
    have h0 : ar.length = 0 := by
      by_cases e : 0 < ar.length
      · obtain ⟨b, off, e2, _⟩ := h.at e
        cases e2
      · omega
    obtain rfl : ar = [] := List.eq_nil_of_length_eq_zero h0
    have hnil : ∀ wx : World, (binOp .eql 56 (.slice none 0 c) (.slice none 0 0)).run Tryd.prog wx = .ok (.bool true) wx := fun wx => Lib.run_eql_slice_nil wx 56 59 _ _ _ _ _ Tryd.underlying56
    have HG : Hid (GivesA w [] (.returned (.slice none 0 0)) w) := Lib.hid ⟨none, 0, rfl, World.ownsRow_nil _ _ _ _, Below.refl _ _⟩
    clear h h0 hi3 hz3 hs3 hb3 hn
    rw [List.length_nil]
    go_enter Tryd.func84, Tryd.ntmps84
    go_wp2
    go_ret
    exact HG.out
  | some a =>
    have hnil : ∀ wx : World, (binOp .eql 56 (.slice (some a) ar.length c) (.slice none 0 0)).run Tryd.prog wx = .ok (.bool false) wx := fun wx => Lib.run_eql_slice_nil wx 56 59 _ _ _ _ _ Tryd.underlying56
    have hb0 : Below w.heap.size w (w.alloc (.cells #[] 59)) := (Below.refl _ _).alloc (Nat.le_refl _) _
    have H0 := Lib.hid (World.ownsRow_made (e := 59) (base := w.heap.size) (size := 3) w #[] 0 (Nat.le_refl _) (by simp [maxLen]) rfl)
    have HN1 : Hid (∀ j u, ((flA ar).map (Value.int .i64))[j]? = some u → (w.alloc (.cells #[] 59)).cell? (a.add j) = some u) := Lib.hid (fun j u hu => by
      by_cases e : 0 < ar.length
      · obtain ⟨b1, off1, e2, hb1, hc1⟩ := h.2.2 (by omega)
        injection e2 with e2
        subst e2
        have hj := (List.getElem?_eq_some_iff.1 hu).1
        rw [List.length_map, flA_len] at hj
        have ea : (⟨b1, off1, none⟩ : Addr).add j = ⟨b1, off1 + j, none⟩ := by simp [Addr.add]
        rw [ea, hb0.cell (p := ⟨b1, off1 + j, none⟩) hb1, hc1 j hj, ← hu, List.getElem?_map]
        have hj2 : j < (flA ar).length := by rw [flA_len]; exact hj
        simp [List.getD, hj2]
      · rw [List.eq_nil_of_length_eq_zero (by omega : ar.length = 0)] at hu
        simp [flA] at hu)
    have HB0 := Lib.hid hb0
    have HL1 : Hid (((flA ar).map (Value.int .i64)).length = ar.length * 3) := Lib.hid (by rw [List.length_map, flA_len])
    have HHO := Lib.hid (intsA_one (flA ar))
    have HM1 : Hid (0 + ar.length ≤ maxLen) := Lib.hid (by unfold maxLen; omega)
    have HS1 : Hid ((0 + ar.length) * 24 ≤ 140737488355328) := Lib.hid (by omega)
    have HJ : Hid ([] ++ (flA ar).map (Value.int .i64) = (flA ar).map (Value.int .i64)) := Lib.hid (by simp)
    have HI := Lib.hid hi3; have HZ0 := Lib.hid hz3; have HZ1 := Lib.hid hs3; have HZ2 := Lib.hid hb3
    have HLL : Hid (0 + ar.length = ar.length) := Lib.hid (by omega)
    clear hb0 hi3 hz3 hs3 hb3 h
    go_enter Tryd.func84, Tryd.ntmps84
    go_wp2_with (at_builtin; refine wpList_append_own _ rfl _ _ 56 rfl w.heap.size 59 i3 (.agg #[.int .i64 0, .int .i64 0, .int .i64 0]) 3 24 Tryd.underlying56 HI.out HZ0.out HZ1.out HZ2.out rfl (by decide) _ _ _ rfl H0.out a ar.length c ((flA ar).map (Value.int .i64)) rfl HL1.out HN1.out HHO.out HM1.out HS1.out HB0.out.size ?_; intro v2 w2 hown2 hgrow2 _; obtain ⟨A2, c2, rfl, HO2, HB2⟩ := app_newsA HB0 H0 hown2 hgrow2 HJ HLL.out; clear hown2 hgrow2)
    go_ret
    exact ⟨_, _, rfl, HO2.out, HB2.out⟩
/-- Three cells set. -/
def put3 (xs : List Value) (o : Nat) (v0 v1 v2 : Value) : List Value := ((xs.set o v0).set (o + 1) v1).set (o + 2) v2
def threeW (w : World) (g o : Nat) (v0 v1 v2 : Value) : World := ((w.setCell ⟨g, o, none⟩ v0).setCell ⟨g, o + 1, none⟩ v1).setCell ⟨g, o + 2, none⟩ v2
theorem three_own {w : World} {base g n cap o : Nat} {e : TypeId} {xs : List Value} (h : w.ownsRow base e 3 (.slice (some ⟨g, 0, none⟩) n cap) n xs) (v0 v1 v2 : Value) :
    (threeW w g o v0 v1 v2).ownsRow base e 3 (.slice (some ⟨g, 0, none⟩) n cap) n (put3 xs o v0 v1 v2) ∧ w.grownBy (threeW w g o v0 v1 v2) (some g) := by
  have h0 := h.stored o v0
  have h1 := h0.1.stored (o + 1) v1
  have h2 := h1.1.stored (o + 2) v2
  exact ⟨h2.1, grown_transx (grown_transx h0.2 h1.2) h2.2⟩
theorem flA_set : ∀ (ar : List Ac) (k : Nat) (a : Ac), k < ar.length → (flA (ar.set k a)).map (Value.int .i64) = put3 ((flA ar).map (Value.int .i64)) (k * 3) (.int .i64 a.w) (.int .i64 a.f) (.int .i64 a.t)
  | [], k, a, h => absurd h (by simp)
  | x :: xs, 0, a, _ => by simp [flA, put3]
  | x :: xs, k + 1, a, h => by
    have ih := flA_set xs k a (by simpa using h)
    have e : (k + 1) * 3 = k * 3 + 1 + 1 + 1 := by omega
    simp only [List.set_cons_succ, flA, List.map_cons, ih, put3, e]
/-- What is kept of the first j arcs. -/
def kpA (X : List Int) (ar : List Ac) (j : Nat) : List Ac := (ar.take j).filter fun a => !outB X a
theorem kpA_yes {X : List Int} {ar : List Ac} {j : Nat} (h : j < ar.length) (hk : outB X (ar.getD j Ac.nil) = false) : kpA X ar (j + 1) = kpA X ar j ++ [ar.getD j Ac.nil] := by
  unfold kpA; rw [takeL_succ (d := Ac.nil) h, List.filter_append]
  simp only [List.filter_cons, List.filter_nil, hk, Bool.not_false, if_true]
theorem kpA_no {X : List Int} {ar : List Ac} {j : Nat} (h : j < ar.length) (hk : outB X (ar.getD j Ac.nil) = true) : kpA X ar (j + 1) = kpA X ar j := by
  unfold kpA; rw [takeL_succ (d := Ac.nil) h, List.filter_append]
  simp only [List.filter_cons, List.filter_nil, hk, Bool.not_true]
  simp
theorem kpA_all {X : List Int} {ar : List Ac} {k : Nat} (hk : k ≤ ar.length) (h : ∀ m, m < k → outB X (ar.getD m Ac.nil) = false) : kpA X ar k = ar.take k := by
  unfold kpA
  rw [List.filter_eq_self]
  intro a ha
  obtain ⟨m, hm, e⟩ := List.getElem_of_mem ha
  rw [List.length_take] at hm
  have := h m (by omega)
  have e2 : ar.getD m Ac.nil = a := by
    rw [← e, List.getElem_take]
    simp [List.getD, show m < ar.length by omega]
  rw [e2] at this
  rw [this]; rfl
/-- The row while it is being filtered: m are kept of the first j. -/
structure FltA (X : List Int) (ar cur : List Ac) (j m : Nat) : Prop where
  len : cur.length = ar.length
  kept : m = (kpA X ar j).length
  lt : m < j
  front : cur.take m = kpA X ar j
  back : ∀ x, j ≤ x → x < ar.length → cur.getD x Ac.nil = ar.getD x Ac.nil
theorem FltA.start {X : List Int} {ar : List Ac} {k : Nat} (hk : k < ar.length) (h : ∀ m, m < k → outB X (ar.getD m Ac.nil) = false) (hd : outB X (ar.getD k Ac.nil) = true) : FltA X ar ar (k + 1) k := by
  have e : kpA X ar (k + 1) = ar.take k := by rw [kpA_no hk hd, kpA_all (by omega) h]
  exact ⟨rfl, by rw [e, List.length_take]; omega, by omega, e.symm, fun _ _ _ => rfl⟩
theorem FltA.drop {X : List Int} {ar cur : List Ac} {j m : Nat} (s : FltA X ar cur j m) (hj : j < ar.length) (hd : outB X (ar.getD j Ac.nil) = true) : FltA X ar cur (j + 1) m :=
  ⟨s.len, by rw [kpA_no hj hd]; exact s.kept, by have := s.lt; omega, by rw [kpA_no hj hd]; exact s.front, fun x h1 h2 => s.back x (by omega) h2⟩
theorem FltA.keep {X : List Int} {ar cur : List Ac} {j m : Nat} (s : FltA X ar cur j m) (hj : j < ar.length) (hd : outB X (ar.getD j Ac.nil) = false) : FltA X ar (cur.set m (ar.getD j Ac.nil)) (j + 1) (m + 1) := by
  have hm := s.lt
  have hlen := s.len
  refine ⟨by rw [List.length_set]; exact s.len, by rw [kpA_yes hj hd, List.length_append, ← s.kept]; rfl, by omega, ?_, fun x h1 h2 => ?_⟩
  · rw [kpA_yes hj hd, ← s.front]
    generalize ar.getD j Ac.nil = a
    rw [List.take_succ_eq_append_getElem (by rw [List.length_set]; omega), List.take_set_of_le (Nat.le_refl m)]
    simp
  · rw [← s.back x (by omega) h2]
    generalize ar.getD j Ac.nil = a
    simp only [List.getD]
    rw [List.getElem?_set_ne (by omega)]
theorem own_setCells3 {g lo n cap : Nat} {e : TypeId} : ∀ (vs : List Value) (o : Nat) (w : World) (xs : List Value), w.ownsRow lo e 3 (.slice (some ⟨g, 0, none⟩) n cap) n xs →
    ∃ xs', (w.setCells g o vs).ownsRow lo e 3 (.slice (some ⟨g, 0, none⟩) n cap) n xs' ∧ xs'.take o = xs.take o ∧ w.grownBy (w.setCells g o vs) (some g)
  | [], o, w, xs, h => ⟨xs, h, rfl, World.grownBy.refl w _⟩
  | v :: vs, o, w, xs, h => by
    obtain ⟨h1, h2⟩ := h.stored o v
    obtain ⟨xs', h3, h4, h5⟩ := own_setCells3 vs (o + 1) (w.setCell ⟨g, o, none⟩ v) (xs.set o v) h1
    refine ⟨xs', h3, ?_, grown_transx h2 h5⟩
    have e1 := congrArg (List.take o) h4
    rw [List.take_take, List.take_take, Nat.min_eq_left (by omega)] at e1
    rw [e1, List.take_set_of_le (Nat.le_refl o)]
theorem own_short3 {w : World} {base n k c : Nat} {e : TypeId} {A : Option Addr} {xs : List Value} (h : w.ownsRow base e 3 (.slice A n c) n xs) (hk : k ≤ n) : w.ownsRow base e 3 (.slice A k c) k (xs.take (k * 3)) := by
  obtain ⟨h1, h2⟩ := h
  refine ⟨by rw [List.length_take]; omega, ?_⟩
  rcases h2 with ⟨hv, rfl⟩ | ⟨g, cap, cur, hv, hb, hh, hn, hc, hs, ht⟩
  · have : k = 0 := by omega
    subst this
    exact .inl ⟨hv, rfl⟩
  · refine .inr ⟨g, cap, cur, ?_, hb, hh, by omega, hc, hs, ?_⟩
    · injection hv with a1 a2 a3
      rw [a1, a3]
    · rw [← ht, List.take_take, Nat.min_eq_left (by omega)]
theorem flA_take : ∀ (ar : List Ac) (m : Nat), flA (ar.take m) = (flA ar).take (m * 3)
  | [], m => by simp [flA]
  | a :: ar, 0 => by simp [flA]
  | a :: ar, m + 1 => by
    have e : (m + 1) * 3 = m * 3 + 1 + 1 + 1 := by omega
    rw [e]
    simp only [List.take_succ_cons, flA, flA_take ar m]
theorem zeroArc : ∀ w : World, (zeroValue 59).run Tryd.prog w = .ok (.agg #[.int .i64 0, .int .i64 0, .int .i64 0]) w := Tryd.zeroValue59
theorem zeroCells3 (n : Nat) : (Builtin.zeroCells (Value.agg #[.int .i64 0, .int .i64 0, .int .i64 0]).cells n).toList = List.replicate (n * 3) (Value.int .i64 0) := by
  have hc : (Value.agg #[.int .i64 0, .int .i64 0, .int .i64 0]).cells = #[Value.int .i64 0, Value.int .i64 0, Value.int .i64 0] := rfl
  rw [hc]
  apply List.ext_getElem?
  intro j
  by_cases hj : j < n * 3
  · have : j % 3 = 0 ∨ j % 3 = 1 ∨ j % 3 = 2 := by omega
    rcases this with e | e | e <;> simp [Builtin.zeroCells, hj, e]
  · simp [Builtin.zeroCells, hj]
theorem run_clear_arcs (w : World) (ty : TypeId) (g o n c : Nat) (hn : 0 < n) (hc : ∀ j, j < n * 3 → (w.cell? ⟨g, o + j, none⟩).isSome = true) (hf : ∀ j, j < n * 3 → w.frozen? ⟨g, o + j, none⟩ = false) :
    (Builtin.clear_ #[56] ty #[.slice (some ⟨g, o, none⟩) n c]).run Tryd.prog w = .ok (.tuple #[]) (w.setCells g o (List.replicate (n * 3) (Value.int .i64 0))) := by
  have hst := run_storeCells_cells (P := Tryd.prog) g o (List.replicate (n * 3) (Value.int .i64 0)) 0 w (by simpa using hc) (by simpa using hf) (by intro v hv'; rw [List.eq_of_mem_replicate hv']; rfl)
  simp only [Nat.add_zero] at hst
  have hz := zeroArc w
  have hzc := zeroCells3 n
  obtain ⟨m, rfl⟩ : ∃ m, n = m + 1 := ⟨n - 1, by omega⟩
  simp [Builtin.clear_, run_underlying Tryd.underlying56, hz, hzc, hst]
end Go.Proofs.YtlcapifgpcimpaaDoor
