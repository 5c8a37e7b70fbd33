/- Substitution: the mathematics; the model's IsBinding, subst, SubstForm. SwappedSeq of the program and of the model. The program's bindings, arrays of eight slices: bindingOf, IsBinding. The program's bindingOf and IsBinding. An operation of a drawn region taken: its side conditions by themselves. -/
import Derived.Test.YthbkcpacgnmcfaaGreatDoorQSpD
import Derived.Test.YthbkcpacgnmcfaaGreatDoorQClone
import Derived.Test.YthbkcpacgnmcfaaGreatDoorQCopyS
import Derived.Test.YthbkcpacgnmcfaaGreatDoorQMath
import Derived.BigRegion
import Derived.Laws.ResultCell
import Derived.Deep.RegionHeldLaw
import Derived.Test.YthbkcpacgnmcfaaGreatDoorQMark
import Derived.Laws.Tables
import Derived.Laws.CopyOwn
import Derived.Deep.Cut
import Derived.OrdersHeld
import Derived.Deep.RegionHeld
import Derived.Deep.RegionHeld3
namespace Go.Proofs.YthbkcpacgnmcfaaGreatDoor
set_option linter.unusedSimpArgs false
set_option linter.unusedVariables false
section
open Go.ChangeAt Go.ChangeShapes Go.RowKit Go.WideShapes

/-- A binding. -/
def elB (q : List Int) : Bool := decide (q.length = 0) || validB q
def bndB (qs : List (List Int)) : Bool := decide (qs.length = 8) && qs.all elB
/-- The element of an atom. -/
def elt (qs : List (List Int)) (x : Int) : List Int := qs.getD (x.natAbs - 1) []
def sub1 (qs : List (List Int)) (x : Int) : List Int := if leafB x = true ∧ 0 < (elt qs x).length then (if 0 < x then elt qs x else dualL (elt qs x)) else [x]
def sbL (qs : List (List Int)) (f : List Int) : List Int := f.flatMap (sub1 qs)
theorem bnd_len {qs : List (List Int)} (h : bndB qs = true) : qs.length = 8 := by
  unfold bndB at h
  simp only [Bool.and_eq_true, decide_eq_true_eq] at h
  exact h.1
theorem bnd_at {qs : List (List Int)} (h : bndB qs = true) (k : Nat) : elB (qs.getD k []) = true := by
  unfold bndB at h
  simp only [Bool.and_eq_true, decide_eq_true_eq] at h
  by_cases hk : k < qs.length
  · exact List.all_eq_true.1 h.2 _ (getD_mem hk)
  · rw [List.getD, List.getElem?_eq_none (by omega)]; rfl
theorem bnd_bad {qs : List (List Int)} {k : Nat} (hk : k < qs.length) (hb : elB (qs.getD k []) = false) : bndB qs = false := by
  unfold bndB
  rw [List.all_eq_false.2 ⟨_, getD_mem hk, by rw [hb]; decide⟩, Bool.and_false]
theorem bnd_step {qs : List (List Int)} {k : Nat} (h : k < qs.length) (ha : (qs.take k).all elB = true) (hb : elB (qs.getD k []) = true) : (qs.take (k + 1)).all elB = true := by
  rw [← take_push h, List.all_append, ha, Bool.true_and, List.all_cons, hb]
  rfl
theorem bnd_end {qs : List (List Int)} (ha : (qs.take qs.length).all elB = true) : bndB qs = decide (qs.length = 8) := by
  rw [List.take_of_length_le (Nat.le_refl _)] at ha
  unfold bndB
  rw [ha, Bool.and_true]
theorem elB_valid {q : List Int} (h : elB q = true) (hn : 0 < q.length) : validB q = true := by
  unfold elB at h
  rw [decide_eq_false (by omega), Bool.false_or] at h
  exact h
theorem elB_len {q : List Int} (h : elB q = true) : q.length ≤ 24 := by
  by_cases hn : 0 < q.length
  · have := valid_len (elB_valid h hn); omega
  · omega
theorem elt_ok {qs : List (List Int)} (h : bndB qs = true) (x : Int) : elB (elt qs x) = true := bnd_at h _
theorem leaf_range {x : Int} (h : leafB x = true) : 1 ≤ x.natAbs ∧ x.natAbs ≤ 8 := by
  unfold leafB at h
  have := of_decide_eq_true h
  omega
theorem sub1_len {qs : List (List Int)} (h : bndB qs = true) (x : Int) : (sub1 qs x).length ≤ 24 := by
  unfold sub1
  split
  · split
    · exact elB_len (elt_ok h x)
    · exact dualL_len _
  · simp
theorem sbL_take {qs : List (List Int)} {f : List Int} {k : Nat} (h : k < f.length) : sbL qs (f.take (k + 1)) = sbL qs (f.take k) ++ sub1 qs (f.getD k 0) := by
  unfold sbL
  rw [List.take_succ_eq_append_getElem h, List.flatMap_append]
  simp [List.getD, h]
theorem sbL_len {qs : List (List Int)} (h : bndB qs = true) (f : List Int) : (sbL qs f).length ≤ 24 * f.length := by
  induction f with
  | nil => simp [sbL]
  | cons x f ih =>
    have e : sbL qs (x :: f) = sub1 qs x ++ sbL qs f := by simp [sbL]
    have := sub1_len h x
    rw [e, List.length_append, List.length_cons, Nat.mul_add]
    omega
set_option maxHeartbeats 1000000 in
theorem sIsBinding_any (A : Option Addr) (n c : Nat) (qs : List (List Int)) (w : World) (h : RdQ w w.heap.size A n qs) (hn : n ≤ 1048576) :
    Calls Tryz.prog 18 #[.slice A n c] w fun e w' => e = .returned (.bool (bndB qs)) ∧ Below w.heap.size w w' := by
  have hl := h.len
  subst hl
  have H := Lib.hid h
  clear h
  go_enter Tryz.func18, Tryz.ntmps18
  go_wp2
  go_loopw [3] (fun i wr => ∃ k : Nat, k ≤ qs.length ∧ i = .int .i64 k ∧ (qs.take k).all elB = true ∧ Below w.heap.size w wr) (fun i _ => qs.length - (intOf i).toNat)
  case atStart => exact ⟨0, Nat.zero_le _, rfl, by simp, Below.refl _ _⟩
  case round =>
    obtain ⟨k, hk, rfl, hall, hb⟩ := hrel
    have HB := Lib.hid hb
    by_cases hlt : k < qs.length
    · have h1 := (H.out.below hb).more hb.size
      obtain ⟨b, off, rfl, hbb, hcells⟩ := h1.2 (by omega)
      obtain ⟨A', c', hcell, hcc, hrd⟩ := hcells k hlt
      have HS := Lib.hid (fun hb : elB (qs.getD k []) = true => bnd_step hlt hall hb)
      have HN := Lib.hid (fun hb : elB (qs.getD k []) = false => bnd_bad hlt hb)
      have hV := Lib.hid (sValidForm_any A' _ c' _ wr hrd)
      by_cases h0 : 0 < (qs.getD k []).length
      · have hd : decide (0 < ((qs.getD k []).length : Int)) = true := decide_eq_true (by omega)
        have he : elB (qs.getD k []) = validB (qs.getD k []) := by unfold elB; rw [decide_eq_false (by omega), Bool.false_or]
        rw [he] at HS HN
        clear hcells h1 hall hrd he hb
        cases hv : validB (qs.getD k []) with
        | false =>
          have HE : Hid (false = bndB qs) := Lib.hid (HN.out hv).symm
          rw [hv] at hV
          clear HS HN hv
          generalize (qs.getD k []).length = M at *
          go_wp2_with (go_at_call 33; refine hV.out.mono ?_; rintro e w' ⟨rfl, rfl⟩)
          go_ret
          exact ⟨ret_bool' HE.out, HB.out⟩
        | true =>
          have HA := Lib.hid (HS.out hv)
          rw [hv] at hV
          clear HS HN hv
          generalize (qs.getD k []).length = M at *
          go_wp2_with (go_at_call 33; refine hV.out.mono ?_; rintro e w' ⟨rfl, rfl⟩)
          go_roundw
          case rel => exact ⟨k + 1, by omega, by go_num, HA.out, HB.out⟩
          case measure => simp [intOf]; omega
      · have hd : decide (0 < ((qs.getD k []).length : Int)) = false := decide_eq_false (by omega)
        have HA := Lib.hid (HS.out (by unfold elB; rw [decide_eq_true (by omega), Bool.true_or]))
        clear hcells h1 hall hrd hb HS HN hV
        generalize (qs.getD k []).length = M at *
        go_wp2
        go_roundw
        case rel => exact ⟨k + 1, by omega, by go_num, HA.out, HB.out⟩
        case measure => simp [intOf]; omega
    · have hkl : k = qs.length := by omega
      subst hkl
      have HE : Hid (((qs.length : Int) == 8) = bndB qs) := Lib.hid (by
        rw [bnd_end hall]
        by_cases h8 : qs.length = 8
        · rw [decide_eq_true h8, h8]; rfl
        · rw [decide_eq_false h8]; simp; omega)
      clear hall hb
      go_wp2
      go_ret
      exact ⟨ret_bool' HE.out, HB.out⟩
end
section
open Go.ChangeShapes Go.WideShapes Go.ChangeAt Go.RowKit

/-- i is a position. -/
def posB (i : Int) (n : Nat) : Bool := decide (0 ≤ i ∧ i < (n : Int))
theorem posB_nat {i : Int} {n : Nat} (h : posB i n = true) : ∃ k : Nat, i = k ∧ k < n := by
  have h' := of_decide_eq_true h
  exact ⟨i.toNat, by omega, by omega⟩
theorem results_cell_row_tmp {P : Program} {fn : Func} {p u : Tmp} {ty : TypeId} (h : fn.results = #[.cell p ty, .tmp u]) (tmps : Array Value) (w : World) (g : Nat) (t : TypeId) (cs : Array Value) (fr : Nat × Nat) (d : TypeDesc)
    (hp : tmps.getD p undef = .pointer (some ⟨g, 0, none⟩)) (hg : w.heap[g]? = some (.cells cs t fr))
    (hu : P.underlying ty = some d) (hd : (match d with | .struct _ | .array _ _ => true | _ => false) = true) (hi : (P.info? ty).map (·.size) = some cs.size) :
    (results fn tmps).run P w = .ok (.tuple #[.agg cs, tmps.getD u undef]) w := by
  have hp' : tmps[p]?.getD undef = .pointer (some ⟨g, 0, none⟩) := by simpa using hp
  rw [results_cell_tmp h]
  simp [hp', asAddr, run_loadVar_row w g t ty cs fr d hg hu hd hi, Result.andThen]

set_option maxHeartbeats 1000000 in
theorem isPos_impl (A : Option Addr) (n c : Nat) (i : Int) (w : World) (_hn : n ≤ 1048576) :
    Calls Tryz.prog 99 #[.agg #[.slice A n c], .int .i64 i] w fun e w' => e = .returned (.bool (posB i n)) ∧ Below w.heap.size w w' := by
  have HB := Lib.hid (box_below w (.slice A n c) 64)
  by_cases h0 : 0 ≤ i
  · have hd : decide (0 ≤ i) = true := decide_eq_true h0
    have HE : Hid (decide (i < (n : Int)) = posB i n) := Lib.hid (by
      unfold posB
      by_cases h : i < (n : Int)
      · rw [decide_eq_true h, decide_eq_true ⟨h0, h⟩]
      · rw [decide_eq_false h, decide_eq_false (fun x => h x.2)])
    go_enter Tryz.func99, Tryz.ntmps99
    go_wp2
    go_ret
    exact ⟨ret_bool' (by rw [← HE.out]), HB.out⟩
  · have hd : decide (0 ≤ i) = false := decide_eq_false h0
    have HE : Hid (false = posB i n) := Lib.hid (by unfold posB; rw [decide_eq_false (fun x => h0 x.1)])
    go_enter Tryz.func99, Tryz.ntmps99
    go_wp2
    go_ret
    exact ⟨ret_bool' HE.out, HB.out⟩

set_option maxHeartbeats 1000000 in
theorem sIsPos_any (A : Option Addr) (n c : Nat) (i : Int) (w : World) (hn : n ≤ 1048576) :
    Calls Tryz.prog 68 #[.agg #[.slice A n c], .int .i64 i] w fun e w' => e = .returned (.bool (posB i n)) ∧ Below w.heap.size w w' := by
  have HB := Lib.hid (box_below w (.slice A n c) 64)
  have HE : Hid (decide (0 ≤ i ∧ i ≤ (n : Int) - 1) = posB i n) := Lib.hid (by
    unfold posB
    by_cases h : 0 ≤ i ∧ i < (n : Int)
    · rw [decide_eq_true h, decide_eq_true ⟨h.1, by omega⟩]
    · rw [decide_eq_false h, decide_eq_false (fun x => h ⟨x.1, by omega⟩)])
  have HR := Lib.hid (fun w => inRange_any i 0 ((n : Int) - 1) w)
  generalize decide (0 ≤ i ∧ i ≤ (n : Int) - 1) = D at *
  go_enter Tryz.func68, Tryz.ntmps68
  go_wp2_with (fail)
  refine (HR.out _).mono ?_
  rintro e w' ⟨rfl, rfl⟩
  go_wp2
  go_ret
  exact ⟨ret_bool' HE.out, HB.out⟩
end
section
open Go.ChangeAt Go.ChangeShapes Go.RowKit Go.WideShapes

/-- An array of eight slices that read as a binding. -/
structure BndV (w : World) (cs : Array Value) (qs : List (List Int)) : Prop where
  size : cs.size = 8
  len : qs.length = 8
  one : cs.all (·.oneCell') = true
  part : ∀ k, k < 8 → ∃ A c, cs[k]? = some (.slice A (qs.getD k []).length c) ∧ (qs.getD k []).length ≤ c ∧ RdI w w.heap.size A (qs.getD k []).length (qs.getD k [])
theorem BndV.below {w w' : World} {cs : Array Value} {qs : List (List Int)} (h : BndV w cs qs) (hb : Below w.heap.size w w') : BndV w' cs qs :=
  ⟨h.size, h.len, h.one, fun k hk => by
    obtain ⟨A, c, h1, h2, h3⟩ := h.part k hk
    exact ⟨A, c, h1, h2, (h3.below hb).more hb.size⟩⟩
/-- The zero array. -/
def nil8 : Array Value := #[.slice none 0 0, .slice none 0 0, .slice none 0 0, .slice none 0 0, .slice none 0 0, .slice none 0 0, .slice none 0 0, .slice none 0 0]
theorem bnd_zero (w : World) : BndV w nil8 (List.replicate 8 []) :=
  ⟨rfl, rfl, by simp [nil8, Value.oneCell'], fun k hk => by
    have e : (List.replicate 8 ([] : List Int)).getD k [] = [] := by
      rw [List.getD, List.getElem?_replicate, if_pos hk]; rfl
    rw [e]
    refine ⟨none, 0, ?_, Nat.le_refl _, ⟨rfl, fun h => absurd h (by simp)⟩⟩
    rcases k with _ | _ | _ | _ | _ | _ | _ | _ | k <;> first | rfl | omega⟩
/-- The row of a binding that is one, as an array's cells. -/
theorem bnd_row {w : World} {b off : Nat} {qs : List (List Int)} (h : RdQ w w.heap.size (some ⟨b, off, none⟩) 8 qs) :
    ∃ cs : List Value, cs.length = 8 ∧ BndV w cs.toArray qs ∧ (∀ j v, cs[j]? = some v → w.cell? ((⟨b, off, none⟩ : Addr).add j) = some v) ∧ ∀ v ∈ cs, v.oneCell' = true := by
  have hl := h.len
  obtain ⟨b', off', e, _, hc⟩ := h.2 (by omega)
  cases e
  have hat : ∀ k, k < 8 → ∃ A c, ((List.range 8).map fun j => (w.cell? ⟨b, off + j, none⟩).getD undef)[k]? = some (.slice A (qs.getD k []).length c) ∧ (qs.getD k []).length ≤ c ∧ RdI w w.heap.size A (qs.getD k []).length (qs.getD k []) ∧ w.cell? ⟨b, off + k, none⟩ = some (.slice A (qs.getD k []).length c) := by
    intro k hk
    obtain ⟨A, c, h1, h2, h3⟩ := hc k (by omega)
    refine ⟨A, c, ?_, h2, h3, h1⟩
    rw [List.getElem?_map, List.getElem?_range hk, Option.map_some, h1]; rfl
  have hone : ∀ v ∈ ((List.range 8).map fun j => (w.cell? ⟨b, off + j, none⟩).getD undef), v.oneCell' = true := by
    intro v hv
    obtain ⟨j, hj, rfl⟩ := List.mem_map.1 hv
    obtain ⟨A, c, _, _, _, h4⟩ := hat j (List.mem_range.1 hj)
    rw [h4]; rfl
  refine ⟨_, by simp, ⟨by simp, hl, ?_, fun k hk => ?_⟩, fun j v hv => ?_, hone⟩
  · rw [Array.all_eq_true_iff_forall_mem]
    intro v hv
    exact hone v (by simpa using hv)
  · obtain ⟨A, c, h1, h2, h3, _⟩ := hat k hk
    exact ⟨A, c, by simpa using h1, h2, h3⟩
  · have hj : j < 8 := by
      have := (List.getElem?_eq_some_iff.1 hv).1
      simpa using this
    obtain ⟨A, c, h1, _, _, h4⟩ := hat j hj
    have hadd : (⟨b, off, none⟩ : Addr).add j = ⟨b, off + j, none⟩ := by unfold Addr.add; split <;> simp_all
    rw [hadd, h4, ← h1, hv]
def bndQ (qs : List (List Int)) : List (List Int) := if bndB qs = true then qs else List.replicate 8 []
theorem bndQ_yes {qs : List (List Int)} (h : bndB qs = true) : bndQ qs = qs := if_pos h
theorem bndQ_no {qs : List (List Int)} (h : bndB qs = false) : bndQ qs = List.replicate 8 [] := if_neg (by rw [h]; simp)
theorem bndQ_ok (qs : List (List Int)) (k : Nat) : elB ((bndQ qs).getD k []) = true := by
  cases h : bndB qs with
  | true => rw [bndQ_yes h]; exact bnd_at h k
  | false =>
    rw [bndQ_no h, List.getD, List.getElem?_replicate]
    split <;> rfl
end
section
open Go.ChangeAt Go.ChangeShapes Go.RowKit Go.WideShapes

theorem size_bnd : (Tryz.prog.info? 48).map (·.size) = some 8 := by kernel_rfl
theorem size_sl : (Tryz.prog.info? 36).map (·.size) = some 1 := by kernel_rfl
theorem add_block (b off j : Nat) : ((⟨b, off, none⟩ : Addr).add j).block = b := by unfold Addr.add; split <;> simp_all
/-- What bindingOf leaves. -/
def GivesB8 (w : World) (qs : List (List Int)) (e : Ending) (w' : World) : Prop :=
  ∃ cs, e = .returned (.tuple #[.agg cs, .bool (bndB qs)]) ∧ BndV w' cs (bndQ qs) ∧ Below w.heap.size w w'
theorem two_boxesA (w : World) (cs : Array Value) : Below w.heap.size w ((w.alloc (.cells cs 48)).alloc (.cells cs 48)) ∧ ((w.alloc (.cells cs 48)).alloc (.cells cs 48)).heap.size = w.heap.size + 2 := by
  refine ⟨((Below.refl _ _).alloc (Nat.le_refl _) _).alloc (by simp) _, by simp⟩
theorem bnd_out {w0 w w' : World} {g : Nat} {cs : Array Value} {qs : List (List Int)} (hb : Below w0.heap.size w0 w) (hg : w0.heap.size ≤ g) (h : BndV w0 cs qs) (hw : w' = w.setRow g cs) : BndV w' cs qs ∧ Below w0.heap.size w0 w' := by
  subst hw
  have := below_setRow hb hg cs
  exact ⟨h.below this, this⟩

set_option maxRecDepth 100000 in
set_option maxHeartbeats 4000000 in
theorem bindingOf_any (A : Option Addr) (n c : Nat) (qs : List (List Int)) (w : World) (h : RdQ w w.heap.size A n qs) (hn : n ≤ 1048576) (ht : Arit w) :
    Calls Tryz.prog 23 #[.slice A n c] w (GivesB8 w qs) := by
  have hl := h.len
  obtain ⟨w2, hw2⟩ : ∃ w2, w2 = (w.alloc (.cells #[Value.slice none 0 0, Value.slice none 0 0, Value.slice none 0 0, Value.slice none 0 0, Value.slice none 0 0, Value.slice none 0 0, Value.slice none 0 0, Value.slice none 0 0] 48)).alloc (.cells #[Value.slice none 0 0, Value.slice none 0 0, Value.slice none 0 0, Value.slice none 0 0, Value.slice none 0 0, Value.slice none 0 0, Value.slice none 0 0, Value.slice none 0 0] 48) := ⟨_, rfl⟩
  obtain ⟨hb2, hs2⟩ := two_boxesA w #[Value.slice none 0 0, Value.slice none 0 0, Value.slice none 0 0, Value.slice none 0 0, Value.slice none 0 0, Value.slice none 0 0, Value.slice none 0 0, Value.slice none 0 0]
  obtain ⟨hg2, hg4⟩ := two_heap w (.cells #[Value.slice none 0 0, Value.slice none 0 0, Value.slice none 0 0, Value.slice none 0 0, Value.slice none 0 0, Value.slice none 0 0, Value.slice none 0 0, Value.slice none 0 0] 48) (.cells #[Value.slice none 0 0, Value.slice none 0 0, Value.slice none 0 0, Value.slice none 0 0, Value.slice none 0 0, Value.slice none 0 0, Value.slice none 0 0, Value.slice none 0 0] 48)
  rw [← hw2] at hb2 hs2 hg2 hg4
  have HW2 := Lib.hid hw2
  have HZ := Lib.hid (bnd_zero w)
  have HB2 := Lib.hid hb2; have HS2 := Lib.hid hs2; have HG2 := Lib.hid hg2; have HG4 := Lib.hid hg4
  clear hw2 hb2 hs2 hg2 hg4
  by_cases h8 : n = 8
  · subst h8
    have HL := Lib.hid hl
    have H2 := Lib.hid ((h.below HB2.out).more HB2.out.size)
    obtain ⟨bA, oA, rfl, hbbA, _⟩ := h.2 (by omega)
    have HRQ := Lib.hid h
    clear h hl
    go_enter Tryz.func23, Tryz.ntmps23
    go_upto_region 2 with (fail)
    rw [← HW2.out]
    go_wp2
    go_loopw [6, 13] (fun _ i wr => ∃ k : Nat, k ≤ 8 ∧ i = .int .i64 k ∧ (qs.take k).all elB = true ∧ Below w2.heap.size w2 wr) (fun _ i _ => 8 - (intOf i).toNat)
    case atStart => exact ⟨0, Nat.zero_le _, rfl, by simp, Below.refl _ _⟩
    case round =>
      obtain ⟨k, hk, rfl, hall, hb⟩ := hrel
      have HB := Lib.hid hb
      have hs2 := HS2.out
      have HG2r : Hid (wr.heap[w.heap.size]? = _) := Lib.hid ((hb.block w.heap.size (by omega)).trans HG2.out)
      have HG4r : Hid (wr.heap[w.heap.size + 1]? = _) := Lib.hid ((hb.block (w.heap.size + 1) (by omega)).trans HG4.out)
      have HBr := Lib.hid (HB2.out.trans (hb.mono HB2.out.size))
      have HALL := Lib.hid hall
      clear hs2 hall
      by_cases hlt : k < 8
      · have hd8 : decide ((k : Int) < 8) = true := decide_eq_true (by omega)
        have h1 := (H2.out.below hb).more hb.size
        have hl8 := HL.out
        obtain ⟨b, off, e, hbb, hcells⟩ := h1.2 (by omega)
        cases e
        obtain ⟨A', c', hcell, hcc, hrd⟩ := hcells k (by omega)
        have HS := Lib.hid (fun hb : elB (qs.getD k []) = true => bnd_step (qs := qs) (by omega) HALL.out hb)
        have HN := Lib.hid (fun hb : elB (qs.getD k []) = false => bnd_bad (qs := qs) (by omega) hb)
        have hV := Lib.hid (validForm_impl A' _ c' _ wr hrd (ht.below HBr.out ht.lt) hcc)
        clear hl8
        by_cases h0 : 0 < (qs.getD k []).length
        · have hd : decide (0 < ((qs.getD k []).length : Int)) = true := decide_eq_true (by omega)
          have he : elB (qs.getD k []) = validB (qs.getD k []) := by unfold elB; rw [decide_eq_false (by omega), Bool.false_or]
          rw [he] at HS HN
          clear hcells h1 hrd he hb
          cases hv : validB (qs.getD k []) with
          | false =>
            have hbad : bndB qs = false := HN.out hv
            have HE := Lib.hid (bndQ_no hbad)
            have HBAD := Lib.hid hbad
            rw [hv] at hV
            clear HS HN hv hbad
            generalize (qs.getD k []).length = M at *
            go_wp2_with (first
              | (go_at_call 37; refine hV.out.mono ?_; rintro e w' ⟨rfl, rfl⟩)
              | (refine wpList_load_row rfl _ _ rfl (w.heap.size + 1) rfl _ _ _ _ HG4r.out Tryz.underlying48 rfl size_bnd ?_)
              | (refine wpList_store_row rfl _ _ _ rfl w.heap.size _ rfl rfl _ _ HG2r.out size_bnd rfl (by simp [Value.oneCell']) ?_))
            obtain ⟨w3, hw3⟩ : ∃ w3, w3 = wr.setRow w.heap.size #[Value.slice none 0 0, Value.slice none 0 0, Value.slice none 0 0, Value.slice none 0 0, Value.slice none 0 0, Value.slice none 0 0, Value.slice none 0 0, Value.slice none 0 0] := ⟨_, rfl⟩
            obtain ⟨o3, b3⟩ := bnd_out HBr.out (Nat.le_refl _) HZ.out hw3
            have hg3 := setRow_heap wr w.heap.size _ #[Value.slice none 0 0, Value.slice none 0 0, Value.slice none 0 0, Value.slice none 0 0, Value.slice none 0 0, Value.slice none 0 0, Value.slice none 0 0, Value.slice none 0 0] _ _ HG2r.out
            rw [← hw3] at hg3 ⊢
            have HG3 := Lib.hid hg3; have HO3 := Lib.hid o3; have HB3 := Lib.hid b3
            clear hw3 hg3 o3 b3
            go_wp2
            (try simp only [Exit.inBlock, Exit.then])
            refine bodyPost_ret (results_cell_row_tmp rfl _ _ w.heap.size _ _ (0, 0) _ rfl HG3.out Tryz.underlying48 rfl size_bnd) rfl ?_
            exact ⟨_, by rw [HBAD.out]; rfl, by rw [HE.out]; exact HO3.out, HB3.out⟩
          | true =>
            have HA := Lib.hid (HS.out hv)
            rw [hv] at hV
            clear HS HN hv
            generalize (qs.getD k []).length = M at *
            go_wp2_with (go_at_call 37; refine hV.out.mono ?_; rintro e w' ⟨rfl, rfl⟩)
            go_roundw
            case rel => exact ⟨k + 1, by omega, by go_num, HA.out, HB.out⟩
            case measure => simp [intOf]; omega
        · have hd : decide (0 < ((qs.getD k []).length : Int)) = false := decide_eq_false (by omega)
          have HA := Lib.hid (HS.out (by unfold elB; rw [decide_eq_true (by omega), Bool.true_or]))
          clear hcells h1 hrd hb HS HN hV
          generalize (qs.getD k []).length = M at *
          go_wp2
          go_roundw
          case rel => exact ⟨k + 1, by omega, by go_num, HA.out, HB.out⟩
          case measure => simp [intOf]; omega
      · have hkl : k = 8 := by omega
        subst hkl
        have hok : bndB qs = true := by
          have h := HALL.out
          rw [← HL.out] at h
          rw [bnd_end h, decide_eq_true HL.out]
        have hrow := bnd_row HRQ.out
        obtain ⟨cs, hc8, hbv, hsrc, h1c⟩ := hrow
        have HBV := Lib.hid hbv; have HSRC := Lib.hid (fun j v hv => (HBr.out.cell (p := (⟨bA, oA, none⟩ : Addr).add j) (by rw [add_block]; exact hbbA)).trans (hsrc j v hv)); have H1C := Lib.hid h1c; have HC8 := Lib.hid hc8
        have HOK := Lib.hid hok
        have HQY := Lib.hid (bndQ_yes hok)
        have hsp : splice [Value.slice none 0 0, Value.slice none 0 0, Value.slice none 0 0, Value.slice none 0 0, Value.slice none 0 0, Value.slice none 0 0, Value.slice none 0 0, Value.slice none 0 0] 0 cs = cs := by
          unfold splice
          rw [List.take_zero, List.nil_append, Nat.zero_add, hc8]
          simp
        have HSP := Lib.hid hsp
        clear hb hbv hsrc h1c hok hsp hc8
        go_wp2_with (first
          | (refine wpList_copy_splice rfl _ _ _ _ rfl 36 Tryz.underlying23 size_sl _ _ _ _ _ _ rfl rfl (w.heap.size + 1) 0 [Value.slice none 0 0, Value.slice none 0 0, Value.slice none 0 0, Value.slice none 0 0, Value.slice none 0 0, Value.slice none 0 0, Value.slice none 0 0, Value.slice none 0 0] _ HG4r.out cs (by rw [HC8.out]; rfl) (fun _ => ⟨rfl, _, rfl, HSRC.out⟩) (by rw [HC8.out]; exact Nat.le_refl _) H1C.out (w.heap.size + 1) wr (Below.refl _ _) (Nat.le_refl _) ?_; intro w5 HG5 hb5; have HG25 : Hid (w5.heap[w.heap.size]? = _) := Lib.hid ((hb5.block w.heap.size (Nat.lt_succ_self _)).trans HG2r.out); have HB5 := Lib.hid (HBr.out.trans (hb5.mono (Nat.le_succ _))); rw [HSP.out] at HG5; clear hb5)
          | (refine wpList_load_row rfl _ _ rfl (w.heap.size + 1) rfl _ _ _ _ HG5.out Tryz.underlying48 rfl (by rw [List.size_toArray, HC8.out]; exact size_bnd) ?_)
          | (refine wpList_store_row rfl _ _ _ rfl w.heap.size cs.toArray rfl rfl _ _ HG25.out ?i1 ?i2 ?i3 ?_; (case i1 => rw [List.size_toArray, HC8.out]; exact size_bnd); (case i2 => simp [HC8.out]); (case i3 => exact HBV.out.one)))
        obtain ⟨w6, hw6⟩ : ∃ w6, w6 = w5.setRow w.heap.size cs.toArray := ⟨_, rfl⟩
        obtain ⟨o6, b6⟩ := bnd_out HB5.out (Nat.le_refl _) HBV.out hw6
        have hg6 := setRow_heap w5 w.heap.size _ cs.toArray _ _ HG25.out
        rw [← hw6] at hg6 ⊢
        have HG6 := Lib.hid hg6; have HO6 := Lib.hid o6; have HB6 := Lib.hid b6
        clear hw6 hg6 o6 b6
        go_wp2
        (try simp only [Exit.inBlock, Exit.then])
        refine bodyPost_ret (results_cell_row_tmp rfl _ _ w.heap.size _ _ (0, 0) _ rfl HG6.out Tryz.underlying48 rfl (by rw [List.size_toArray, HC8.out]; exact size_bnd)) rfl ?_
        exact ⟨_, by rw [HOK.out]; rfl, by rw [HQY.out]; exact HO6.out, HB6.out⟩
  · have hne : ((n : Int) != 8) = true := by simp; omega
    have hbad : bndB qs = false := by unfold bndB; rw [decide_eq_false (by omega)]; rfl
    have HE := Lib.hid (bndQ_no hbad)
    have HBAD := Lib.hid hbad
    clear hbad hl h
    go_enter Tryz.func23, Tryz.ntmps23
    go_upto_region 2 with (fail)
    rw [← HW2.out]
    go_wp2_with (first
      | (refine wpList_load_row rfl _ _ rfl (w.heap.size + 1) rfl _ _ _ _ HG4.out Tryz.underlying48 rfl size_bnd ?_)
      | (refine wpList_store_row rfl _ _ _ rfl w.heap.size _ rfl rfl _ _ HG2.out size_bnd rfl (by simp [Value.oneCell']) ?_))
    obtain ⟨w3, hw3⟩ : ∃ w3, w3 = w2.setRow w.heap.size #[Value.slice none 0 0, Value.slice none 0 0, Value.slice none 0 0, Value.slice none 0 0, Value.slice none 0 0, Value.slice none 0 0, Value.slice none 0 0, Value.slice none 0 0] := ⟨_, rfl⟩
    obtain ⟨o3, b3⟩ := bnd_out HB2.out (Nat.le_refl _) HZ.out hw3
    have hg3 := setRow_heap w2 w.heap.size _ #[Value.slice none 0 0, Value.slice none 0 0, Value.slice none 0 0, Value.slice none 0 0, Value.slice none 0 0, Value.slice none 0 0, Value.slice none 0 0, Value.slice none 0 0] _ _ HG2.out
    rw [← hw3] at hg3 ⊢
    have HG3 := Lib.hid hg3; have HO3 := Lib.hid o3; have HB3 := Lib.hid b3
    clear hw3 hg3 o3 b3
    go_wp2
    (try simp only [Exit.inBlock, Exit.then])
    refine bodyPost_ret (results_cell_row_tmp rfl _ _ w.heap.size _ _ (0, 0) _ rfl HG3.out Tryz.underlying48 rfl size_bnd) rfl ?_
    exact ⟨_, by rw [HBAD.out]; rfl, by rw [HE.out]; exact HO3.out, HB3.out⟩
end
section
open Go.ChangeAt Go.ChangeShapes Go.RowKit Go.WideShapes

section
variable {P : Program} {ops : Array Oper} {Q : Exit → Act → World → Prop} {md : Region.Mode} {S : World → Prop} {i : Nat} {oi : Oper} {v : Value} {fuel : Nat} {listed : Array Bool} {a : Act} {w : World}
theorem tk (hi : ops[i]? = some oi := by exact rfl) (hs : Region.noSelect ops = true := by kernel_rfl) (hf : Region.free md ops listed i = true := by kernel_rfl) (hr : (Region.ready md ops listed).contains i = true := by kernel_rfl)
    (hQ : ∀ c a w, Q (.panic c) (a.put oi.dst v) w → Q (.panic c) a w := by exact fun _ _ _ h => h)
    (hy : YieldsIf P ops S oi v a := by exact Or.inl ⟨by rfl, by (intro w hSw; (try dsimp only at hSw); go_simp; all_goals (with_reducible rfl))⟩) (hS : S w := by assumption)
    (h : wpAnyH P md ops Q S fuel (listed.setIfInBounds i true) (a.put oi.dst v) w) : wpAnyH P md ops Q S (fuel + 1) listed a w :=
  wpAnyH_take hi hs hf hr hQ hy hS h
theorem tn (hi : ops[i]? = some oi := by exact rfl) (hs : Region.noSelect ops = true := by kernel_rfl) (hf : Region.free md ops listed i = true := by kernel_rfl) (hr : (Region.ready md ops listed).contains i = true := by kernel_rfl)
    (hQ : ∀ c a w, Q (.panic c) (a.put oi.dst undef) w → Q (.panic c) a w := by exact fun _ _ _ h => h)
    (hy : YieldsIf P ops S oi undef a := by exact Or.inr ⟨by kernel_rfl, rfl⟩) (hS : S w := by assumption)
    (h : wpAnyH P md ops Q S fuel (listed.setIfInBounds i true) (a.put oi.dst undef) w) : wpAnyH P md ops Q S (fuel + 1) listed a w :=
  wpAnyH_take hi hs hf hr hQ hy hS h
theorem al {w w' : World} {o : Obj} (h : w' = w.alloc o) : Below w.heap.size w w' := by rw [h]; exact (Below.refl _ _).alloc (Nat.le_refl _) _
theorem an {w w' : World} {c : Array Value} {t : TypeId} (h : w' = w.alloc (.cells c t)) : w'.heap[w.heap.size]? = some (.cells c t (0, 0)) := by rw [h]; exact heap_alloc_new _ _
/-- One operation comes up. -/
theorem t1 {o : Oper} (hr : Region.ready md ops listed = [i] := by kernel_rfl) (ho : ops[i]? = some o := by exact rfl)
    (h : ∀ K' : Act → World → Prop, Shut (∀ a w, S w → (S w → wpAnyH P md ops Q S fuel (listed.setIfInBounds i true) a w) → K' a w) → if Region.wanted o (yielded ops a.tmps) = true then Oper.wp P o a w K' Q else K' (a.put o.dst undef) w) : wpAnyH P md ops Q S (fuel + 1) listed a w :=
  wpAnyH_ready hr (by simp) (AllReadyH.cons ho h AllReadyH.nil)
end
end
end Go.Proofs.YthbkcpacgnmcfaaGreatDoor
