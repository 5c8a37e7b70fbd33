/- SwappedSeq of the program and of the model. -/
import Derived.Test.YtdgejhlpncnenaaDoorCopyS
import Derived.Test.YtdgejhlpncnenaaDoorSpecLeaf
import Derived.BigRegion
import Derived.Laws.ResultCell
import Derived.Deep.RegionHeldLaw
namespace Go.Proofs.YtdgejhlpncnenaaDoor
open Go.ChangeShapes Go.WideShapes Go.ChangeAt Go.RowKit

/-- i is a position. -/
def posB (i : Int) (n : Nat) : Bool := decide (0 ≤ i ∧ i < (n : Int))
theorem posB_nat {i : Int} {n : Nat} (h : posB i n = true) : ∃ k : Nat, i = k ∧ k < n := by
  have h' := of_decide_eq_true h
  exact ⟨i.toNat, by omega, by omega⟩
/-- Two parts exchanged. -/
def swp (qs : List (List Int)) (i j : Nat) : List (List Int) := (qs.set i (qs.getD j [])).set j (qs.getD i [])
theorem swp_len (qs : List (List Int)) (i j : Nat) : (swp qs i j).length = qs.length := by simp [swp]
/-- The exchanged sequent. -/
def swapB (qs : List (List Int)) (i j : Int) : Bool := validQ qs && (posB i qs.length && posB j qs.length)
def swapQ (qs : List (List Int)) (i j : Int) : List (List Int) := if swapB qs i j = true then swp qs i.toNat j.toNat else []
theorem swapQ_no {qs : List (List Int)} {i j : Int} (h : swapB qs i j = false) : swapQ qs i j = [] := by unfold swapQ; rw [h]; rfl
theorem swapQ_yes {qs : List (List Int)} {i j : Int} (h : swapB qs i j = true) : swapQ qs i j = swp qs i.toNat j.toNat := by unfold swapQ; rw [if_pos h]
theorem swp_mem {qs : List (List Int)} {i j : Nat} (hi : i < qs.length) (hj : j < qs.length) {q : List Int} (h : q ∈ swp qs i j) : q ∈ qs := by
  rcases List.mem_or_eq_of_mem_set h with h | rfl
  · rcases List.mem_or_eq_of_mem_set h with h | rfl
    · exact h
    · exact getD_mem hj
  · exact getD_mem hi
theorem swapQ_small (qs : List (List Int)) (i j : Int) : (swapQ qs i j).length ≤ 1048576 ∧ total (swapQ qs i j) ≤ 1048576 := by
  cases hs : swapB qs i j with
  | false => rw [swapQ_no hs]; simp [total]
  | true =>
    rw [swapQ_yes hs]
    unfold swapB at hs
    simp only [Bool.and_eq_true] at hs
    obtain ⟨hv, h1, h2⟩ := hs
    obtain ⟨a, rfl, ha⟩ := posB_nat h1
    obtain ⟨b, rfl, hb⟩ := posB_nat h2
    have hl := validQ_len hv
    have ht := total_small (qs := swp qs a b) fun q hq => (valid_len (validQ_mem hv (swp_mem ha hb hq))).2.1
    rw [swp_len] at ht
    rw [Int.toNat_natCast, Int.toNat_natCast, swp_len]
    omega

theorem results_cell_row_tmp {P : Program} {fn : Func} {p u : Tmp} {ty : TypeId} (h : fn.results = #[.cell p ty, .tmp u]) (tmps : Array Value) (w : World) (g : Nat) (t : TypeId) (cs : Array Value) (fr : Nat × Nat) (d : TypeDesc)
    (hp : tmps.getD p undef = .pointer (some ⟨g, 0, none⟩)) (hg : w.heap[g]? = some (.cells cs t fr))
    (hu : P.underlying ty = some d) (hd : (match d with | .struct _ | .array _ _ => true | _ => false) = true) (hi : (P.info? ty).map (·.size) = some cs.size) :
    (results fn tmps).run P w = .ok (.tuple #[.agg cs, tmps.getD u undef]) w := by
  have hp' : tmps[p]?.getD undef = .pointer (some ⟨g, 0, none⟩) := by simpa using hp
  rw [results_cell_tmp h]
  simp [hp', asAddr, run_loadVar_row w g t ty cs fr d hg hu hd hi, Result.andThen]

set_option maxHeartbeats 1000000 in
theorem isPos_impl (A : Option Addr) (n c : Nat) (i : Int) (w : World) (_hn : n ≤ 1048576) :
    Calls Tryd.prog 49 #[.agg #[.slice A n c], .int .i64 i] w fun e w' => e = .returned (.bool (posB i n)) ∧ Below w.heap.size w w' := by
  have HB := Lib.hid (box_below w (.slice A n c) 34)
  by_cases h0 : 0 ≤ i
  · have hd : decide (0 ≤ i) = true := decide_eq_true h0
    have HE : Hid (decide (i < (n : Int)) = posB i n) := Lib.hid (by
      unfold posB
      by_cases h : i < (n : Int)
      · rw [decide_eq_true h, decide_eq_true ⟨h0, h⟩]
      · rw [decide_eq_false h, decide_eq_false (fun x => h x.2)])
    go_enter Tryd.func49, Tryd.ntmps49
    go_wp2
    go_ret
    exact ⟨ret_bool' (by rw [← HE.out]), HB.out⟩
  · have hd : decide (0 ≤ i) = false := decide_eq_false h0
    have HE : Hid (false = posB i n) := Lib.hid (by unfold posB; rw [decide_eq_false (fun x => h0 x.1)])
    go_enter Tryd.func49, Tryd.ntmps49
    go_wp2
    go_ret
    exact ⟨ret_bool' HE.out, HB.out⟩

set_option maxHeartbeats 1000000 in
theorem sIsPos_any (A : Option Addr) (n c : Nat) (i : Int) (w : World) (hn : n ≤ 1048576) :
    Calls Tryd.prog 52 #[.agg #[.slice A n c], .int .i64 i] w fun e w' => e = .returned (.bool (posB i n)) ∧ Below w.heap.size w w' := by
  have HB := Lib.hid (box_below w (.slice A n c) 34)
  have HE : Hid (decide (0 ≤ i ∧ i ≤ (n : Int) - 1) = posB i n) := Lib.hid (by
    unfold posB
    by_cases h : 0 ≤ i ∧ i < (n : Int)
    · rw [decide_eq_true h, decide_eq_true ⟨h.1, by omega⟩]
    · rw [decide_eq_false h, decide_eq_false (fun x => h ⟨x.1, by omega⟩)])
  have HR := Lib.hid (fun w => inRange_any i 0 ((n : Int) - 1) w)
  generalize decide (0 ≤ i ∧ i ≤ (n : Int) - 1) = D at *
  go_enter Tryd.func52, Tryd.ntmps52
  go_wp2_with (fail)
  refine (HR.out _).mono ?_
  rintro e w' ⟨rfl, rfl⟩
  go_wp2
  go_ret
  exact ⟨ret_bool' HE.out, HB.out⟩

theorem far_cell {w : World} {a p : Addr} {u : Value} (h : p.block ≠ a.block) : (w.setCell a u).cell? p = w.cell? p := World.cell?_of_block (Below.heap_setCell _ _ _ _ h)
theorem far_frozen {w : World} {a p : Addr} {u : Value} (h : p.block ≠ a.block) : (w.setCell a u).frozen? p = w.frozen? p := World.frozen?_of_block (Below.heap_setCell _ _ _ _ h)
theorem swp_get {qs : List (List Int)} {i j k : Nat} (hi : i < qs.length) (hj : j < qs.length) : (swp qs i j).getD k [] = qs.getD (if k = j then i else if k = i then j else k) [] := by
  unfold swp
  by_cases e : k = j
  · subst e; rw [if_pos rfl, getD_set_eq (by simpa using hj)]
  · rw [if_neg e, getD_set_ne e]
    by_cases e' : k = i
    · subst e'; rw [if_pos rfl, getD_set_eq hi]
    · rw [if_neg e', getD_set_ne e']
/-- Two headers exchanged. -/
def swh (hs : Nat → Option Addr × Nat) (i j : Nat) : Nat → Option Addr × Nat := fun k => hs (if k = j then i else if k = i then j else k)
theorem swh_hv {hs : Nat → Option Addr × Nat} {qs : List (List Int)} {i j k : Nat} (hi : i < qs.length) (hj : j < qs.length) : hv (swh hs i j) (swp qs i j) k = hv hs qs (if k = j then i else if k = i then j else k) := by
  unfold hv swh
  rw [swp_get hi hj]
theorem swap_lt {n i j k : Nat} (hi : i < n) (hj : j < n) (hk : k < n) : (if k = j then i else if k = i then j else k) < n := by
  by_cases e : k = j
  · rw [if_pos e]; exact hi
  · rw [if_neg e]
    by_cases e' : k = i
    · rw [if_pos e']; exact hj
    · rw [if_neg e']; exact hk
theorem swap_inj {i j k l : Nat} (h : k ≠ l) : (if k = j then i else if k = i then j else k) ≠ (if l = j then i else if l = i then j else l) := by
  split <;> split <;> (try split) <;> (try split) <;> omega
/-- Two parts of a row exchanged in place. -/
theorem OwnQ.swap {w : World} {lo hi n c i j g : Nat} {hs : Nat → Option Addr × Nat} {qs : List (List Int)} (h : OwnQ w lo hi (.slice (some ⟨g, 0, none⟩) n c) hs qs) (hn : qs.length = n) (hi' : i < n) (hj' : j < n) :
    OwnQ ((w.setCell ⟨g, i, none⟩ (hv hs qs j)).setCell ⟨g, j, none⟩ (hv hs qs i)) lo hi (.slice (some ⟨g, 0, none⟩) n c) (swh hs i j) (swp qs i j) := by
  subst hn
  have ho := (((h.outer.stored i (hv hs qs j)).1).stored j (hv hs qs i)).1
  have e : ((rowV hs qs).set i (hv hs qs j)).set j (hv hs qs i) = rowV (swh hs i j) (swp qs i j) := by
    apply List.ext_getElem?
    intro k
    by_cases hk : k < qs.length
    · rw [rowV_at (by rw [swp_len]; exact hk), swh_hv hi' hj']
      by_cases e1 : k = j
      · subst e1
        rw [if_pos rfl, List.getElem?_set_self (by simpa [rowV_len] using hk)]
      · rw [if_neg e1, List.getElem?_set_ne (fun x => e1 x.symm)]
        by_cases e2 : k = i
        · subst e2
          rw [if_pos rfl, List.getElem?_set_self (by simpa [rowV_len] using hk)]
        · rw [if_neg e2, List.getElem?_set_ne (fun x => e2 x.symm), rowV_at hk]
    · rw [List.getElem?_eq_none (by simp [rowV_len]; omega), List.getElem?_eq_none (by simp [rowV_len, swp_len]; omega)]
  rw [e] at ho
  have hin : ∀ k, k < qs.length → ∀ q, (hv hs qs k).ownBlock = some q → q ≠ g := by
    intro k hk q hq e'
    subst e'
    rcases h.apart0 k hk with h0 | h0
    · rw [h0] at hq; cases hq
    · exact h0 hq
  refine ⟨by rw [swp_len]; exact ho, fun k hk => ?_, fun k l hk hl hkl => ?_, fun k hk => ?_, h.top0, fun k q hk e => ?_⟩
  · rw [swp_len] at hk
    have hk' := swap_lt hi' hj' hk
    rw [swh_hv hi' hj', swp_get hi' hj']
    exact own_same (h.inner _ hk') fun q hq => (Below.heap_setCell _ _ _ _ (hin _ hk' q hq)).trans (Below.heap_setCell _ _ _ _ (hin _ hk' q hq))
  · rw [swp_len] at hk hl
    rw [swh_hv hi' hj', swh_hv hi' hj']
    exact h.apart _ _ (swap_lt hi' hj' hk) (swap_lt hi' hj' hl) (swap_inj hkl)
  · rw [swp_len] at hk
    rw [swh_hv hi' hj']
    exact h.apart0 _ (swap_lt hi' hj' hk)
  · rw [swp_len] at hk
    rw [swh_hv hi' hj'] at e
    exact h.top _ q (swap_lt hi' hj' hk) e

set_option maxHeartbeats 4000000 in
theorem swappedSeq_impl (A : Option Addr) (n c : Nat) (qs : List (List Int)) (i j : Int) (w : World) (h : RdQ w w.heap.size A n qs) (hn : n ≤ 1048576) (hnc : n ≤ c) (ht : Arit w) :
    Calls Tryd.prog 17 #[.agg #[.slice A n c], .int .i64 i, .int .i64 j] w (GivesSeqB w (swapQ qs i j) (swapB qs i j)) := by
  have hl := h.len
  subst hl
  obtain ⟨w2, hw2⟩ : ∃ w2, w2 = (w.alloc (.cells #[Value.slice A qs.length c] 34)).alloc (.cells #[.slice none 0 0] 34) := ⟨_, rfl⟩
  obtain ⟨hb, ca, _, hsz⟩ := two_boxes w (.slice A qs.length c) (.slice none 0 0) 34
  obtain ⟨_, hh2⟩ := two_heap w (.cells #[Value.slice A qs.length c] 34) (.cells #[.slice none 0 0] 34)
  have ha : ((w.alloc (.cells #[Value.slice A qs.length c] 34)).alloc (.cells #[.slice none 0 0] 34)).cell? ⟨w.heap.size, 0, none⟩ = some (.slice A qs.length c) := ca
  rw [← hw2] at hb hsz hh2 ca
  have hszl : w.heap.size + 1 < w2.heap.size := by omega
  have hV := validSeq_impl A qs.length c qs w2 ((h.below hb).more hb.size) (Nat.le_trans hn (by decide)) (ht.below hb ht.lt)
  clear hsz
  have HBA := Lib.hid hb; have HH := Lib.hid hh2
  have HSB : Hid (swapB qs i j = (validQ qs && (posB i qs.length && posB j qs.length))) := Lib.hid rfl
  clear hh2
  cases hv : validQ qs with
  | false =>
    have hsb : swapB qs i j = false := by rw [HSB.out, hv]; rfl
    have HN := Lib.hid (And.intro hsb (swapQ_no hsb))
    rw [hv] at hV
    have HV := Lib.hid hV
    clear hV hsb h hb HSB
    go_enter Tryd.func17, Tryd.ntmps17
    go_wp2_with (fail)
    rw [← hw2]
    clear hw2 ha
    refine HV.out.mono ?_
    rintro e w3 ⟨rfl, hb2⟩
    obtain ⟨hcx, hfx, h5, o5, b5⟩ := seq_out (V := []) (A := none) (c := 0) HBA.out (b := w.heap.size + 1) (by omega) hszl HH.out (OwnQ.nil w3 w2.heap.size w3.heap.size (fun _ => (none, 0))) hb2
    have H5 := Lib.hid h5; have O5 := Lib.hid o5; have B5 := Lib.hid b5
    clear hb2 h5 o5 b5
    go_wp2
    (try simp only [Exit.inBlock, Exit.then])
    refine bodyPost_ret (results_cell_row_tmp rfl _ _ (w.heap.size + 1) _ _ (0, 0) _ rfl H5.out Tryd.underlying34 rfl (by kernel_rfl)) rfl ?_
    exact ⟨_, none, 0, by rw [HN.out.1, HN.out.2]; rfl, by rw [HN.out.2]; exact O5.out, B5.out⟩
  | true =>
    rw [hv] at hV
    have HV := Lib.hid hV
    clear hV
    cases hpi : posB i qs.length with
    | false =>
      have hsb : swapB qs i j = false := by rw [HSB.out, hv, hpi]; rfl
      have HN := Lib.hid (And.intro hsb (swapQ_no hsb))
      clear hsb h hb HSB hv
      go_enter Tryd.func17, Tryd.ntmps17
      go_wp2_with (fail)
      rw [← hw2]
      clear hw2 ha
      refine HV.out.mono ?_
      rintro e w3 ⟨rfl, bel3⟩
      have ca3 := (bel3.cell (p := ⟨w.heap.size, 0, none⟩) (by show w.heap.size < _; omega)).trans ca
      have s3 := bel3.size
      have HP := Lib.hid (isPos_impl A qs.length c i w3 hn)
      rw [hpi] at HP
      have HB3 := Lib.hid bel3
      clear bel3 HV ca hpi
      go_wp2_with (fail)
      refine HP.out.mono ?_
      rintro e w4 ⟨rfl, bel4⟩
      have hb2 := HB3.out.trans (bel4.mono s3)
      clear bel4 HP
      obtain ⟨hcx, hfx, h5, o5, b5⟩ := seq_out (V := []) (A := none) (c := 0) HBA.out (b := w.heap.size + 1) (by omega) hszl HH.out (OwnQ.nil w4 w2.heap.size w4.heap.size (fun _ => (none, 0))) hb2
      have H5 := Lib.hid h5; have O5 := Lib.hid o5; have B5 := Lib.hid b5
      clear hb2 h5 o5 b5
      go_wp2
      (try simp only [Exit.inBlock, Exit.then])
      refine bodyPost_ret (results_cell_row_tmp rfl _ _ (w.heap.size + 1) _ _ (0, 0) _ rfl H5.out Tryd.underlying34 rfl (by kernel_rfl)) rfl ?_
      exact ⟨_, none, 0, by rw [HN.out.1, HN.out.2]; rfl, by rw [HN.out.2]; exact O5.out, B5.out⟩
    | true =>
      cases hpj : posB j qs.length with
      | false =>
        have hsb : swapB qs i j = false := by rw [HSB.out, hv, hpi, hpj]; rfl
        have HN := Lib.hid (And.intro hsb (swapQ_no hsb))
        clear hsb h hb HSB hv
        go_enter Tryd.func17, Tryd.ntmps17
        go_wp2_with (fail)
        rw [← hw2]
        clear hw2 ha
        refine HV.out.mono ?_
        rintro e w3 ⟨rfl, bel3⟩
        have ca3 := (bel3.cell (p := ⟨w.heap.size, 0, none⟩) (by show w.heap.size < _; omega)).trans ca
        have s3 := bel3.size
        have HP := Lib.hid (isPos_impl A qs.length c i w3 hn)
        rw [hpi] at HP
        have HB3 := Lib.hid bel3
        clear bel3 HV ca hpi
        go_wp2_with (fail)
        refine HP.out.mono ?_
        rintro e w4 ⟨rfl, bel4⟩
        have ca4 := (bel4.cell (p := ⟨w.heap.size, 0, none⟩) (by show w.heap.size < _; omega)).trans ca3
        have HB4 := Lib.hid (HB3.out.trans (bel4.mono s3))
        have s4 := HB4.out.size
        have HPJ := Lib.hid (isPos_impl A qs.length c j w4 hn)
        rw [hpj] at HPJ
        clear bel4 HP ca3 hpj
        go_wp2_with (fail)
        refine HPJ.out.mono ?_
        rintro e w5 ⟨rfl, bel5⟩
        have hb2 := HB4.out.trans (bel5.mono s4)
        clear bel5 HPJ
        obtain ⟨hcx, hfx, h5, o5, b5⟩ := seq_out (V := []) (A := none) (c := 0) HBA.out (b := w.heap.size + 1) (by omega) hszl HH.out (OwnQ.nil w5 w2.heap.size w5.heap.size (fun _ => (none, 0))) hb2
        have H5 := Lib.hid h5; have O5 := Lib.hid o5; have B5 := Lib.hid b5
        clear hb2 h5 o5 b5
        go_wp2
        (try simp only [Exit.inBlock, Exit.then])
        refine bodyPost_ret (results_cell_row_tmp rfl _ _ (w.heap.size + 1) _ _ (0, 0) _ rfl H5.out Tryd.underlying34 rfl (by kernel_rfl)) rfl ?_
        exact ⟨_, none, 0, by rw [HN.out.1, HN.out.2]; rfl, by rw [HN.out.2]; exact O5.out, B5.out⟩
      | true =>
        have hsb : swapB qs i j = true := by rw [HSB.out, hv, hpi, hpj]; rfl
        obtain ⟨I, rfl, hI⟩ := posB_nat hpi
        obtain ⟨J, rfl, hJ⟩ := posB_nat hpj
        have hsq := swapQ_yes hsb
        rw [Int.toNat_natCast, Int.toNat_natCast] at hsq
        have HN := Lib.hid (And.intro hsb hsq)
        have h10 := validQ_len hv
        have hq : ∀ q ∈ qs, q.length ≤ 1000 := fun q hq' => by have := valid_len (validQ_mem hv hq'); omega
        have hp : ∀ q ∈ qs, 0 < q.length := fun q hq' => by have := valid_len (validQ_mem hv hq'); omega
        clear hsb hsq HSB hv
        go_enter Tryd.func17, Tryd.ntmps17
        go_wp2_with (fail)
        rw [← hw2]
        clear hw2 ha
        refine HV.out.mono ?_
        rintro e w3 ⟨rfl, bel3⟩
        have ca3 := (bel3.cell (p := ⟨w.heap.size, 0, none⟩) (by show w.heap.size < _; omega)).trans ca
        have s3 := bel3.size
        have HP := Lib.hid (isPos_impl A qs.length c (I : Int) w3 hn)
        rw [hpi] at HP
        have HB3 := Lib.hid bel3
        clear bel3 HV ca hpi
        go_wp2_with (fail)
        refine HP.out.mono ?_
        rintro e w4 ⟨rfl, bel4⟩
        have ca4 := (bel4.cell (p := ⟨w.heap.size, 0, none⟩) (by show w.heap.size < _; omega)).trans ca3
        have HB4 := Lib.hid (HB3.out.trans (bel4.mono s3))
        have s4 := HB4.out.size
        have HPJ := Lib.hid (isPos_impl A qs.length c (J : Int) w4 hn)
        rw [hpj] at HPJ
        clear bel4 HP ca3 hpj
        go_wp2_with (fail)
        refine HPJ.out.mono ?_
        rintro e w5 ⟨rfl, bel5⟩
        have ca5 := (bel5.cell (p := ⟨w.heap.size, 0, none⟩) (by show w.heap.size < _; omega)).trans ca4
        have b25 := HB4.out.trans (bel5.mono s4)
        have s5 := b25.size
        have b05 := hb.trans (b25.mono hb.size)
        have HC := Lib.hid (copyOfSeq_any A qs.length c qs w5 ((h.below b05).more b05.size) h10 hq hp)
        have HB25 := Lib.hid b25
        clear bel5 HPJ ca4 b25 hb HB3 HB4
        go_wp2_with (fail)
        refine HC.out.mono ?_
        rintro e w6 ⟨hs, A6, c6, rfl, own6, bel6⟩
        clear HC
        obtain ⟨g, cap, hg6, hlo, hgl⟩ := own6.outer.form (by omega)
        have hA6 : A6 = some ⟨g, 0, none⟩ ∧ c6 = cap := by injection hg6 with x y z; exact ⟨x, z⟩
        obtain ⟨rfl, rfl⟩ := hA6
        have bel7 := box_below w6 (.slice (some ⟨g, 0, none⟩) qs.length c6) 34
        have cs7 : (w6.alloc (.cells #[.slice (some ⟨g, 0, none⟩) qs.length c6] 34)).cell? ⟨w6.heap.size, 0, none⟩ = some (.slice (some ⟨g, 0, none⟩) qs.length c6) := by simp
        have s7 : w6.heap.size + 1 ≤ (w6.alloc (.cells #[.slice (some ⟨g, 0, none⟩) qs.length c6] 34)).heap.size := by simp
        have own7 := (own6.below bel7).more (Nat.le_refl _) bel7.size
        have b57 := bel6.trans (bel7.mono bel6.size)
        have hh5 := (HB25.out.block (w.heap.size + 1) hszl).trans HH.out
        have sl5 : w.heap.size + 1 < w5.heap.size := Nat.lt_of_lt_of_le hszl s5
        have ca7 := (b57.cell (p := ⟨w.heap.size, 0, none⟩) (by show w.heap.size < _; omega)).trans ca5
        clear own6 bel6 bel7 hg6 ca5 hq hp ht
        go_wp2_with (fail)
        generalize w6.heap.size = bs at *
        generalize (w6.alloc (.cells #[.slice (some ⟨g, 0, none⟩) qs.length c6] 34)) = w7 at *
        obtain ⟨fI, cI⟩ := own7.at rfl hI
        obtain ⟨fJ, cJ⟩ := own7.at rfl hJ
        have hy : ∃ y, (w7.setCell ⟨g, I, none⟩ (hv hs qs J)).cell? ⟨g, J, none⟩ = some y := by
          have := (own7.outer.stored I (hv hs qs J)).1.cellAt J (by omega)
          rw [this]
          exact ⟨_, List.getElem?_eq_getElem (by simp [rowV_len]; exact hJ)⟩
        obtain ⟨y, hy⟩ := hy
        have bsw : Below w5.heap.size w5 ((w7.setCell ⟨g, I, none⟩ (hv hs qs J)).setCell ⟨g, J, none⟩ (hv hs qs I)).drew := ((b57.setCell (p := ⟨g, I, none⟩) hlo (hv hs qs J)).setCell (p := ⟨g, J, none⟩) hlo (hv hs qs I)).drew
        have hswd : OwnQ ((w7.setCell ⟨g, I, none⟩ (hv hs qs J)).setCell ⟨g, J, none⟩ (hv hs qs I)).drew w5.heap.size ((w7.setCell ⟨g, I, none⟩ (hv hs qs J)).setCell ⟨g, J, none⟩ (hv hs qs I)).drew.heap.size (.slice (some ⟨g, 0, none⟩) qs.length c6) (swh hs I J) (swp qs I J) :=
          ((own7.swap rfl hI hJ).same (w' := ((w7.setCell ⟨g, I, none⟩ (hv hs qs J)).setCell ⟨g, J, none⟩ (hv hs qs I)).drew) (fun _ _ _ _ => rfl)).more (Nat.le_refl _) (by simp)
        have csw : ((w7.setCell ⟨g, I, none⟩ (hv hs qs J)).setCell ⟨g, J, none⟩ (hv hs qs I)).cell? ⟨bs, 0, none⟩ = some (.slice (some ⟨g, 0, none⟩) qs.length c6) :=
          (far_cell (by show bs ≠ g; omega)).trans ((far_cell (by show bs ≠ g; omega)).trans cs7)
        obtain ⟨hcx, hfx, h5, o5, b5⟩ := seq_out (V := swp qs I J) (A := some ⟨g, 0, none⟩) (c := c6) b05 (b := w.heap.size + 1) (by omega) sl5 hh5 (by rw [swp_len]; exact hswd) bsw
        rw [swp_len] at h5 o5 b5
        have H5 := Lib.hid h5; have O5 := Lib.hid o5; have B5 := Lib.hid b5
        clear bsw hswd h5 o5 b5 own7 b57 hh5 b05 h ca7
        have EI : ∃ x y z, hv hs qs I = .slice x y z := ⟨_, _, _, rfl⟩
        have EJ : ∃ x y z, hv hs qs J = .slice x y z := ⟨_, _, _, rfl⟩
        generalize hv hs qs I = vI at *
        generalize hv hs qs J = vJ at *
        obtain ⟨xI, yI, zI, rfl⟩ := EI
        obtain ⟨xJ, yJ, zJ, rfl⟩ := EJ
        have hII : (I : Int) < (qs.length : Int) := by omega
        have hJJ : (J : Int) < (qs.length : Int) := by omega
        have hcx' : ((w7.setCell ⟨g, I, none⟩ (.slice xJ yJ zJ)).setCell ⟨g, J, none⟩ (.slice xI yI zI)).cell? ⟨w.heap.size + 1, 0, none⟩ = some (.slice none 0 0) := hcx
        have hfx' : ((w7.setCell ⟨g, I, none⟩ (.slice xJ yJ zJ)).setCell ⟨g, J, none⟩ (.slice xI yI zI)).frozen? ⟨w.heap.size + 1, 0, none⟩ = false := hfx
        clear hcx hfx
        go_region
        all_goals go_wp2
        all_goals (try simp only [Exit.inBlock, Exit.then])
        all_goals refine bodyPost_ret (results_cell_row_tmp rfl _ _ (w.heap.size + 1) _ _ (0, 0) _ rfl H5.out Tryd.underlying34 rfl (by kernel_rfl)) rfl ?_
        all_goals exact ⟨_, some ⟨g, 0, none⟩, c6, by rw [HN.out.1, HN.out.2, swp_len]; rfl, by rw [HN.out.2, swp_len]; exact O5.out, B5.out⟩

set_option maxHeartbeats 4000000 in
theorem sSwappedSeq_any (A : Option Addr) (n c : Nat) (qs : List (List Int)) (i j : Int) (w : World) (h : RdQ w w.heap.size A n qs) (hn : n ≤ 1048576) (hnc : n ≤ c) :
    Calls Tryd.prog 18 #[.agg #[.slice A n c], .int .i64 i, .int .i64 j] w (GivesSeqB w (swapQ qs i j) (swapB qs i j)) := by
  have hl := h.len
  subst hl
  obtain ⟨w2, hw2⟩ : ∃ w2, w2 = (w.alloc (.cells #[Value.slice A qs.length c] 34)).alloc (.cells #[.slice none 0 0] 34) := ⟨_, rfl⟩
  obtain ⟨hb, ca, _, hsz⟩ := two_boxes w (.slice A qs.length c) (.slice none 0 0) 34
  obtain ⟨_, hh2⟩ := two_heap w (.cells #[Value.slice A qs.length c] 34) (.cells #[.slice none 0 0] 34)
  have ha : ((w.alloc (.cells #[Value.slice A qs.length c] 34)).alloc (.cells #[.slice none 0 0] 34)).cell? ⟨w.heap.size, 0, none⟩ = some (.slice A qs.length c) := ca
  rw [← hw2] at hb hsz hh2 ca
  have hszl : w.heap.size + 1 < w2.heap.size := by omega
  have hV := sValidSeq_any A qs.length c qs w2 ((h.below hb).more hb.size) hn hnc
  clear hsz
  have HBA := Lib.hid hb; have HH := Lib.hid hh2
  have HSB : Hid (swapB qs i j = (validQ qs && (posB i qs.length && posB j qs.length))) := Lib.hid rfl
  clear hh2
  cases hv : validQ qs with
  | false =>
    have hsb : swapB qs i j = false := by rw [HSB.out, hv]; rfl
    have HN := Lib.hid (And.intro hsb (swapQ_no hsb))
    rw [hv] at hV
    have HV := Lib.hid hV
    clear hV hsb h hb HSB
    go_enter Tryd.func18, Tryd.ntmps18
    go_wp2_with (fail)
    rw [← hw2]
    clear hw2 ha
    refine HV.out.mono ?_
    rintro e w3 ⟨rfl, hb2⟩
    obtain ⟨hcx, hfx, h5, o5, b5⟩ := seq_out (V := []) (A := none) (c := 0) HBA.out (b := w.heap.size + 1) (by omega) hszl HH.out (OwnQ.nil w3 w2.heap.size w3.heap.size (fun _ => (none, 0))) hb2
    have H5 := Lib.hid h5; have O5 := Lib.hid o5; have B5 := Lib.hid b5
    clear hb2 h5 o5 b5
    go_wp2
    (try simp only [Exit.inBlock, Exit.then])
    refine bodyPost_ret (results_cell_row_tmp rfl _ _ (w.heap.size + 1) _ _ (0, 0) _ rfl H5.out Tryd.underlying34 rfl (by kernel_rfl)) rfl ?_
    exact ⟨_, none, 0, by rw [HN.out.1, HN.out.2]; rfl, by rw [HN.out.2]; exact O5.out, B5.out⟩
  | true =>
    rw [hv] at hV
    have HV := Lib.hid hV
    clear hV
    cases hpi : posB i qs.length with
    | false =>
      have hsb : swapB qs i j = false := by rw [HSB.out, hv, hpi]; rfl
      have HN := Lib.hid (And.intro hsb (swapQ_no hsb))
      clear hsb h hb HSB hv
      go_enter Tryd.func18, Tryd.ntmps18
      go_wp2_with (fail)
      rw [← hw2]
      clear hw2 ha
      refine HV.out.mono ?_
      rintro e w3 ⟨rfl, bel3⟩
      have ca3 := (bel3.cell (p := ⟨w.heap.size, 0, none⟩) (by show w.heap.size < _; omega)).trans ca
      have s3 := bel3.size
      have HP := Lib.hid (sIsPos_any A qs.length c i w3 hn)
      rw [hpi] at HP
      have HB3 := Lib.hid bel3
      clear bel3 HV ca hpi
      go_wp2_with (fail)
      refine HP.out.mono ?_
      rintro e w4 ⟨rfl, bel4⟩
      have hb2 := HB3.out.trans (bel4.mono s3)
      clear bel4 HP
      obtain ⟨hcx, hfx, h5, o5, b5⟩ := seq_out (V := []) (A := none) (c := 0) HBA.out (b := w.heap.size + 1) (by omega) hszl HH.out (OwnQ.nil w4 w2.heap.size w4.heap.size (fun _ => (none, 0))) hb2
      have H5 := Lib.hid h5; have O5 := Lib.hid o5; have B5 := Lib.hid b5
      clear hb2 h5 o5 b5
      go_wp2
      (try simp only [Exit.inBlock, Exit.then])
      refine bodyPost_ret (results_cell_row_tmp rfl _ _ (w.heap.size + 1) _ _ (0, 0) _ rfl H5.out Tryd.underlying34 rfl (by kernel_rfl)) rfl ?_
      exact ⟨_, none, 0, by rw [HN.out.1, HN.out.2]; rfl, by rw [HN.out.2]; exact O5.out, B5.out⟩
    | true =>
      cases hpj : posB j qs.length with
      | false =>
        have hsb : swapB qs i j = false := by rw [HSB.out, hv, hpi, hpj]; rfl
        have HN := Lib.hid (And.intro hsb (swapQ_no hsb))
        clear hsb h hb HSB hv
        go_enter Tryd.func18, Tryd.ntmps18
        go_wp2_with (fail)
        rw [← hw2]
        clear hw2 ha
        refine HV.out.mono ?_
        rintro e w3 ⟨rfl, bel3⟩
        have ca3 := (bel3.cell (p := ⟨w.heap.size, 0, none⟩) (by show w.heap.size < _; omega)).trans ca
        have s3 := bel3.size
        have HP := Lib.hid (sIsPos_any A qs.length c i w3 hn)
        rw [hpi] at HP
        have HB3 := Lib.hid bel3
        clear bel3 HV ca hpi
        go_wp2_with (fail)
        refine HP.out.mono ?_
        rintro e w4 ⟨rfl, bel4⟩
        have ca4 := (bel4.cell (p := ⟨w.heap.size, 0, none⟩) (by show w.heap.size < _; omega)).trans ca3
        have HB4 := Lib.hid (HB3.out.trans (bel4.mono s3))
        have s4 := HB4.out.size
        have HPJ := Lib.hid (sIsPos_any A qs.length c j w4 hn)
        rw [hpj] at HPJ
        clear bel4 HP ca3 hpj
        go_wp2_with (fail)
        refine HPJ.out.mono ?_
        rintro e w5 ⟨rfl, bel5⟩
        have hb2 := HB4.out.trans (bel5.mono s4)
        clear bel5 HPJ
        obtain ⟨hcx, hfx, h5, o5, b5⟩ := seq_out (V := []) (A := none) (c := 0) HBA.out (b := w.heap.size + 1) (by omega) hszl HH.out (OwnQ.nil w5 w2.heap.size w5.heap.size (fun _ => (none, 0))) hb2
        have H5 := Lib.hid h5; have O5 := Lib.hid o5; have B5 := Lib.hid b5
        clear hb2 h5 o5 b5
        go_wp2
        (try simp only [Exit.inBlock, Exit.then])
        refine bodyPost_ret (results_cell_row_tmp rfl _ _ (w.heap.size + 1) _ _ (0, 0) _ rfl H5.out Tryd.underlying34 rfl (by kernel_rfl)) rfl ?_
        exact ⟨_, none, 0, by rw [HN.out.1, HN.out.2]; rfl, by rw [HN.out.2]; exact O5.out, B5.out⟩
      | true =>
        have hsb : swapB qs i j = true := by rw [HSB.out, hv, hpi, hpj]; rfl
        obtain ⟨I, rfl, hI⟩ := posB_nat hpi
        obtain ⟨J, rfl, hJ⟩ := posB_nat hpj
        have hsq := swapQ_yes hsb
        rw [Int.toNat_natCast, Int.toNat_natCast] at hsq
        have HN := Lib.hid (And.intro hsb hsq)
        have h10 := validQ_len hv
        have hq : ∀ q ∈ qs, q.length ≤ 1000 := fun q hq' => by have := valid_len (validQ_mem hv hq'); omega
        have hp : ∀ q ∈ qs, 0 < q.length := fun q hq' => by have := valid_len (validQ_mem hv hq'); omega
        clear hsb hsq HSB hv
        go_enter Tryd.func18, Tryd.ntmps18
        go_wp2_with (fail)
        rw [← hw2]
        clear hw2 ha
        refine HV.out.mono ?_
        rintro e w3 ⟨rfl, bel3⟩
        have ca3 := (bel3.cell (p := ⟨w.heap.size, 0, none⟩) (by show w.heap.size < _; omega)).trans ca
        have s3 := bel3.size
        have HP := Lib.hid (sIsPos_any A qs.length c (I : Int) w3 hn)
        rw [hpi] at HP
        have HB3 := Lib.hid bel3
        clear bel3 HV ca hpi
        go_wp2_with (fail)
        refine HP.out.mono ?_
        rintro e w4 ⟨rfl, bel4⟩
        have ca4 := (bel4.cell (p := ⟨w.heap.size, 0, none⟩) (by show w.heap.size < _; omega)).trans ca3
        have HB4 := Lib.hid (HB3.out.trans (bel4.mono s3))
        have s4 := HB4.out.size
        have HPJ := Lib.hid (sIsPos_any A qs.length c (J : Int) w4 hn)
        rw [hpj] at HPJ
        clear bel4 HP ca3 hpj
        go_wp2_with (fail)
        refine HPJ.out.mono ?_
        rintro e w5 ⟨rfl, bel5⟩
        have ca5 := (bel5.cell (p := ⟨w.heap.size, 0, none⟩) (by show w.heap.size < _; omega)).trans ca4
        have b25 := HB4.out.trans (bel5.mono s4)
        have s5 := b25.size
        have b05 := hb.trans (b25.mono hb.size)
        have HC := Lib.hid (sCopySeq_any A qs.length c qs w5 ((h.below b05).more b05.size) (by omega) hq hp)
        have HB25 := Lib.hid b25
        clear bel5 HPJ ca4 b25 hb HB3 HB4
        go_wp2_with (fail)
        refine HC.out.mono ?_
        rintro e w6 ⟨hs, A6, c6, rfl, own6, bel6⟩
        clear HC
        obtain ⟨g, cap, hg6, hlo, hgl⟩ := own6.outer.form (by omega)
        have hA6 : A6 = some ⟨g, 0, none⟩ ∧ c6 = cap := by injection hg6 with x y z; exact ⟨x, z⟩
        obtain ⟨rfl, rfl⟩ := hA6
        have bel7 := box_below w6 (.slice (some ⟨g, 0, none⟩) qs.length c6) 34
        have cs7 : (w6.alloc (.cells #[.slice (some ⟨g, 0, none⟩) qs.length c6] 34)).cell? ⟨w6.heap.size, 0, none⟩ = some (.slice (some ⟨g, 0, none⟩) qs.length c6) := by simp
        have s7 : w6.heap.size + 1 ≤ (w6.alloc (.cells #[.slice (some ⟨g, 0, none⟩) qs.length c6] 34)).heap.size := by simp
        have own7 := (own6.below bel7).more (Nat.le_refl _) bel7.size
        have b57 := bel6.trans (bel7.mono bel6.size)
        have hh5 := (HB25.out.block (w.heap.size + 1) hszl).trans HH.out
        have sl5 : w.heap.size + 1 < w5.heap.size := Nat.lt_of_lt_of_le hszl s5
        have ca7 := (b57.cell (p := ⟨w.heap.size, 0, none⟩) (by show w.heap.size < _; omega)).trans ca5
        clear bel7 hg6 ca5
        go_wp2_with (fail)
        have h7 := h.below (b05.trans (b57.mono (by have := b05.size; omega)))
        have hgb : w5.heap.size ≤ g := hlo
        clear own6 bel6
        generalize w6.heap.size = bs at *
        generalize (w6.alloc (.cells #[.slice (some ⟨g, 0, none⟩) qs.length c6] 34)) = w7 at *
        obtain ⟨b, off, rfl, hbb, hcells⟩ := h7.2 (by omega)
        obtain ⟨AI, kI, xI, _, rI⟩ := hcells I hI
        obtain ⟨AJ, kJ, xJ, _, rJ⟩ := hcells J hJ
        have lI := hq _ (getD_mem hI)
        have lJ := hq _ (getD_mem hJ)
        have pI := hp _ (getD_mem hI)
        have pJ := hp _ (getD_mem hJ)
        have HVV : Hid ((qs.set I (qs.getD J [])).set J (qs.getD I []) = swp qs I J) := Lib.hid rfl
        generalize qs.getD I [] = qI at *
        generalize qs.getD J [] = qJ at *
        have HTI := Lib.hid (fun (wx : World) (hx : RdI wx wx.heap.size AI qI.length qI) => copyInts_any (.slice AI qI.length kI) qI wx (Part.of_rd hx pI) lI)
        have HTJ := Lib.hid (fun (wx : World) (hx : RdI wx wx.heap.size AJ qJ.length qJ) => copyInts_any (.slice AJ qJ.length kJ) qJ wx (Part.of_rd hx pJ) lJ)
        have hw75 := b57.size
        have Rw7J := Lib.hid (rJ.more (B' := w7.heap.size) (by omega))
        have RI := Lib.hid rI
        have Kw7 := Lib.hid (And.intro cs7 (And.intro ca7 xJ))
        have Ow7 := Lib.hid own7
        have Bw7 := Lib.hid b57
        have HXI := Lib.hid xI
        have hII : (I : Int) < (qs.length : Int) := by omega
        have hJJ : (J : Int) < (qs.length : Int) := by omega
        have B05 := Lib.hid b05
        have H5 := Lib.hid hh5
        clear h h7 hcells rI rJ own7 b57 hq hp cs7 ca7 xI xJ lI lJ pI pJ b05 hh5
        go_region_held_law (fun wx => wx.cell? ⟨bs, 0, none⟩ = some (.slice (some ⟨g, 0, none⟩) qs.length c6) ∧ wx.cell? ⟨w.heap.size, 0, none⟩ = some (.slice (some ⟨b, off, none⟩) qs.length c) ∧ wx.cell? ⟨b, off + J, none⟩ = some (.slice AJ qJ.length kJ))
          (first | exact Kw7.out | exact Kw8.out | exact Lw8.out)
          (first
            | (go_simp
               go_at_call 54
               refine (HTJ.out w7.drew Rw7J.out).mono ?_
               rintro e w8 ⟨Aw8, cw8, rfl, ownw8, belw8'⟩
               have belw8 := undrew belw8'
               obtain ⟨hFw8, hFbw8⟩ := Ow7.out.fill (w := w5) (wr := w7) rfl hI rfl Bw7.out ownw8 belw8
               obtain ⟨fstw8, cstw8⟩ := (Ow7.out.below belw8).at rfl hI
               have Kw8 := Lib.hid (And.intro ((belw8.cell (p := ⟨bs, 0, none⟩) (by show bs < _; omega)).trans Kw7.out.1) (And.intro ((belw8.cell (p := ⟨w.heap.size, 0, none⟩) (by show w.heap.size < _; omega)).trans Kw7.out.2.1) ((belw8.cell (p := ⟨b, off + J, none⟩) (by show b < _; omega)).trans Kw7.out.2.2)))
               have Lw8 := Lib.hid (And.intro ((far_cell (a := ⟨g, I, none⟩) (u := .slice Aw8 qJ.length cw8) (p := ⟨bs, 0, none⟩) (by show bs ≠ g; omega)).trans Kw8.out.1) (And.intro ((far_cell (a := ⟨g, I, none⟩) (u := .slice Aw8 qJ.length cw8) (p := ⟨w.heap.size, 0, none⟩) (by show w.heap.size ≠ g; omega)).trans Kw8.out.2.1) ((far_cell (a := ⟨g, I, none⟩) (u := .slice Aw8 qJ.length cw8) (p := ⟨b, off + J, none⟩) (by show b ≠ g; omega)).trans Kw8.out.2.2)))
               have szw8 := belw8.size
               have BE8 := Lib.hid belw8
               have OFw8 := Lib.hid hFw8
               have BFw8 := Lib.hid hFbw8
               generalize hv hs qs I = oldw8 at cstw8
               clear hFw8 hFbw8 ownw8 belw8 belw8'
               dsimp only))
        generalize hw9 : w8.setCell ⟨g, I, none⟩ (.slice Aw8 qJ.length cw8) = w9 at *
        have h79 : Below w5.heap.size w7 w9 := by
          rw [← hw9]
          exact ((BE8.out).mono hw75).setCell hgb _
        have xI9 := (h79.cell (p := ⟨b, off + I, none⟩) (by show b < _; omega)).trans HXI.out
        have rI9 := (RI.out.keep (w' := w9) (fun p hp => h79.cell (by omega))).more (B' := w9.heap.size) (by have := h79.size; omega)
        have Rw9I := Lib.hid rI9
        have Kw9 := Lib.hid (And.intro Lw8.out.1 (And.intro Lw8.out.2.1 xI9))
        have Ow9 := Lib.hid OFw8.out
        have Bw9 := Lib.hid BFw8.out
        have s79 := h79.size
        clear h79 xI9 rI9 hw9 fstw8 cstw8 Kw7 Kw8 BE8
        go_wp2_with (fail)
        go_region_held_law (fun wx => wx.cell? ⟨bs, 0, none⟩ = some (.slice (some ⟨g, 0, none⟩) qs.length c6) ∧ wx.cell? ⟨w.heap.size, 0, none⟩ = some (.slice (some ⟨b, off, none⟩) qs.length c) ∧ wx.cell? ⟨b, off + I, none⟩ = some (.slice AI qI.length kI))
          (first | exact Kw9.out | exact Kw10.out | exact Lw10.out)
          (first
            | (go_simp
               go_at_call 54
               refine (HTI.out w9.drew Rw9I.out).mono ?_
               rintro e w10 ⟨Aw10, cw10, rfl, ownw10, belw10'⟩
               have belw10 := undrew belw10'
               obtain ⟨hFw10, hFbw10⟩ := Ow9.out.fill (w := w5) (wr := w9) (by simp) hJ rfl Bw9.out ownw10 belw10
               obtain ⟨fstw10, cstw10⟩ := (Ow9.out.below belw10).at (by simp) hJ
               have Kw10 := Lib.hid (And.intro ((belw10.cell (p := ⟨bs, 0, none⟩) (by show bs < _; omega)).trans Kw9.out.1) (And.intro ((belw10.cell (p := ⟨w.heap.size, 0, none⟩) (by show w.heap.size < _; omega)).trans Kw9.out.2.1) ((belw10.cell (p := ⟨b, off + I, none⟩) (by show b < _; omega)).trans Kw9.out.2.2)))
               have Lw10 := Lib.hid (And.intro ((far_cell (a := ⟨g, J, none⟩) (u := .slice Aw10 qI.length cw10) (p := ⟨bs, 0, none⟩) (by show bs ≠ g; omega)).trans Kw10.out.1) (And.intro ((far_cell (a := ⟨g, J, none⟩) (u := .slice Aw10 qI.length cw10) (p := ⟨w.heap.size, 0, none⟩) (by show w.heap.size ≠ g; omega)).trans Kw10.out.2.1) ((far_cell (a := ⟨g, J, none⟩) (u := .slice Aw10 qI.length cw10) (p := ⟨b, off + I, none⟩) (by show b ≠ g; omega)).trans Kw10.out.2.2)))
               have szw10 := belw10.size
               have OFw10 := Lib.hid hFw10
               have BFw10 := Lib.hid hFbw10
               generalize hv (upd hs I (Aw8, cw8)) (qs.set I qJ) J = oldw10 at cstw10
               clear hFw10 hFbw10 ownw10 belw10 belw10'
               dsimp only))
        obtain ⟨hcx, hfx, h5, o5, b5⟩ := seq_out (V := (qs.set I qJ).set J qI) (A := some ⟨g, 0, none⟩) (c := c6) B05.out (b := w.heap.size + 1) (by omega) sl5 H5.out (by simpa using OFw10.out) BFw10.out
        have hcs := Lw10.out.1
        rw [HVV.out, swp_len] at h5 b5
        rw [HVV.out, swp_len] at o5
        clear H5
        have H5 := Lib.hid h5; have O5 := Lib.hid o5; have B5 := Lib.hid b5
        clear h5 o5 b5
        go_wp2
        (try simp only [Exit.inBlock, Exit.then])
        refine bodyPost_ret (results_cell_row_tmp rfl _ _ (w.heap.size + 1) _ _ (0, 0) _ rfl H5.out Tryd.underlying34 rfl (by kernel_rfl)) rfl ?_
        exact ⟨_, some ⟨g, 0, none⟩, c6, by rw [HN.out.1, HN.out.2, swp_len]; rfl, by rw [HN.out.2, swp_len]; exact O5.out, B5.out⟩
end Go.Proofs.YtdgejhlpncnenaaDoor
