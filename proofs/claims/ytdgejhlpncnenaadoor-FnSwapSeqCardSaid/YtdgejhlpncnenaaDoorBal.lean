/- BalancedSeq: its mathematics, and the walks of the program and of the model. -/
import Derived.Test.YtdgejhlpncnenaaDoorSeqV
import Derived.Test.YtdgejhlpncnenaaDoorSame
import Derived.Test.YtdgejhlpncnenaaDoorLeaves
import Derived.Test.YtdgejhlpncnenaaDoorCount
import Derived.Maps.OwnOps
import Derived.Maps.Views
namespace Go.Proofs.YtdgejhlpncnenaaDoor
open Go.ChangeShapes Go.WideShapes Go.ChangeAt Go.RowKit Go.Maps

theorem cntT_count (f : List Int) (x : Int) {k : Nat} (hk : k ≤ f.length) : cntT f x k = (f.take k).count x := by
  induction k with
  | zero => simp [cntT]
  | succ k ih =>
    have hk' : k < f.length := by omega
    rw [cntT, ih (by omega), List.take_succ_eq_append_getElem hk', List.count_append]
    have e : f.getD k 0 = f[k] := by simp [List.getD, hk']
    rw [e]
    by_cases h : f[k] = x
    · rw [if_pos h, h]; simp
    · have e0 : [f[k]].count x = 0 := List.count_eq_zero.2 (by simp; exact fun e => h e.symm)
      rw [if_neg h, e0]
theorem cntZ_count {f : List Int} (h : validB f = true) (x : Int) : cntZ f x = ((f.count x : Nat) : Int) := by
  rw [cntZ_yes x h, cntT_count f x (Nat.le_refl _), List.take_of_length_le (Nat.le_refl _)]
theorem leaves_count {f : List Int} (h : validB f = true) {x : Int} (hx : leafB x = true) : (leavesL f).count x = f.count x := by
  unfold leavesL
  rw [if_pos h, List.count_filter hx]

/-- How many more of an atom than of its dual. -/
def bal (a : Int) (qs : List (List Int)) : Int := (qs.map fun f => cntZ f a - cntZ f (-a)).sum
theorem bal_take {a : Int} {qs : List (List Int)} {k : Nat} (h : k < qs.length) : bal a (qs.take (k + 1)) = bal a (qs.take k) + (cntZ (qs.getD k []) a - cntZ (qs.getD k []) (-a)) := by
  unfold bal
  rw [List.take_succ_eq_append_getElem h, List.map_append, List.sum_append]
  simp [List.getD, h]
/-- All leaves. -/
def lvs (qs : List (List Int)) : List Int := qs.flatMap leavesL
theorem lvs_take {qs : List (List Int)} {k : Nat} (h : k < qs.length) : lvs (qs.take (k + 1)) = lvs (qs.take k) ++ leavesL (qs.getD k []) := by
  unfold lvs
  rw [List.take_succ_eq_append_getElem h, List.flatMap_append]
  simp [List.getD, h]
theorem lvs_len (qs : List (List Int)) : (lvs qs).length ≤ 24 * qs.length := by
  induction qs with
  | nil => simp [lvs]
  | cons q qs ih =>
    have := leavesL_len q
    have e : lvs (q :: qs) = leavesL q ++ lvs qs := by simp [lvs]
    rw [e, List.length_append, List.length_cons]
    omega
theorem bal_lvs {qs : List (List Int)} (hv : qs.all validB = true) {a : Int} (h1 : 1 ≤ a) (h8 : a ≤ 8) : ((lvs qs).count a : Int) - ((lvs qs).count (-a) : Int) = bal a qs := by
  induction qs with
  | nil => simp [lvs, bal]
  | cons q qs ih =>
    simp only [List.all_cons, Bool.and_eq_true] at hv
    have e : lvs (q :: qs) = leavesL q ++ lvs qs := by simp [lvs]
    have e2 : bal a (q :: qs) = (cntZ q a - cntZ q (-a)) + bal a qs := by simp [bal]
    have i := ih hv.2
    have la : leafB a = true := leaf_iff.2 (by omega)
    have lb : leafB (-a) = true := leaf_iff.2 (by omega)
    rw [e, e2, List.count_append, List.count_append, cntZ_count hv.1, cntZ_count hv.1, leaves_count hv.1 la, leaves_count hv.1 lb]
    omega
/-- The sequent is balanced. -/
def balQ (qs : List (List Int)) : Bool := validQ qs && (List.range 8).all fun i => decide (bal ((i : Int) + 1) qs = 0)
theorem balQ_inv {qs : List (List Int)} (h : validQ qs = false) : balQ qs = false := by simp [balQ, h]
theorem balQ_no {qs : List (List Int)} {k : Nat} (hk : k < 8) (h : bal ((k : Int) + 1) qs ≠ 0) : balQ qs = false := by
  have : ((List.range 8).all fun i => decide (bal ((i : Int) + 1) qs = 0)) = false := by
    rw [List.all_eq_false]
    exact ⟨k, List.mem_range.2 hk, by simp [h]⟩
  simp [balQ, this]
theorem balQ_yes {qs : List (List Int)} (hv : validQ qs = true) (h : ∀ k : Nat, k < 8 → bal ((k : Int) + 1) qs = 0) : balQ qs = true := by
  have : ((List.range 8).all fun i => decide (bal ((i : Int) + 1) qs = 0)) = true := by
    rw [List.all_eq_true]
    exact fun k hk => decide_eq_true (h k (List.mem_range.1 hk))
  simp [balQ, hv, this]
theorem validQ_all {qs : List (List Int)} (h : validQ qs = true) : qs.all validB = true := by
  unfold validQ at h
  simp only [Bool.and_eq_true] at h
  exact h.2.1
theorem cntZ_bd (f : List Int) (x : Int) : -1 ≤ cntZ f x ∧ cntZ f x ≤ 24 := by
  cases h : validB f with
  | false => rw [cntZ_no x h]; omega
  | true =>
    have h1 := valid_len h
    have h2 : f.count x ≤ f.length := List.count_le_length
    rw [cntZ_count h]; omega
theorem bal_bd (a : Int) (qs : List (List Int)) : -(25 * (qs.length : Int)) ≤ bal a qs ∧ bal a qs ≤ 25 * (qs.length : Int) := by
  induction qs with
  | nil => simp [bal]
  | cons q qs ih =>
    have e2 : bal a (q :: qs) = (cntZ q a - cntZ q (-a)) + bal a qs := by simp [bal]
    have h1 := cntZ_bd q a
    have h2 := cntZ_bd q (-a)
    rw [e2, List.length_cons]
    omega

/-- The map's datum tells how often each number occurs. -/
def CntD (D : DataW Unit) (l : List Int) : Prop := IsMap D ∧ ∀ z : Int, D.atKey (.int .i64 z) (.lit (.int .i64 0)) = .lit (.int .i64 (l.count z))
theorem CntD.nil : CntD (.map []) [] := ⟨isMap_empty, fun _ => rfl⟩
theorem CntD.at {D : DataW Unit} {l : List Int} (h : CntD D l) {z c : Int} (hat : D.atKey (.int .i64 z) (.lit (.int .i64 0)) = .lit (.int .i64 c)) : c = l.count z := by
  rw [h.2 z] at hat
  injection hat with e
  injection e with _ e
  exact e.symm
theorem CntD.put {D : DataW Unit} {l : List Int} (h : CntD D l) (z : Int) {c : Int} (hc : c = (l.count z : Int) + 1) : CntD (D.put (.int .i64 z) (.lit (.int .i64 c))) (l ++ [z]) := by
  subst hc
  obtain ⟨⟨es, rfl⟩, h2⟩ := h
  refine ⟨⟨_, rfl⟩, fun x => ?_⟩
  by_cases e : x = z
  · subst e
    rw [atKey_put_same ⟨es, rfl⟩ (by trivial), List.count_append]
    simp
  · rw [atKey_put_other (by intro h; injection h with _ h; exact e h), h2 x, List.count_append]
    have : [z].count x = 0 := List.count_eq_zero.2 (by simp; exact e)
    rw [this]; rfl

theorem law64 : Keyed Tryd.prog 2 := int_keyed Tryd.underlying2
theorem zeroI (w : World) : (zeroValue 3).run Tryd.prog w = .ok (.int .i64 0) w := by kernel_rfl
theorem map_below {w w' : World} {P : Program} {k : TypeId} {R : Value → Option (DataW Unit × List MemPlace)} {b n B : Nat} {D : DataW Unit} (h : w.ownsMap P k R b n D) (hb : Below B w w') (hB : b < B) : w'.ownsMap P k R b n D := by
  obtain ⟨es, clock, hh, r⟩ := h
  exact ⟨es, clock, (hb.block b hB).trans hh, r⟩
theorem count_le {l : List Int} {z : Int} : l.count z ≤ l.length := List.count_le_length

theorem leavesL_bd (f : List Int) : ∀ z ∈ leavesL f, -8 ≤ z ∧ z ≤ 8 := by
  intro z hz
  unfold leavesL at hz
  cases h : validB f with
  | false => rw [h] at hz; simp at hz
  | true =>
    rw [h] at hz
    have := leaf_iff.1 (List.mem_filter.1 (by simpa using hz)).2
    omega

set_option maxRecDepth 100000 in
set_option maxHeartbeats 4000000 in
theorem leafCounts_any (A : Option Addr) (n c : Nat) (qs : List (List Int)) (w : World) (h : RdQ w w.heap.size A n qs) (hn : n ≤ 10) (ht : Arit w) :
    Calls Tryd.prog 58 #[.agg #[.slice A n c]] w fun e w' => ∃ b D, e = .returned (.map (some b)) ∧ w'.ownsMap Tryd.prog 2 (plainElem Tryd.prog 3) b 240 D ∧ CntD D (lvs qs) ∧ Below w.heap.size w w' := by
  have hl := h.len
  subst hl
  have hmm := @run_makeMap Tryd.prog
  have hb := box_below w (.slice A qs.length c) 34
  have hc1 : (w.alloc (.cells #[Value.slice A qs.length c] 34)).cell? ⟨w.heap.size, 0, none⟩ = some (.slice A qs.length c) := by simp
  have hs1 : (w.alloc (.cells #[Value.slice A qs.length c] 34)).heap.size = w.heap.size + 1 := by simp
  have h1 := (h.below hb).more hb.size
  have HB := Lib.hid hb
  have HS1 := Lib.hid hs1
  have ht1 := ht.below hb ht.lt
  have hm0 := World.ownsMap_made (H := Unit) (w.alloc (.cells #[Value.slice A qs.length c] 34)) Tryd.prog 2 (plainElem Tryd.prog 3)
  rw [hs1] at hm0
  have hb0 := (Below.refl (w.alloc (.cells #[Value.slice A qs.length c] 34)).heap.size (w.alloc (.cells #[Value.slice A qs.length c] 34))).alloc (Nat.le_refl _) (.map #[] 0)
  have HM0 := Lib.hid hm0; have HB0 := Lib.hid hb0
  clear h hb hs1 ht hm0 hb0
  go_enter Tryd.func58, Tryd.ntmps58
  go_wp2
  generalize w.alloc (.cells #[Value.slice A qs.length c] 34) = w1 at *
  have hs1 := HS1.out
  generalize w.heap.size + 1 = b0 at *
  go_loopw [12] (fun i wr => ∃ (k m : Nat) (D : DataW Unit), k ≤ qs.length ∧ i = .int .i64 k ∧ m ≤ 24 * k ∧ wr.ownsMap Tryd.prog 2 (plainElem Tryd.prog 3) b0 m D ∧ CntD D (lvs (qs.take k)) ∧ Below w1.heap.size w1 wr) (fun i _ => qs.length - (intOf i).toNat)
  case atStart => exact ⟨0, 0, _, Nat.zero_le _, rfl, Nat.le_refl _, HM0.out, CntD.nil, HB0.out⟩
  case round =>
    obtain ⟨k, m, D, hk, rfl, hm, hmap, hcd, hbl⟩ := hrel
    by_cases hlt : k < qs.length
    · obtain ⟨b, off, rfl, hbb, hcells⟩ := h1.2 (by omega)
      obtain ⟨A', c', hcell1, hcc, hrd1⟩ := hcells k hlt
      have hcell := (hbl.cell (p := ⟨b, off + k, none⟩) hbb).trans hcell1
      have hrd := (hrd1.below hbl).more hbl.size
      have hLV := leavesOf_impl A' (qs.getD k []).length c' (qs.getD k []) wr hrd (ht1.below hbl ht1.lt) hcc
      have h24 := leavesL_len (qs.getD k [])
      have HLB := Lib.hid (leavesL_bd (qs.getD k []))
      have hll := lvs_len (qs.take k)
      rw [List.length_take] at hll
      have HNX := Lib.hid (lvs_take hlt)
      have hmlt := hmap.lt
      have HCD := Lib.hid hcd; have HMP := Lib.hid hmap; have HBL := Lib.hid hbl; have HLV := Lib.hid hLV
      generalize leavesL (qs.getD k []) = lv at *
      generalize hLS : lvs (qs.take k) = ls at *
      generalize (qs.getD k []).length = M at *
      clear hcells hcell1 hrd1 hrd h1 ht1 hLV hcd hmap hbl HM0 HB0 hLS
      go_wp2_with (fail)
      refine HLV.out.mono ?_
      rintro e w2 ⟨A2, c2, rfl, own2, bel2⟩
      have HG2 : Hid (Below w1.heap.size w1 w2) := Lib.hid (HBL.out.trans (bel2.mono HBL.out.size))
      have HM2 := Lib.hid (map_below HMP.out bel2 hmlt)
      have HO2 := Lib.hid own2
      have hwr := HBL.out.size
      clear bel2 own2 HMP HBL
      go_wp2_with (fail)
      go_loopw [7, 19] (fun _ i wx => ∃ (j m' : Nat) (D' : DataW Unit), j ≤ lv.length ∧ i = .int .i64 j ∧ m' ≤ 24 * k + j ∧ wx.ownsMap Tryd.prog 2 (plainElem Tryd.prog 3) b0 m' D' ∧ CntD D' (ls ++ lv.take j) ∧ w2.grownBy wx (some b0)) (fun _ i _ => lv.length - (intOf i).toNat)
      case atStart => exact ⟨0, m, D, Nat.zero_le _, rfl, by omega, HM2.out, by rw [List.take_zero, List.append_nil]; exact HCD.out, World.grownBy.refl w2 _⟩
      case round =>
        obtain ⟨j, m', D', hj, rfl, hm', hmap, hcd, hgr⟩ := hrel
        by_cases hjl : j < lv.length
        · obtain ⟨g, cap, hv', hlo, hgl⟩ := HO2.out.form (by omega)
          have hA : A2 = some ⟨g, 0, none⟩ ∧ c2 = cap := by injection hv' with x y z; exact ⟨x, z⟩
          obtain ⟨rfl, rfl⟩ := hA
          have hz : wr.cell? ⟨g, j, none⟩ = some (.int .i64 (lv.getD j 0)) := by
            refine hgr.cell ?_ (by intro e; have e' : g = b0 := Option.some.inj e; omega)
            rw [HO2.out.cellAt j (by omega)]
            simp [List.getD, hjl]
          have hstep : lv.take j ++ [lv.getD j 0] = lv.take (j + 1) := by
            rw [List.take_succ_eq_append_getElem hjl]
            simp [List.getD, hjl]
          have hlen : (ls ++ lv.take j).length ≤ 400 := by rw [List.length_append, List.length_take]; omega
          have hcl := count_le (l := ls ++ lv.take j) (z := lv.getD j 0)
          have hzb := HLB.out (lv.getD j 0) (by simp [List.getD, hjl])
          have HST := Lib.hid hstep
          clear hv' hstep
          generalize lv.getD j 0 = z at *
          have hkey : keyOf Tryd.prog 2 (.int .i64 z) = some (.int .i64 z) := keyOf_int_mk Tryd.underlying2 (WalkArith.wf_i64 (by omega))
          obtain ⟨N, hN⟩ : ∃ N, (ls ++ lv.take j).count z = N := ⟨_, rfl⟩
          rw [hN] at hcl
          have HN := Lib.hid hN
          have HCX := Lib.hid hcd
          have HMX := Lib.hid hmap
          have HGX := Lib.hid hgr
          have hNb : N ≤ 400 := by omega
          clear hN hcl hlen hcd hmap hgr
          go_wp2_with (first
            | (at_lookup; refine wpList_lookup_own_int _ rfl _ _ 67 rfl 2 3 .i64 law64 Tryd.underlying67 Tryd.underlying3 (zeroI _) b0 m' _ rfl HMX.out _ _ rfl hkey ?_; intro cc hat hwc; obtain rfl := (HCX.out.at hat).trans (congrArg Nat.cast HN.out); clear hat hwc)
            | (at_mapUpdate; refine wpList_mapUpdate_own _ rfl _ _ _ 67 rfl 2 3 law64 Tryd.underlying67 _ b0 m' _ rfl HMX.out (by unfold maxLen; omega) _ _ _ rfl rfl hkey _ [] (plainElem_int Tryd.underlying3 (WalkArith.wf_i64 (by omega))) ?_; intro w4 hown4 hgrow4))
          have HP := Lib.hid (HCX.out.put z (c := (N : Int) + 1) (by rw [HN.out]))
          have HO4 := Lib.hid hown4
          have HG4 := Lib.hid (grownBy_trans HGX.out hgrow4)
          clear hown4 hgrow4
          go_roundw
          case rel => exact ⟨j + 1, m' + 1, _, by omega, by go_num, by omega, HO4.out, by rw [← HST.out, ← List.append_assoc]; exact HP.out, HG4.out⟩
          case measure => simp [intOf]; omega
        · have hje : j = lv.length := by omega
          subst hje
          rw [List.take_of_length_le (Nat.le_refl _), ← HNX.out] at hcd
          have HCX := Lib.hid hcd
          have HMX := Lib.hid hmap
          have HBX := Lib.hid (HG2.out.grown hgr (by have := HG2.out.size; omega) (by intro q e; injection e with e; omega))
          clear hcd hmap hgr
          go_wp2
          go_roundw
          case rel => exact ⟨k + 1, m', _, by omega, by go_num, by omega, HMX.out, HCX.out, HBX.out⟩
          case measure => simp [intOf]; omega
    · have hkl : k = qs.length := by omega
      subst hkl
      rw [List.take_of_length_le (Nat.le_refl _)] at hcd
      have HCD := Lib.hid hcd; have HMP := Lib.hid (hmap.mono (n' := 240) (by omega)); have HBB := Lib.hid (HB.out.trans (hbl.mono HB.out.size))
      clear hcd hmap hbl h1 ht1
      go_wp2
      go_ret
      exact ⟨_, _, rfl, HMP.out, HCD.out, HBB.out⟩
end Go.Proofs.YtdgejhlpncnenaaDoor
