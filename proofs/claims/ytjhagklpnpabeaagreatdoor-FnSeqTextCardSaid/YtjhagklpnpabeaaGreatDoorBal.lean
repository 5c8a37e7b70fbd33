/- BalancedSeq: its mathematics, and the walks of the program and of the model. BalancedSeq of the program and of the model. -/
import Derived.Test.YtjhagklpnpabeaaGreatDoorSeqV
import Derived.Test.YtjhagklpnpabeaaGreatDoorLeaves
import Derived.Test.YtjhagklpnpabeaaGreatDoorCount
import Derived.Maps.OwnOps
import Derived.Maps.Views
namespace Go.Proofs.YtjhagklpnpabeaaGreatDoor
open Go.ChangeAt Go.ChangeShapes Go.Maps Go.RowKit Go.WideShapes

theorem cntT_count (f : List Int) (x : Int) {k : Nat} (hk : k ≤ f.length) : cntT f x k = (f.take k).count x := by
  induction k with
  | zero => simp [cntT]
  | succ k ih =>
    have hk' : k < f.length := by omega
    rw [cntT, ih (by omega), List.take_succ_eq_append_getElem hk', List.count_append]
    have e : f.getD k 0 = f[k] := by simp [List.getD, hk']
    rw [e]
    by_cases h : f[k] = x
    · rw [if_pos h, h]; simp
    · have e0 : [f[k]].count x = 0 := List.count_eq_zero.2 (by simp; exact fun e => h e.symm)
      rw [if_neg h, e0]
theorem cntZ_count {f : List Int} (h : validB f = true) (x : Int) : cntZ f x = ((f.count x : Nat) : Int) := by
  rw [cntZ_yes x h, cntT_count f x (Nat.le_refl _), List.take_of_length_le (Nat.le_refl _)]
theorem leaves_count {f : List Int} (h : validB f = true) {x : Int} (hx : leafB x = true) : (leavesL f).count x = f.count x := by
  unfold leavesL
  rw [if_pos h, List.count_filter hx]

/-- How many more of an atom than of its dual. -/
def bal (a : Int) (qs : List (List Int)) : Int := (qs.map fun f => cntZ f a - cntZ f (-a)).sum
theorem bal_take {a : Int} {qs : List (List Int)} {k : Nat} (h : k < qs.length) : bal a (qs.take (k + 1)) = bal a (qs.take k) + (cntZ (qs.getD k []) a - cntZ (qs.getD k []) (-a)) := by
  unfold bal
  rw [List.take_succ_eq_append_getElem h, List.map_append, List.sum_append]
  simp [List.getD, h]
/-- All leaves. -/
def lvs (qs : List (List Int)) : List Int := qs.flatMap leavesL
theorem lvs_take {qs : List (List Int)} {k : Nat} (h : k < qs.length) : lvs (qs.take (k + 1)) = lvs (qs.take k) ++ leavesL (qs.getD k []) := by
  unfold lvs
  rw [List.take_succ_eq_append_getElem h, List.flatMap_append]
  simp [List.getD, h]
theorem lvs_len (qs : List (List Int)) : (lvs qs).length ≤ 24 * qs.length := by
  induction qs with
  | nil => simp [lvs]
  | cons q qs ih =>
    have := leavesL_len q
    have e : lvs (q :: qs) = leavesL q ++ lvs qs := by simp [lvs]
    rw [e, List.length_append, List.length_cons]
    omega
theorem bal_lvs {qs : List (List Int)} (hv : qs.all validB = true) {a : Int} (h1 : 1 ≤ a) (h8 : a ≤ 8) : ((lvs qs).count a : Int) - ((lvs qs).count (-a) : Int) = bal a qs := by
  induction qs with
  | nil => simp [lvs, bal]
  | cons q qs ih =>
    simp only [List.all_cons, Bool.and_eq_true] at hv
    have e : lvs (q :: qs) = leavesL q ++ lvs qs := by simp [lvs]
    have e2 : bal a (q :: qs) = (cntZ q a - cntZ q (-a)) + bal a qs := by simp [bal]
    have i := ih hv.2
    have la : leafB a = true := leaf_iff.2 (by omega)
    have lb : leafB (-a) = true := leaf_iff.2 (by omega)
    rw [e, e2, List.count_append, List.count_append, cntZ_count hv.1, cntZ_count hv.1, leaves_count hv.1 la, leaves_count hv.1 lb]
    omega
/-- The sequent is balanced. -/
def balQ (qs : List (List Int)) : Bool := validQ qs && (List.range 8).all fun i => decide (bal ((i : Int) + 1) qs = 0)
theorem balQ_inv {qs : List (List Int)} (h : validQ qs = false) : balQ qs = false := by simp [balQ, h]
theorem balQ_no {qs : List (List Int)} {k : Nat} (hk : k < 8) (h : bal ((k : Int) + 1) qs ≠ 0) : balQ qs = false := by
  have : ((List.range 8).all fun i => decide (bal ((i : Int) + 1) qs = 0)) = false := by
    rw [List.all_eq_false]
    exact ⟨k, List.mem_range.2 hk, by simp [h]⟩
  simp [balQ, this]
theorem balQ_yes {qs : List (List Int)} (hv : validQ qs = true) (h : ∀ k : Nat, k < 8 → bal ((k : Int) + 1) qs = 0) : balQ qs = true := by
  have : ((List.range 8).all fun i => decide (bal ((i : Int) + 1) qs = 0)) = true := by
    rw [List.all_eq_true]
    exact fun k hk => decide_eq_true (h k (List.mem_range.1 hk))
  simp [balQ, hv, this]
theorem validQ_all {qs : List (List Int)} (h : validQ qs = true) : qs.all validB = true := by
  unfold validQ at h
  simp only [Bool.and_eq_true] at h
  exact h.2.1
theorem cntZ_bd (f : List Int) (x : Int) : -1 ≤ cntZ f x ∧ cntZ f x ≤ 24 := by
  cases h : validB f with
  | false => rw [cntZ_no x h]; omega
  | true =>
    have h1 := valid_len h
    have h2 : f.count x ≤ f.length := List.count_le_length
    rw [cntZ_count h]; omega
theorem bal_bd (a : Int) (qs : List (List Int)) : -(25 * (qs.length : Int)) ≤ bal a qs ∧ bal a qs ≤ 25 * (qs.length : Int) := by
  induction qs with
  | nil => simp [bal]
  | cons q qs ih =>
    have e2 : bal a (q :: qs) = (cntZ q a - cntZ q (-a)) + bal a qs := by simp [bal]
    have h1 := cntZ_bd q a
    have h2 := cntZ_bd q (-a)
    rw [e2, List.length_cons]
    omega

/-- The map's datum tells how often each number occurs. -/
def CntD (D : DataW Unit) (l : List Int) : Prop := IsMap D ∧ ∀ z : Int, D.atKey (.int .i64 z) (.lit (.int .i64 0)) = .lit (.int .i64 (l.count z))
theorem CntD.nil : CntD (.map []) [] := ⟨isMap_empty, fun _ => rfl⟩
theorem CntD.at {D : DataW Unit} {l : List Int} (h : CntD D l) {z c : Int} (hat : D.atKey (.int .i64 z) (.lit (.int .i64 0)) = .lit (.int .i64 c)) : c = l.count z := by
  rw [h.2 z] at hat
  injection hat with e
  injection e with _ e
  exact e.symm
theorem CntD.put {D : DataW Unit} {l : List Int} (h : CntD D l) (z : Int) {c : Int} (hc : c = (l.count z : Int) + 1) : CntD (D.put (.int .i64 z) (.lit (.int .i64 c))) (l ++ [z]) := by
  subst hc
  obtain ⟨⟨es, rfl⟩, h2⟩ := h
  refine ⟨⟨_, rfl⟩, fun x => ?_⟩
  by_cases e : x = z
  · subst e
    rw [atKey_put_same ⟨es, rfl⟩ (by trivial), List.count_append]
    simp
  · rw [atKey_put_other (by intro h; injection h with _ h; exact e h), h2 x, List.count_append]
    have : [z].count x = 0 := List.count_eq_zero.2 (by simp; exact e)
    rw [this]; rfl

theorem law64 : Keyed Tryz.prog 2 := int_keyed Tryz.underlying2
theorem zeroI (w : World) : (zeroValue 3).run Tryz.prog w = .ok (.int .i64 0) w := by kernel_rfl
theorem map_below {w w' : World} {P : Program} {k : TypeId} {R : Value → Option (DataW Unit × List MemPlace)} {b n B : Nat} {D : DataW Unit} (h : w.ownsMap P k R b n D) (hb : Below B w w') (hB : b < B) : w'.ownsMap P k R b n D := by
  obtain ⟨es, clock, hh, r⟩ := h
  exact ⟨es, clock, (hb.block b hB).trans hh, r⟩
theorem count_le {l : List Int} {z : Int} : l.count z ≤ l.length := List.count_le_length

theorem leavesL_bd (f : List Int) : ∀ z ∈ leavesL f, -8 ≤ z ∧ z ≤ 8 := by
  intro z hz
  unfold leavesL at hz
  cases h : validB f with
  | false => rw [h] at hz; simp at hz
  | true =>
    rw [h] at hz
    have := leaf_iff.1 (List.mem_filter.1 (by simpa using hz)).2
    omega

theorem balQ_noI {qs : List (List Int)} {a : Int} (h1 : 1 ≤ a) (h8 : a ≤ 8) (h : bal a qs ≠ 0) : balQ qs = false :=
  balQ_no (k := (a - 1).toNat) (by omega) (by rw [show (((a - 1).toNat : Nat) : Int) + 1 = a by omega]; exact h)
theorem balQ_yesI {qs : List (List Int)} (hv : validQ qs = true) (h : ∀ b : Int, 1 ≤ b → b < 9 → bal b qs = 0) : balQ qs = true :=
  balQ_yes hv fun k hk => h _ (by omega) (by omega)
theorem bal_next {qs : List (List Int)} {a : Int} (h : ∀ b : Int, 1 ≤ b → b < a → bal b qs = 0) (h0 : bal a qs = 0) : ∀ b : Int, 1 ≤ b → b < a + 1 → bal b qs = 0 := fun b h1 h2 => by
  by_cases e : b = a
  · subst e; exact h0
  · exact h b h1 (by omega)

end Go.Proofs.YtjhagklpnpabeaaGreatDoor
