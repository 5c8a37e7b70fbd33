/- Mathematics for SameMultiset: maps of counts, and two sequents whose formulas are the same up to their order; formCounts. SameMultiset of the program and of the model. -/
import Derived.Test.YtjhagklpnpabeaaDoorSrtK
import Derived.Test.YtjhagklpnpabeaaDoorTextM
import Derived.Test.YtjhagklpnpabeaaDoorArrowM
import Derived.Test.YtjhagklpnpabeaaDoorText
import Derived.Test.YtjhagklpnpabeaaDoorBal
import Derived.Lib.SlMapEqual
import Derived.Test.YtjhagklpnpabeaaDoorEqD
import Derived.Test.YtjhagklpnpabeaaDoorShelfM
import Derived.Deep.RegionHeld3
import Derived.Deep.RegionHeldLaw
namespace Go.Proofs.YtjhagklpnpabeaaDoor
open Go.ChangeAt Go.ChangeShapes Go.Maps Go.RowKit Go.WideShapes

/-- The map's datum tells how often each text occurs. -/
def CntS (D : DataW Unit) (l : List (List UInt8)) : Prop := IsMap D ∧ (∀ s, D.atKey (.string s) (.lit (.int .i64 0)) = .lit (.int .i64 (l.count s))) ∧ ∀ k, has D k = true ↔ ∃ s ∈ l, k = .string s
theorem CntS.nil : CntS (.map []) [] := ⟨isMap_empty, fun _ => rfl, fun k => by simp [has]⟩
theorem CntS.at {D : DataW Unit} {l : List (List UInt8)} (h : CntS D l) {s : List UInt8} {c : Int} (hat : D.atKey (.string s) (.lit (.int .i64 0)) = .lit (.int .i64 c)) : c = l.count s := by
  rw [h.2.1 s] at hat
  injection hat with e
  injection e with _ e
  exact e.symm
theorem CntS.put {D : DataW Unit} {l : List (List UInt8)} (h : CntS D l) (z : List UInt8) {c : Int} (hc : c = (l.count z : Int) + 1) : CntS (D.put (.string z) (.lit (.int .i64 c))) (l ++ [z]) := by
  subst hc
  obtain ⟨⟨es, rfl⟩, h2, h3⟩ := h
  refine ⟨⟨_, rfl⟩, fun x => ?_, fun k => ?_⟩
  · by_cases e : x = z
    · subst e
      rw [atKey_put_same ⟨es, rfl⟩ (by trivial), List.count_append]
      simp
    · rw [atKey_put_other (by intro h; injection h with h; exact e h), h2 x, List.count_append]
      have : [z].count x = 0 := List.count_eq_zero.2 (by simp; exact e)
      rw [this]; rfl
  · by_cases e : k = .string z
    · subst e
      rw [has_put_same ⟨es, rfl⟩ (by trivial)]
      exact ⟨fun _ => ⟨z, by simp, rfl⟩, fun _ => rfl⟩
    · rw [has_put_other e, h3 k]
      constructor
      · rintro ⟨s, hs, rfl⟩; exact ⟨s, List.mem_append_left _ hs, rfl⟩
      · rintro ⟨s, hs, rfl⟩
        rcases List.mem_append.1 hs with hs | hs
        · exact ⟨s, hs, rfl⟩
        · exact absurd (by rw [List.mem_singleton.1 hs]) e

/-- Equality of two counts, as data. -/
def sameD (x y : DataW Unit) : Bool := match x, y with
  | .lit (.int .i64 a), .lit (.int .i64 b) => a == b
  | _, _ => false
theorem sub_full : ∀ {xs ys : List Lit}, xs.Pairwise (· ≠ ·) → ys.Pairwise (· ≠ ·) → (∀ x ∈ xs, x ∈ ys) → ys.length ≤ xs.length → ∀ y ∈ ys, y ∈ xs
  | [], ys, _, _, _, hl, y, hy => by
    have : ys = [] := List.eq_nil_of_length_eq_zero (by simpa using hl)
    subst this; simp at hy
  | x :: xs, ys, hx, hyy, hs, hl, y, hy => by
    obtain ⟨a, b, rfl⟩ := List.append_of_mem (hs x (by simp))
    obtain ⟨h1, h2⟩ := List.pairwise_cons.1 hx
    have hp : (a ++ x :: b).Perm (x :: (a ++ b)) := List.perm_middle
    have hyy' := (hp.pairwise_iff (fun h => h.symm)).1 hyy
    obtain ⟨h3, h4⟩ := List.pairwise_cons.1 hyy'
    rcases List.mem_cons.1 (hp.mem_iff.1 hy) with rfl | hy'
    · simp
    · refine List.mem_cons_of_mem _ (sub_full h2 h4 (fun z hz => ?_) (by simp at hl ⊢; omega) y hy')
      rcases List.mem_cons.1 (hp.mem_iff.1 (hs z (by simp [hz]))) with e | h
      · exact absurd e.symm (h1 z hz)
      · exact h

theorem keys_apart {es : List (Lit × DataW Unit)} (h : es.Pairwise (fun p q => p.1 ≠ q.1)) : (es.map Prod.fst).Pairwise (· ≠ ·) := List.pairwise_map.2 h
theorem has_mem {es : List (Lit × DataW Unit)} {k : Lit} (hk : WideAt.IsKeyLit k) : has (.map es) k = true ↔ k ∈ es.map Prod.fst := by
  rw [has_eq, List.any_eq_true]
  constructor
  · rintro ⟨p, hp, hs⟩
    rw [← WideAt.sameKey_eq hs]; exact List.mem_map.2 ⟨p, hp, rfl⟩
  · intro h
    obtain ⟨p, hp, rfl⟩ := List.mem_map.1 h
    exact ⟨p, hp, WideAt.sameKey_self hk⟩

theorem counts_same {D1 D2 : DataW Unit} {l1 l2 : List (List UInt8)} (h1 : CntS D1 l1) (h2 : CntS D2 l2) (c1 : Canon D1) (c2 : Canon D2) : Lib.equalFuncD sameD D1 D2 = decide (l1.Perm l2) := by
  obtain ⟨es1, rfl, r1, k1⟩ := c1
  obtain ⟨es2, rfl, r2, k2⟩ := c2
  have a1 := apart_of_rising r1
  have a2 := apart_of_rising r2
  have val1 : ∀ p ∈ es1, ∃ s ∈ l1, p.1 = .string s ∧ p.2 = .lit (.int .i64 (l1.count s)) := by
    intro p hp
    obtain ⟨s, hs, e⟩ := (h1.2.2 p.1).1 ((has_mem (k1 p hp)).2 (List.mem_map.2 ⟨p, hp, rfl⟩))
    have hv := WideAt.atKey_mem (.lit (.int .i64 0)) (k1 p hp) a1 (show (p.1, p.2) ∈ es1 from hp)
    rw [e, h1.2.1 s] at hv
    exact ⟨s, hs, e, hv.symm⟩
  by_cases hP : l1.Perm l2
  · rw [decide_eq_true hP]
    have hD : (DataW.map es1 : DataW Unit) = .map es2 := ext ⟨es1, rfl, r1, k1⟩ ⟨es2, rfl, r2, k2⟩
      (fun k => by
        have : has (DataW.map es1) k = true ↔ has (DataW.map es2) k = true := by
          rw [h1.2.2 k, h2.2.2 k]
          constructor
          · rintro ⟨s, hs, e⟩; exact ⟨s, hP.mem_iff.1 hs, e⟩
          · rintro ⟨s, hs, e⟩; exact ⟨s, hP.mem_iff.2 hs, e⟩
        cases e1 : has (DataW.map es1) k <;> cases e2 : has (DataW.map es2) k <;> simp_all)
      (fun k z hh => by
        obtain ⟨s, hs, rfl⟩ := (h1.2.2 k).1 hh
        have hh2 : has (DataW.map es2) (.string s) = true := (h2.2.2 _).2 ⟨s, hP.mem_iff.1 hs, rfl⟩
        rw [atKey_indep hh z (.lit (.int .i64 0)), atKey_indep hh2 z (.lit (.int .i64 0)), h1.2.1 s, h2.2.1 s, hP.count_eq])
    rw [← hD]
    unfold Lib.equalFuncD
    rw [decide_eq_true rfl, Bool.true_and]
    refine List.all_eq_true.2 fun p hp => ?_
    obtain ⟨s, hs, e1, e2⟩ := val1 p hp
    have hh : has (DataW.map es1) p.1 = true := (has_mem (k1 p hp)).2 (List.mem_map.2 ⟨p, hp, rfl⟩)
    have hv := WideAt.atKey_mem (.nil) (k1 p hp) a1 (show (p.1, p.2) ∈ es1 from hp)
    unfold Lib.goodD
    rw [hh, hv, e2]
    simp [sameD]
  · rw [decide_eq_false hP]
    cases hE : Lib.equalFuncD sameD (.map es1) (.map es2) with
    | false => rfl
    | true =>
      exfalso
      apply hP
      unfold Lib.equalFuncD at hE
      simp only [Bool.and_eq_true, decide_eq_true_eq] at hE
      obtain ⟨hsz, hall⟩ := hE
      have hg := List.all_eq_true.1 hall
      have hcnt : ∀ s ∈ l1, l1.count s = l2.count s ∧ s ∈ l2 := by
        intro s hs
        have hh := (h1.2.2 (.string s)).2 ⟨s, hs, rfl⟩
        obtain ⟨p, hp, e⟩ := List.mem_map.1 ((has_mem (k := .string s) trivial).1 hh)
        obtain ⟨t, _, e1, e2⟩ := val1 p hp
        rw [e] at e1
        obtain rfl : s = t := by injection e1
        have hgp := hg p hp
        unfold Lib.goodD at hgp
        rw [e, e2] at hgp
        simp only [Bool.and_eq_true] at hgp
        obtain ⟨g1, g2⟩ := hgp
        rw [atKey_indep g1 .nil (.lit (.int .i64 0)), h2.2.1 s] at g2
        obtain ⟨t, ht, e3⟩ := (h2.2.2 _).1 g1
        obtain rfl : s = t := by injection e3
        refine ⟨?_, ht⟩
        have g3 : (((l1.count s : Nat) : Int) == ((l2.count s : Nat) : Int)) = true := g2
        have g4 := eq_of_beq g3
        omega
      have hsub : ∀ y ∈ es2.map Prod.fst, y ∈ es1.map Prod.fst := sub_full (keys_apart a1) (keys_apart a2) (fun x hx => by
        obtain ⟨p, hp, rfl⟩ := List.mem_map.1 hx
        obtain ⟨s, hs, e1, _⟩ := val1 p hp
        rw [e1]
        exact (has_mem (k := .string s) trivial).1 ((h2.2.2 _).2 ⟨s, (hcnt s hs).2, rfl⟩)) (by
        simp only [List.length_map]
        have : es1.length = es2.length := hsz
        omega)
      rw [List.perm_iff_count]
      intro s
      by_cases hs : s ∈ l1
      · exact (hcnt s hs).1
      · have hs2 : s ∉ l2 := fun h => hs (by
          have h3 := hsub _ ((has_mem (k := .string s) trivial).1 ((h2.2.2 _).2 ⟨s, h, rfl⟩))
          obtain ⟨t, ht, e⟩ := (h1.2.2 _).1 ((has_mem (k := .string s) trivial).2 h3)
          obtain rfl : s = t := by injection e
          exact ht)
        rw [List.count_eq_zero.2 hs, List.count_eq_zero.2 hs2]

/-- The text of a formula, as a key. -/
noncomputable def txt (q : List Int) : List UInt8 := (mkB (textL q)).data.toList
noncomputable def dec (s : List UInt8) : List Int := pfL (s.map fun b => (b.toNat : Int))
theorem dec_txt {q : List Int} (hv : validB q = true) : dec (txt q) = q := by
  have hb : bl (mkB (textL q)) = textL q := bl_mkB (fun c hc => by have := textL_byte q c hc; omega)
  have h : dec (txt q) = pfL (bl (mkB (textL q))) := rfl
  rw [h, hb]
  exact (pf_text hv (by have := textL_len q; omega) (nsp_id (fun c hc => by have := textL_byte q c hc; omega))).1
theorem dec_all {qs : List (List Int)} (h : ∀ q ∈ qs, validB q = true) : (qs.map txt).map dec = qs := by
  rw [List.map_map]
  have : qs.map (dec ∘ txt) = qs.map id := List.map_congr_left (fun q hq => dec_txt (h q hq))
  rw [this, List.map_id]
theorem txt_perm {qs rs : List (List Int)} (h : ∀ q ∈ qs, validB q = true) (h' : ∀ q ∈ rs, validB q = true) : (qs.map txt).Perm (rs.map txt) ↔ qs.Perm rs := by
  constructor
  · intro hp
    have := hp.map dec
    rwa [dec_all h, dec_all h'] at this
  · exact fun hp => hp.map txt
theorem srt_perm {qs rs : List (List Int)} : srtL qs = srtL rs ↔ qs.Perm rs := by
  constructor
  · intro e
    exact ((srtL_perm qs).symm.trans (e ▸ List.Perm.refl _)).trans (srtL_perm rs)
  · intro hp
    exact srt_same ((srtL_perm qs).trans hp) (srtL_sol qs)
/-- The same formulas equally often. -/
def msQ (qs rs : List (List Int)) : Bool := (validQ qs && validQ rs) && decide (srtL qs = srtL rs)
theorem txt_take {qs : List (List Int)} {k : Nat} (h : k < qs.length) : (qs.take k).map txt ++ [txt (qs.getD k [])] = (qs.take (k + 1)).map txt := by
  rw [List.take_succ_eq_append_getElem h, List.map_append]
  simp [List.getD, h]

theorem lawS : Keyed Tryd.prog 9 := string_keyed Tryd.underlying9

theorem neq_int {e : TypeId} (he : Tryd.prog.underlying e = some (.int .i64)) (W : World) (x y : Value) (xd yd : DataW Unit) (xp yp : List MemPlace) (hx : plainElem Tryd.prog e x = some (xd, xp)) (hy : plainElem Tryd.prog e y = some (yd, yp)) :
    (binOp .neq e x y).run Tryd.prog W = .ok (.bool (!sameD xd yd)) W ∧ ∀ (a b : Operand), (eqGuard .neq e a b x y).run Tryd.prog W = .ok () W := by
  obtain ⟨a, rfl, h1, _⟩ := plainElem_int_inv he hx
  obtain ⟨b, rfl, h2, _⟩ := plainElem_int_inv he hy
  obtain rfl : xd = .lit (.int .i64 a) := by simpa using (congrArg Prod.fst h1)
  obtain rfl : yd = .lit (.int .i64 b) := by simpa using (congrArg Prod.fst h2)
  refine ⟨?_, fun _ _ => by rw [eqGuard_at_int]; rfl⟩
  simp [go_sem, sameD, binOp]
  rfl
end Go.Proofs.YtjhagklpnpabeaaDoor
