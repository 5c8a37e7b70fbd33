/- Mathematics for SameMultiset: maps of counts, and two sequents whose formulas are the same up to their order; formCounts. SameMultiset of the program and of the model. -/
import Derived.Test.YtjhagklpnpabeaaGreatDoorSrtK
import Derived.Test.YtjhagklpnpabeaaGreatDoorTextM
import Derived.Test.YtjhagklpnpabeaaGreatDoorArrowM
import Derived.Test.YtjhagklpnpabeaaGreatDoorText
import Derived.Test.YtjhagklpnpabeaaGreatDoorBal
import Derived.Lib.SlMapEqual
import Derived.Test.YtjhagklpnpabeaaGreatDoorEqD
import Derived.Test.YtjhagklpnpabeaaGreatDoorShelfM
import Derived.Deep.RegionHeld3
import Derived.Deep.RegionHeldLaw
namespace Go.Proofs.YtjhagklpnpabeaaGreatDoor
open Go.ChangeAt Go.ChangeShapes Go.Maps Go.RowKit Go.WideShapes

/-- The map's datum tells how often each text occurs. -/
def CntS (D : DataW Unit) (l : List (List UInt8)) : Prop := IsMap D ∧ (∀ s, D.atKey (.string s) (.lit (.int .i64 0)) = .lit (.int .i64 (l.count s))) ∧ ∀ k, has D k = true ↔ ∃ s ∈ l, k = .string s
theorem CntS.nil : CntS (.map []) [] := ⟨isMap_empty, fun _ => rfl, fun k => by simp [has]⟩
theorem CntS.at {D : DataW Unit} {l : List (List UInt8)} (h : CntS D l) {s : List UInt8} {c : Int} (hat : D.atKey (.string s) (.lit (.int .i64 0)) = .lit (.int .i64 c)) : c = l.count s := by
  rw [h.2.1 s] at hat
  injection hat with e
  injection e with _ e
  exact e.symm
theorem CntS.put {D : DataW Unit} {l : List (List UInt8)} (h : CntS D l) (z : List UInt8) {c : Int} (hc : c = (l.count z : Int) + 1) : CntS (D.put (.string z) (.lit (.int .i64 c))) (l ++ [z]) := by
  subst hc
  obtain ⟨⟨es, rfl⟩, h2, h3⟩ := h
  refine ⟨⟨_, rfl⟩, fun x => ?_, fun k => ?_⟩
  · by_cases e : x = z
    · subst e
      rw [atKey_put_same ⟨es, rfl⟩ (by trivial), List.count_append]
      simp
    · rw [atKey_put_other (by intro h; injection h with h; exact e h), h2 x, List.count_append]
      have : [z].count x = 0 := List.count_eq_zero.2 (by simp; exact e)
      rw [this]; rfl
  · by_cases e : k = .string z
    · subst e
      rw [has_put_same ⟨es, rfl⟩ (by trivial)]
      exact ⟨fun _ => ⟨z, by simp, rfl⟩, fun _ => rfl⟩
    · rw [has_put_other e, h3 k]
      constructor
      · rintro ⟨s, hs, rfl⟩; exact ⟨s, List.mem_append_left _ hs, rfl⟩
      · rintro ⟨s, hs, rfl⟩
        rcases List.mem_append.1 hs with hs | hs
        · exact ⟨s, hs, rfl⟩
        · exact absurd (by rw [List.mem_singleton.1 hs]) e

/-- Equality of two counts, as data. -/
def sameD (x y : DataW Unit) : Bool := match x, y with
  | .lit (.int .i64 a), .lit (.int .i64 b) => a == b
  | _, _ => false
theorem sub_full : ∀ {xs ys : List Lit}, xs.Pairwise (· ≠ ·) → ys.Pairwise (· ≠ ·) → (∀ x ∈ xs, x ∈ ys) → ys.length ≤ xs.length → ∀ y ∈ ys, y ∈ xs
  | [], ys, _, _, _, hl, y, hy => by
    have : ys = [] := List.eq_nil_of_length_eq_zero (by simpa using hl)
    subst this; simp at hy
  | x :: xs, ys, hx, hyy, hs, hl, y, hy => by
    obtain ⟨a, b, rfl⟩ := List.append_of_mem (hs x (by simp))
    obtain ⟨h1, h2⟩ := List.pairwise_cons.1 hx
    have hp : (a ++ x :: b).Perm (x :: (a ++ b)) := List.perm_middle
    have hyy' := (hp.pairwise_iff (fun h => h.symm)).1 hyy
    obtain ⟨h3, h4⟩ := List.pairwise_cons.1 hyy'
    rcases List.mem_cons.1 (hp.mem_iff.1 hy) with rfl | hy'
    · simp
    · refine List.mem_cons_of_mem _ (sub_full h2 h4 (fun z hz => ?_) (by simp at hl ⊢; omega) y hy')
      rcases List.mem_cons.1 (hp.mem_iff.1 (hs z (by simp [hz]))) with e | h
      · exact absurd e.symm (h1 z hz)
      · exact h

theorem keys_apart {es : List (Lit × DataW Unit)} (h : es.Pairwise (fun p q => p.1 ≠ q.1)) : (es.map Prod.fst).Pairwise (· ≠ ·) := List.pairwise_map.2 h
theorem has_mem {es : List (Lit × DataW Unit)} {k : Lit} (hk : WideAt.IsKeyLit k) : has (.map es) k = true ↔ k ∈ es.map Prod.fst := by
  rw [has_eq, List.any_eq_true]
  constructor
  · rintro ⟨p, hp, hs⟩
    rw [← WideAt.sameKey_eq hs]; exact List.mem_map.2 ⟨p, hp, rfl⟩
  · intro h
    obtain ⟨p, hp, rfl⟩ := List.mem_map.1 h
    exact ⟨p, hp, WideAt.sameKey_self hk⟩

theorem counts_same {D1 D2 : DataW Unit} {l1 l2 : List (List UInt8)} (h1 : CntS D1 l1) (h2 : CntS D2 l2) (c1 : Canon D1) (c2 : Canon D2) : Lib.equalFuncD sameD D1 D2 = decide (l1.Perm l2) := by
  obtain ⟨es1, rfl, r1, k1⟩ := c1
  obtain ⟨es2, rfl, r2, k2⟩ := c2
  have a1 := apart_of_rising r1
  have a2 := apart_of_rising r2
  have val1 : ∀ p ∈ es1, ∃ s ∈ l1, p.1 = .string s ∧ p.2 = .lit (.int .i64 (l1.count s)) := by
    intro p hp
    obtain ⟨s, hs, e⟩ := (h1.2.2 p.1).1 ((has_mem (k1 p hp)).2 (List.mem_map.2 ⟨p, hp, rfl⟩))
    have hv := WideAt.atKey_mem (.lit (.int .i64 0)) (k1 p hp) a1 (show (p.1, p.2) ∈ es1 from hp)
    rw [e, h1.2.1 s] at hv
    exact ⟨s, hs, e, hv.symm⟩
  by_cases hP : l1.Perm l2
  · rw [decide_eq_true hP]
    have hD : (DataW.map es1 : DataW Unit) = .map es2 := ext ⟨es1, rfl, r1, k1⟩ ⟨es2, rfl, r2, k2⟩
      (fun k => by
        have : has (DataW.map es1) k = true ↔ has (DataW.map es2) k = true := by
          rw [h1.2.2 k, h2.2.2 k]
          constructor
          · rintro ⟨s, hs, e⟩; exact ⟨s, hP.mem_iff.1 hs, e⟩
          · rintro ⟨s, hs, e⟩; exact ⟨s, hP.mem_iff.2 hs, e⟩
        cases e1 : has (DataW.map es1) k <;> cases e2 : has (DataW.map es2) k <;> simp_all)
      (fun k z hh => by
        obtain ⟨s, hs, rfl⟩ := (h1.2.2 k).1 hh
        have hh2 : has (DataW.map es2) (.string s) = true := (h2.2.2 _).2 ⟨s, hP.mem_iff.1 hs, rfl⟩
        rw [atKey_indep hh z (.lit (.int .i64 0)), atKey_indep hh2 z (.lit (.int .i64 0)), h1.2.1 s, h2.2.1 s, hP.count_eq])
    rw [← hD]
    unfold Lib.equalFuncD
    rw [decide_eq_true rfl, Bool.true_and]
    refine List.all_eq_true.2 fun p hp => ?_
    obtain ⟨s, hs, e1, e2⟩ := val1 p hp
    have hh : has (DataW.map es1) p.1 = true := (has_mem (k1 p hp)).2 (List.mem_map.2 ⟨p, hp, rfl⟩)
    have hv := WideAt.atKey_mem (.nil) (k1 p hp) a1 (show (p.1, p.2) ∈ es1 from hp)
    unfold Lib.goodD
    rw [hh, hv, e2]
    simp [sameD]
  · rw [decide_eq_false hP]
    cases hE : Lib.equalFuncD sameD (.map es1) (.map es2) with
    | false => rfl
    | true =>
      exfalso
      apply hP
      unfold Lib.equalFuncD at hE
      simp only [Bool.and_eq_true, decide_eq_true_eq] at hE
      obtain ⟨hsz, hall⟩ := hE
      have hg := List.all_eq_true.1 hall
      have hcnt : ∀ s ∈ l1, l1.count s = l2.count s ∧ s ∈ l2 := by
        intro s hs
        have hh := (h1.2.2 (.string s)).2 ⟨s, hs, rfl⟩
        obtain ⟨p, hp, e⟩ := List.mem_map.1 ((has_mem (k := .string s) trivial).1 hh)
        obtain ⟨t, _, e1, e2⟩ := val1 p hp
        rw [e] at e1
        obtain rfl : s = t := by injection e1
        have hgp := hg p hp
        unfold Lib.goodD at hgp
        rw [e, e2] at hgp
        simp only [Bool.and_eq_true] at hgp
        obtain ⟨g1, g2⟩ := hgp
        rw [atKey_indep g1 .nil (.lit (.int .i64 0)), h2.2.1 s] at g2
        obtain ⟨t, ht, e3⟩ := (h2.2.2 _).1 g1
        obtain rfl : s = t := by injection e3
        refine ⟨?_, ht⟩
        have g3 : (((l1.count s : Nat) : Int) == ((l2.count s : Nat) : Int)) = true := g2
        have g4 := eq_of_beq g3
        omega
      have hsub : ∀ y ∈ es2.map Prod.fst, y ∈ es1.map Prod.fst := sub_full (keys_apart a1) (keys_apart a2) (fun x hx => by
        obtain ⟨p, hp, rfl⟩ := List.mem_map.1 hx
        obtain ⟨s, hs, e1, _⟩ := val1 p hp
        rw [e1]
        exact (has_mem (k := .string s) trivial).1 ((h2.2.2 _).2 ⟨s, (hcnt s hs).2, rfl⟩)) (by
        simp only [List.length_map]
        have : es1.length = es2.length := hsz
        omega)
      rw [List.perm_iff_count]
      intro s
      by_cases hs : s ∈ l1
      · exact (hcnt s hs).1
      · have hs2 : s ∉ l2 := fun h => hs (by
          have h3 := hsub _ ((has_mem (k := .string s) trivial).1 ((h2.2.2 _).2 ⟨s, h, rfl⟩))
          obtain ⟨t, ht, e⟩ := (h1.2.2 _).1 ((has_mem (k := .string s) trivial).2 h3)
          obtain rfl : s = t := by injection e
          exact ht)
        rw [List.count_eq_zero.2 hs, List.count_eq_zero.2 hs2]

/-- The text of a formula, as a key. -/
noncomputable def txt (q : List Int) : List UInt8 := (mkB (textL q)).data.toList
noncomputable def dec (s : List UInt8) : List Int := pfL (s.map fun b => (b.toNat : Int))
theorem dec_txt {q : List Int} (hv : validB q = true) : dec (txt q) = q := by
  have hb : bl (mkB (textL q)) = textL q := bl_mkB (fun c hc => by have := textL_byte q c hc; omega)
  have h : dec (txt q) = pfL (bl (mkB (textL q))) := rfl
  rw [h, hb]
  exact (pf_text hv (by have := textL_len q; omega) (nsp_id (fun c hc => by have := textL_byte q c hc; omega))).1
theorem dec_all {qs : List (List Int)} (h : ∀ q ∈ qs, validB q = true) : (qs.map txt).map dec = qs := by
  rw [List.map_map]
  have : qs.map (dec ∘ txt) = qs.map id := List.map_congr_left (fun q hq => dec_txt (h q hq))
  rw [this, List.map_id]
theorem txt_perm {qs rs : List (List Int)} (h : ∀ q ∈ qs, validB q = true) (h' : ∀ q ∈ rs, validB q = true) : (qs.map txt).Perm (rs.map txt) ↔ qs.Perm rs := by
  constructor
  · intro hp
    have := hp.map dec
    rwa [dec_all h, dec_all h'] at this
  · exact fun hp => hp.map txt
theorem srt_perm {qs rs : List (List Int)} : srtL qs = srtL rs ↔ qs.Perm rs := by
  constructor
  · intro e
    exact ((srtL_perm qs).symm.trans (e ▸ List.Perm.refl _)).trans (srtL_perm rs)
  · intro hp
    exact srt_same ((srtL_perm qs).trans hp) (srtL_sol qs)
/-- The same formulas equally often. -/
def msQ (qs rs : List (List Int)) : Bool := (validQ qs && validQ rs) && decide (srtL qs = srtL rs)
theorem txt_take {qs : List (List Int)} {k : Nat} (h : k < qs.length) : (qs.take k).map txt ++ [txt (qs.getD k [])] = (qs.take (k + 1)).map txt := by
  rw [List.take_succ_eq_append_getElem h, List.map_append]
  simp [List.getD, h]

theorem lawS : Keyed Tryz.prog 9 := string_keyed Tryz.underlying9

set_option maxRecDepth 100000 in
set_option maxHeartbeats 4000000 in
theorem formCounts_any (A : Option Addr) (n c : Nat) (qs : List (List Int)) (w : World) (h : RdQ w w.heap.size A n qs) (hn : n ≤ 10) (ht : Arit w) :
    Calls Tryz.prog 53 #[.agg #[.slice A n c]] w fun e w' => ∃ b D, e = .returned (.map (some b)) ∧ w'.ownsMap Tryz.prog 9 (plainElem Tryz.prog 3) b 10 D ∧ CntS D (qs.map txt) ∧ Below w.heap.size w w' ∧ w.heap.size ≤ b := by
  have hl := h.len
  subst hl
  have hmm := @run_makeMap Tryz.prog
  have hb := box_below w (.slice A qs.length c) 26
  have hc1 : (w.alloc (.cells #[Value.slice A qs.length c] 26)).cell? ⟨w.heap.size, 0, none⟩ = some (.slice A qs.length c) := by simp
  have hs1 : (w.alloc (.cells #[Value.slice A qs.length c] 26)).heap.size = w.heap.size + 1 := by simp
  have h1 := (h.below hb).more hb.size
  have HB := Lib.hid hb
  have HS1 := Lib.hid hs1
  have ht1 := ht.below hb ht.lt
  have hm0 := World.ownsMap_made (H := Unit) (w.alloc (.cells #[Value.slice A qs.length c] 26)) Tryz.prog 9 (plainElem Tryz.prog 3)
  rw [hs1] at hm0
  have hb0 := (Below.refl (w.alloc (.cells #[Value.slice A qs.length c] 26)).heap.size (w.alloc (.cells #[Value.slice A qs.length c] 26))).alloc (Nat.le_refl _) (.map #[] 0)
  have HM0 := Lib.hid hm0; have HB0 := Lib.hid hb0
  have hal : 1 < w.heap.size := ht.lt
  clear h hb hs1 ht hm0 hb0
  go_enter Tryz.func53, Tryz.ntmps53
  go_wp2
  generalize w.alloc (.cells #[Value.slice A qs.length c] 26) = w1 at *
  have hs1 := HS1.out
  generalize hb0e : w.heap.size + 1 = b0 at *
  have HBE := Lib.hid hb0e
  clear hb0e
  go_loopw [10] (fun i wr => ∃ (k m : Nat) (D : DataW Unit), k ≤ qs.length ∧ i = .int .i64 k ∧ m ≤ k ∧ wr.ownsMap Tryz.prog 9 (plainElem Tryz.prog 3) b0 m D ∧ CntS D ((qs.take k).map txt) ∧ Below w1.heap.size w1 wr) (fun i _ => qs.length - (intOf i).toNat)
  case atStart => exact ⟨0, 0, _, Nat.zero_le _, rfl, Nat.le_refl _, HM0.out, CntS.nil, HB0.out⟩
  case round =>
    obtain ⟨k, m, D, hk, rfl, hm, hmap, hcd, hbl⟩ := hrel
    by_cases hlt : k < qs.length
    · obtain ⟨b, off, rfl, hbb, hcells⟩ := h1.2 (by omega)
      obtain ⟨A', c', hcell1, hcc, hrd1⟩ := hcells k hlt
      have hcell := (hbl.cell (p := ⟨b, off + k, none⟩) hbb).trans hcell1
      have hrd := (hrd1.below hbl).more hbl.size
      have hFT := formText_impl A' (qs.getD k []).length c' (qs.getD k []) wr hrd (ht1.below hbl (by have := HBE.out; omega)) hcc
      have HNX := Lib.hid (txt_take hlt)
      have hsz := textL_len (qs.getD k [])
      have hkey : keyOf Tryz.prog 9 (.string (mkB (textL (qs.getD k [])))) = some (.string (txt (qs.getD k []))) := WideMaps.keyOf_string_mk (P := Tryz.prog) Tryz.underlying9 (by rw [mkB_size]; unfold maxLen; omega)
      have hlen : ((qs.take k).map txt).length ≤ 10 := by rw [List.length_map, List.length_take]; omega
      have hcl : ((qs.take k).map txt).count (txt (qs.getD k [])) ≤ 10 := Nat.le_trans List.count_le_length hlen
      have hmlt := hmap.lt
      have HCD := Lib.hid hcd; have HMP := Lib.hid hmap; have HBL := Lib.hid hbl; have HFT := Lib.hid hFT; have HKY := Lib.hid hkey
      obtain ⟨N, hN⟩ : ∃ N, ((qs.take k).map txt).count (txt (qs.getD k [])) = N := ⟨_, rfl⟩
      rw [hN] at hcl
      have HN := Lib.hid hN
      clear hcells hcell1 hrd1 hrd h1 ht1 hFT hcd hmap hbl HM0 HB0 hkey hN hlen
      generalize mkB (textL (qs.getD k [])) = S at *
      generalize (qs.getD k []).length = M at *
      go_wp2_with (fail)
      refine HFT.out.mono ?_
      rintro e w' ⟨rfl, rfl⟩
      go_wp2_with (first
        | (at_lookup; refine wpList_lookup_own_int _ rfl _ _ 70 rfl 9 3 .i64 lawS Tryz.underlying70 Tryz.underlying3 (zeroI _) b0 m _ rfl HMP.out _ _ rfl HKY.out ?_; intro cc hat hwc; obtain rfl := (HCD.out.at hat).trans (congrArg Nat.cast HN.out); clear hat hwc)
        | (at_mapUpdate; refine wpList_mapUpdate_own _ rfl _ _ _ 70 rfl 9 3 lawS Tryz.underlying70 _ b0 m _ rfl HMP.out (by unfold maxLen; omega) _ _ _ rfl rfl HKY.out _ [] (plainElem_int Tryz.underlying3 (WalkArith.wf_i64 (by omega))) ?_; intro w4 hown4 hgrow4))
      have HP := Lib.hid (HCD.out.put (txt (qs.getD k [])) (c := (N : Int) + 1) (by rw [HN.out]))
      have HO4 := Lib.hid hown4
      have HG4 := Lib.hid (HBL.out.grown hgrow4 HBL.out.size (by intro q e; injection e with e; omega))
      clear hown4 hgrow4
      go_roundw
      case rel => exact ⟨k + 1, m + 1, _, by omega, by go_num, by omega, HO4.out, by rw [← HNX.out]; exact HP.out, HG4.out⟩
      case measure => simp [intOf]; omega
    · have hkl : k = qs.length := by omega
      subst hkl
      rw [List.take_of_length_le (Nat.le_refl _)] at hcd
      have HCD := Lib.hid hcd; have HMP := Lib.hid (hmap.mono (n' := 10) (by omega)); have HBB := Lib.hid (HB.out.trans (hbl.mono HB.out.size))
      clear hcd hmap hbl h1 ht1
      go_wp2
      go_ret
      exact ⟨_, _, rfl, HMP.out, HCD.out, HBB.out, by have := HBE.out; omega⟩

theorem neq_int {e : TypeId} (he : Tryz.prog.underlying e = some (.int .i64)) (W : World) (x y : Value) (xd yd : DataW Unit) (xp yp : List MemPlace) (hx : plainElem Tryz.prog e x = some (xd, xp)) (hy : plainElem Tryz.prog e y = some (yd, yp)) :
    (binOp .neq e x y).run Tryz.prog W = .ok (.bool (!sameD xd yd)) W ∧ ∀ (a b : Operand), (eqGuard .neq e a b x y).run Tryz.prog W = .ok () W := by
  obtain ⟨a, rfl, h1, _⟩ := plainElem_int_inv he hx
  obtain ⟨b, rfl, h2, _⟩ := plainElem_int_inv he hy
  obtain rfl : xd = .lit (.int .i64 a) := by simpa using (congrArg Prod.fst h1)
  obtain rfl : yd = .lit (.int .i64 b) := by simpa using (congrArg Prod.fst h2)
  refine ⟨?_, fun _ _ => by rw [eqGuard_at_int]; rfl⟩
  simp [go_sem, sameD, binOp]
  rfl
theorem mapsEqual_any (b1 b2 n1 n2 : Nat) (D1 D2 : DataW Unit) (w : World) (h1 : w.ownsMap Tryz.prog 9 (plainElem Tryz.prog 3) b1 n1 D1) (h2 : w.ownsMap Tryz.prog 9 (plainElem Tryz.prog 3) b2 n2 D2) :
    Calls Tryz.prog 52 #[.map (some b1), .map (some b2)] w fun e w' => e = .returned (.bool (Lib.equalFuncD sameD D1 D2)) ∧ Below w.heap.size w w' :=
  (AnyEq.maps_Equal Tryz.eqM lawS (plainElem Tryz.prog 3) (plainElem Tryz.prog 3) sameD b1 b2 n1 n2 D1 D2 w h1 h2 (.int .i64 0) zeroI (.lit (.int .i64 0)) [] (plainElem_int Tryz.underlying3 (by decide)) (neq_int Tryz.underlying3)).mono
    fun _ _ h => ⟨h.1, (Below.refl _ _).grown h.2 (Nat.le_refl _) (fun _ hk => by cases hk)⟩

set_option maxRecDepth 100000 in
set_option maxHeartbeats 1000000 in
theorem sameMset_impl (A B : Option Addr) (n m c d : Nat) (zs ys : List (List Int)) (w : World) (h : RdQ w w.heap.size A n zs) (h' : RdQ w w.heap.size B m ys) (hn : n ≤ 1048576) (hm : m ≤ 1048576) (ht : Arit w) :
    Calls Tryz.prog 17 #[.agg #[.slice A n c], .agg #[.slice B m d]] w fun e w' => e = .returned (.bool (msQ zs ys)) ∧ Below w.heap.size w w' := by
  obtain ⟨w2, hw2⟩ : ∃ w2, w2 = (w.alloc (.cells #[Value.slice A n c] 26)).alloc (.cells #[.slice B m d] 26) := ⟨_, rfl⟩
  obtain ⟨hb, ca, cb, hsz⟩ := two_boxes w (.slice A n c) (.slice B m d) 26
  rw [← hw2] at hb ca cb hsz
  have hs2 : w.heap.size + 1 < w2.heap.size := by omega
  clear hsz
  have h2 := (h.below hb).more hb.size
  have h2' := (h'.below hb).more hb.size
  have HV1 := Lib.hid (validSeq_impl A n c zs w2.drew h2 (Nat.le_trans hn (by decide)) (ht.below hb.drew ht.lt))
  have HB2 := Lib.hid hb
  have K2 : Hid (w2.cell? ⟨w.heap.size, 0, none⟩ = some (.slice A n c) ∧ w2.cell? ⟨w.heap.size + 1, 0, none⟩ = some (.slice B m d)) := Lib.hid ⟨ca, cb⟩
  cases hva : validQ zs with
  | false =>
    have HE : Hid (false = msQ zs ys) := Lib.hid (by simp [msQ, hva])
    rw [hva] at HV1
    clear h h' h2 h2' hb
    go_enter Tryz.func17, Tryz.ntmps17
    go_wp2_with (fail)
    rw [← hw2]
    clear hw2
    go_region_law (first
      | (go_simp
         go_at_call 41
         refine HV1.out.mono ?_
         rintro e w3 ⟨rfl, bel3'⟩
         have bel3 := undrew bel3'
         have K3 : Hid (w3.cell? ⟨w.heap.size, 0, none⟩ = some (.slice A n c) ∧ w3.cell? ⟨w.heap.size + 1, 0, none⟩ = some (.slice B m d)) := Lib.hid ⟨(bel3.cell (p := ⟨w.heap.size, 0, none⟩) (by show w.heap.size < _; omega)).trans K2.out.1, (bel3.cell (p := ⟨w.heap.size + 1, 0, none⟩) (by show w.heap.size + 1 < _; omega)).trans K2.out.2⟩
         have HB3 := Lib.hid (HB2.out.trans (bel3.mono HB2.out.size))
         obtain ⟨ca3, cb3⟩ := K3.out
         clear bel3 bel3'
         dsimp only))
    all_goals go_wp2
    all_goals go_ret
    all_goals exact ⟨ret_bool' HE.out, HB3.out⟩
  | true =>
    rw [hva] at HV1
    cases hvb : validQ ys with
    | false =>
      have HE : Hid (false = msQ zs ys) := Lib.hid (by simp [msQ, hvb])
      have HV2 := Lib.hid (fun (wx : World) (hx : Below w.heap.size w wx) => validSeq_impl B m d ys wx ((h'.below hx).more hx.size) (Nat.le_trans hm (by decide)) (ht.below hx ht.lt))
      rw [hvb] at HV2
      have tokA : True := trivial
      clear h h' h2 h2' hb
      go_enter Tryz.func17, Tryz.ntmps17
      go_wp2_with (fail)
      rw [← hw2]
      clear hw2
      go_region_law (first
      | (have _t := tokA
         go_simp
         go_at_call 41
         refine HV1.out.mono ?_
         rintro e w3 ⟨rfl, bel3'⟩
         have bel3 := undrew bel3'
         have ca3 := (bel3.cell (p := ⟨w.heap.size, 0, none⟩) (by show w.heap.size < _; omega)).trans ca
         have cb3 := (bel3.cell (p := ⟨w.heap.size + 1, 0, none⟩) (by show w.heap.size + 1 < _; omega)).trans cb
         have hs3 : w.heap.size + 1 < w3.heap.size := Nat.lt_of_lt_of_le hs2 bel3.size
         have HB3 := Lib.hid (HB2.out.trans (bel3.mono HB2.out.size))
         have tokB : True := trivial
         clear bel3 bel3' tokA ca cb
         dsimp only)
      | (have _t := tokB
         go_simp
         go_at_call 41
         refine (HV2.out _ HB3.out).mono ?_
         rintro e w4 ⟨rfl, bel4⟩
         have ca4 := (bel4.cell (p := ⟨w.heap.size, 0, none⟩) (by show w.heap.size < _; omega)).trans ca3
         have cb4 := (bel4.cell (p := ⟨w.heap.size + 1, 0, none⟩) (by show w.heap.size + 1 < _; omega)).trans cb3
         have hs4 : w.heap.size + 1 < w4.heap.size := Nat.lt_of_lt_of_le hs3 bel4.size
         have HB4 := Lib.hid (HB3.out.trans (bel4.mono HB3.out.size))
         have tokC : True := trivial
         clear bel4 tokB ca3 cb3
         dsimp only))
      all_goals go_wp2
      all_goals go_ret
      all_goals exact ⟨ret_bool' HE.out, HB4.out⟩
    | true =>
      have HE : Hid (decide (srtL zs = srtL ys) = msQ zs ys) := Lib.hid (by simp [msQ, hva, hvb])
      have HV2 := Lib.hid (fun (wx : World) (hx : Below w.heap.size w wx) => validSeq_impl B m d ys wx ((h'.below hx).more hx.size) (Nat.le_trans hm (by decide)) (ht.below hx ht.lt))
      rw [hvb] at HV2
      have l1 := validQ_len hva
      have l2 := validQ_len hvb
      have HF1 := Lib.hid (fun (wx : World) (hx : Below w.heap.size w wx) => formCounts_any A n c zs wx ((h.below hx).more hx.size) (by have := h.len; omega) (ht.below hx ht.lt))
      have HF2 := Lib.hid (fun (wx : World) (hx : Below w.heap.size w wx) => formCounts_any B m d ys wx ((h'.below hx).more hx.size) (by have := h'.len; omega) (ht.below hx ht.lt))
      have HTX := Lib.hid (txt_perm (qs := zs) (rs := ys) (fun q hq => validQ_mem hva hq) (fun q hq => validQ_mem hvb hq))
      have tokA : True := trivial
      clear h h' h2 h2' hb
      go_enter Tryz.func17, Tryz.ntmps17
      go_wp2_with (fail)
      rw [← hw2]
      clear hw2
      go_region_law (first
      | (have _t := tokA
         go_simp
         go_at_call 41
         refine HV1.out.mono ?_
         rintro e w3 ⟨rfl, bel3'⟩
         have bel3 := undrew bel3'
         have ca3 := (bel3.cell (p := ⟨w.heap.size, 0, none⟩) (by show w.heap.size < _; omega)).trans ca
         have cb3 := (bel3.cell (p := ⟨w.heap.size + 1, 0, none⟩) (by show w.heap.size + 1 < _; omega)).trans cb
         have hs3 : w.heap.size + 1 < w3.heap.size := Nat.lt_of_lt_of_le hs2 bel3.size
         have HB3 := Lib.hid (HB2.out.trans (bel3.mono HB2.out.size))
         have tokB : True := trivial
         clear bel3 bel3' tokA ca cb
         dsimp only)
      | (have _t := tokB
         go_simp
         go_at_call 41
         refine (HV2.out _ HB3.out).mono ?_
         rintro e w4 ⟨rfl, bel4⟩
         have ca4 := (bel4.cell (p := ⟨w.heap.size, 0, none⟩) (by show w.heap.size < _; omega)).trans ca3
         have cb4 := (bel4.cell (p := ⟨w.heap.size + 1, 0, none⟩) (by show w.heap.size + 1 < _; omega)).trans cb3
         have hs4 : w.heap.size + 1 < w4.heap.size := Nat.lt_of_lt_of_le hs3 bel4.size
         have HB4 := Lib.hid (HB3.out.trans (bel4.mono HB3.out.size))
         have tokC : True := trivial
         clear bel4 tokB ca3 cb3
         dsimp only)
      | (have _t := tokC
         go_simp
         go_at_call 53
         refine (HF1.out _ HB4.out).mono ?_
         rintro e w5 ⟨b1, D1, rfl, map1, cd1, bel5, _⟩
         have ca5 := (bel5.cell (p := ⟨w.heap.size, 0, none⟩) (by show w.heap.size < _; omega)).trans ca4
         have cb5 := (bel5.cell (p := ⟨w.heap.size + 1, 0, none⟩) (by show w.heap.size + 1 < _; omega)).trans cb4
         have hs5 : w.heap.size + 1 < w5.heap.size := Nat.lt_of_lt_of_le hs4 bel5.size
         have HB5 := Lib.hid (HB4.out.trans (bel5.mono HB4.out.size))
         have M1 := Lib.hid map1
         have C1 := Lib.hid cd1
         have tokD : True := trivial
         clear bel5 tokC ca4 cb4 map1 cd1
         dsimp only)
      | (have _t := tokD
         go_simp
         go_at_call 53
         refine (HF2.out _ HB5.out).mono ?_
         rintro e w6 ⟨b2, D2, rfl, map2, cd2, bel6, _⟩
         have ca6 := (bel6.cell (p := ⟨w.heap.size, 0, none⟩) (by show w.heap.size < _; omega)).trans ca5
         have cb6 := (bel6.cell (p := ⟨w.heap.size + 1, 0, none⟩) (by show w.heap.size + 1 < _; omega)).trans cb5
         have HB6 := Lib.hid (HB5.out.trans (bel6.mono HB5.out.size))
         have M16 := Lib.hid (map_below M1.out bel6 M1.out.lt)
         have M2 := Lib.hid map2
         have C2 := Lib.hid cd2
         have tokE : True := trivial
         clear bel6 tokD ca5 cb5 map2 cd2
         dsimp only)
      | (have _t := tokE
         go_simp
         go_at_call 52
         refine (mapsEqual_any b1 b2 10 10 D1 D2 _ M16.out M2.out).mono ?_
         rintro e w7 ⟨rfl, bel7⟩
         have HB7 := Lib.hid (HB6.out.trans (bel7.mono HB6.out.size))
         have HQ : Hid (Lib.equalFuncD sameD D1 D2 = decide (srtL zs = srtL ys)) := Lib.hid (by
           rw [counts_same C1.out C2.out (M16.out.canon lawS) (M2.out.canon lawS)]
           exact decide_eq_decide.2 (HTX.out.trans srt_perm.symm))
         generalize Lib.equalFuncD sameD D1 D2 = R at *
         clear bel7 tokE
         dsimp only))
      all_goals go_wp2
      all_goals go_ret
      all_goals exact ⟨ret_bool' (HQ.out.trans HE.out), HB7.out⟩
end Go.Proofs.YtjhagklpnpabeaaGreatDoor
