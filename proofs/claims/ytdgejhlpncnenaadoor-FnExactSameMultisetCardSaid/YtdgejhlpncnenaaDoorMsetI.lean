/- SameMultiset of the program and of the model. -/
import Derived.Test.YtdgejhlpncnenaaDoorMsetW
namespace Go.Proofs.YtdgejhlpncnenaaDoor
open Go.ChangeShapes Go.WideShapes Go.ChangeAt Go.RowKit Go.Maps

theorem neq_int {e : TypeId} (he : Tryd.prog.underlying e = some (.int .i64)) (W : World) (x y : Value) (xd yd : DataW Unit) (xp yp : List MemPlace) (hx : plainElem Tryd.prog e x = some (xd, xp)) (hy : plainElem Tryd.prog e y = some (yd, yp)) :
    (binOp .neq e x y).run Tryd.prog W = .ok (.bool (!sameD xd yd)) W ∧ ∀ (a b : Operand), (eqGuard .neq e a b x y).run Tryd.prog W = .ok () W := by
  obtain ⟨a, rfl, h1, _⟩ := plainElem_int_inv he hx
  obtain ⟨b, rfl, h2, _⟩ := plainElem_int_inv he hy
  obtain rfl : xd = .lit (.int .i64 a) := by simpa using (congrArg Prod.fst h1)
  obtain rfl : yd = .lit (.int .i64 b) := by simpa using (congrArg Prod.fst h2)
  refine ⟨?_, fun _ _ => by rw [eqGuard_at_int]; rfl⟩
  simp [go_sem, sameD, binOp]
  rfl
theorem mapsEqual_any (b1 b2 n1 n2 : Nat) (D1 D2 : DataW Unit) (w : World) (h1 : w.ownsMap Tryd.prog 9 (plainElem Tryd.prog 3) b1 n1 D1) (h2 : w.ownsMap Tryd.prog 9 (plainElem Tryd.prog 3) b2 n2 D2) :
    Calls Tryd.prog 56 #[.map (some b1), .map (some b2)] w fun e w' => e = .returned (.bool (Lib.equalFuncD sameD D1 D2)) ∧ Below w.heap.size w w' :=
  (AnyEq.maps_Equal Tryd.eqM lawS (plainElem Tryd.prog 3) (plainElem Tryd.prog 3) sameD b1 b2 n1 n2 D1 D2 w h1 h2 (.int .i64 0) zeroI (.lit (.int .i64 0)) [] (plainElem_int Tryd.underlying3 (by decide)) (neq_int Tryd.underlying3)).mono
    fun _ _ h => ⟨h.1, (Below.refl _ _).grown h.2 (Nat.le_refl _) (fun _ hk => by cases hk)⟩

set_option maxRecDepth 100000 in
set_option maxHeartbeats 1000000 in
theorem sameMset_impl (A B : Option Addr) (n m c d : Nat) (zs ys : List (List Int)) (w : World) (h : RdQ w w.heap.size A n zs) (h' : RdQ w w.heap.size B m ys) (hn : n ≤ 1048576) (hm : m ≤ 1048576) (ht : Arit w) :
    Calls Tryd.prog 20 #[.agg #[.slice A n c], .agg #[.slice B m d]] w fun e w' => e = .returned (.bool (msQ zs ys)) ∧ Below w.heap.size w w' := by
  obtain ⟨w2, hw2⟩ : ∃ w2, w2 = (w.alloc (.cells #[Value.slice A n c] 34)).alloc (.cells #[.slice B m d] 34) := ⟨_, rfl⟩
  obtain ⟨hb, ca, cb, hsz⟩ := two_boxes w (.slice A n c) (.slice B m d) 34
  rw [← hw2] at hb ca cb hsz
  have hs2 : w.heap.size + 1 < w2.heap.size := by omega
  clear hsz
  have h2 := (h.below hb).more hb.size
  have h2' := (h'.below hb).more hb.size
  have HV1 := Lib.hid (validSeq_impl A n c zs w2.drew h2 (Nat.le_trans hn (by decide)) (ht.below hb.drew ht.lt))
  have HB2 := Lib.hid hb
  have K2 : Hid (w2.cell? ⟨w.heap.size, 0, none⟩ = some (.slice A n c) ∧ w2.cell? ⟨w.heap.size + 1, 0, none⟩ = some (.slice B m d)) := Lib.hid ⟨ca, cb⟩
  cases hva : validQ zs with
  | false =>
    have HE : Hid (false = msQ zs ys) := Lib.hid (by simp [msQ, hva])
    rw [hva] at HV1
    clear h h' h2 h2' hb
    go_enter Tryd.func20, Tryd.ntmps20
    go_wp2_with (fail)
    rw [← hw2]
    clear hw2
    go_region_law (first
      | (go_simp
         go_at_call 48
         refine HV1.out.mono ?_
         rintro e w3 ⟨rfl, bel3'⟩
         have bel3 := undrew bel3'
         have K3 : Hid (w3.cell? ⟨w.heap.size, 0, none⟩ = some (.slice A n c) ∧ w3.cell? ⟨w.heap.size + 1, 0, none⟩ = some (.slice B m d)) := Lib.hid ⟨(bel3.cell (p := ⟨w.heap.size, 0, none⟩) (by show w.heap.size < _; omega)).trans K2.out.1, (bel3.cell (p := ⟨w.heap.size + 1, 0, none⟩) (by show w.heap.size + 1 < _; omega)).trans K2.out.2⟩
         have HB3 := Lib.hid (HB2.out.trans (bel3.mono HB2.out.size))
         obtain ⟨ca3, cb3⟩ := K3.out
         clear bel3 bel3'
         dsimp only))
    all_goals go_wp2
    all_goals go_ret
    all_goals exact ⟨ret_bool' HE.out, HB3.out⟩
  | true =>
    rw [hva] at HV1
    cases hvb : validQ ys with
    | false =>
      have HE : Hid (false = msQ zs ys) := Lib.hid (by simp [msQ, hvb])
      have HV2 := Lib.hid (fun (wx : World) (hx : Below w.heap.size w wx) => validSeq_impl B m d ys wx ((h'.below hx).more hx.size) (Nat.le_trans hm (by decide)) (ht.below hx ht.lt))
      rw [hvb] at HV2
      have tokA : True := trivial
      clear h h' h2 h2' hb
      go_enter Tryd.func20, Tryd.ntmps20
      go_wp2_with (fail)
      rw [← hw2]
      clear hw2
      go_region_law (first
      | (have _t := tokA
         go_simp
         go_at_call 48
         refine HV1.out.mono ?_
         rintro e w3 ⟨rfl, bel3'⟩
         have bel3 := undrew bel3'
         have ca3 := (bel3.cell (p := ⟨w.heap.size, 0, none⟩) (by show w.heap.size < _; omega)).trans ca
         have cb3 := (bel3.cell (p := ⟨w.heap.size + 1, 0, none⟩) (by show w.heap.size + 1 < _; omega)).trans cb
         have hs3 : w.heap.size + 1 < w3.heap.size := Nat.lt_of_lt_of_le hs2 bel3.size
         have HB3 := Lib.hid (HB2.out.trans (bel3.mono HB2.out.size))
         have tokB : True := trivial
         clear bel3 bel3' tokA ca cb
         dsimp only)
      | (have _t := tokB
         go_simp
         go_at_call 48
         refine (HV2.out _ HB3.out).mono ?_
         rintro e w4 ⟨rfl, bel4⟩
         have ca4 := (bel4.cell (p := ⟨w.heap.size, 0, none⟩) (by show w.heap.size < _; omega)).trans ca3
         have cb4 := (bel4.cell (p := ⟨w.heap.size + 1, 0, none⟩) (by show w.heap.size + 1 < _; omega)).trans cb3
         have hs4 : w.heap.size + 1 < w4.heap.size := Nat.lt_of_lt_of_le hs3 bel4.size
         have HB4 := Lib.hid (HB3.out.trans (bel4.mono HB3.out.size))
         have tokC : True := trivial
         clear bel4 tokB ca3 cb3
         dsimp only))
      all_goals go_wp2
      all_goals go_ret
      all_goals exact ⟨ret_bool' HE.out, HB4.out⟩
    | true =>
      have HE : Hid (decide (srtL zs = srtL ys) = msQ zs ys) := Lib.hid (by simp [msQ, hva, hvb])
      have HV2 := Lib.hid (fun (wx : World) (hx : Below w.heap.size w wx) => validSeq_impl B m d ys wx ((h'.below hx).more hx.size) (Nat.le_trans hm (by decide)) (ht.below hx ht.lt))
      rw [hvb] at HV2
      have l1 := validQ_len hva
      have l2 := validQ_len hvb
      have HF1 := Lib.hid (fun (wx : World) (hx : Below w.heap.size w wx) => formCounts_any A n c zs wx ((h.below hx).more hx.size) (by have := h.len; omega) (ht.below hx ht.lt))
      have HF2 := Lib.hid (fun (wx : World) (hx : Below w.heap.size w wx) => formCounts_any B m d ys wx ((h'.below hx).more hx.size) (by have := h'.len; omega) (ht.below hx ht.lt))
      have HTX := Lib.hid (txt_perm (qs := zs) (rs := ys) (fun q hq => validQ_mem hva hq) (fun q hq => validQ_mem hvb hq))
      have tokA : True := trivial
      clear h h' h2 h2' hb
      go_enter Tryd.func20, Tryd.ntmps20
      go_wp2_with (fail)
      rw [← hw2]
      clear hw2
      go_region_law (first
      | (have _t := tokA
         go_simp
         go_at_call 48
         refine HV1.out.mono ?_
         rintro e w3 ⟨rfl, bel3'⟩
         have bel3 := undrew bel3'
         have ca3 := (bel3.cell (p := ⟨w.heap.size, 0, none⟩) (by show w.heap.size < _; omega)).trans ca
         have cb3 := (bel3.cell (p := ⟨w.heap.size + 1, 0, none⟩) (by show w.heap.size + 1 < _; omega)).trans cb
         have hs3 : w.heap.size + 1 < w3.heap.size := Nat.lt_of_lt_of_le hs2 bel3.size
         have HB3 := Lib.hid (HB2.out.trans (bel3.mono HB2.out.size))
         have tokB : True := trivial
         clear bel3 bel3' tokA ca cb
         dsimp only)
      | (have _t := tokB
         go_simp
         go_at_call 48
         refine (HV2.out _ HB3.out).mono ?_
         rintro e w4 ⟨rfl, bel4⟩
         have ca4 := (bel4.cell (p := ⟨w.heap.size, 0, none⟩) (by show w.heap.size < _; omega)).trans ca3
         have cb4 := (bel4.cell (p := ⟨w.heap.size + 1, 0, none⟩) (by show w.heap.size + 1 < _; omega)).trans cb3
         have hs4 : w.heap.size + 1 < w4.heap.size := Nat.lt_of_lt_of_le hs3 bel4.size
         have HB4 := Lib.hid (HB3.out.trans (bel4.mono HB3.out.size))
         have tokC : True := trivial
         clear bel4 tokB ca3 cb3
         dsimp only)
      | (have _t := tokC
         go_simp
         go_at_call 57
         refine (HF1.out _ HB4.out).mono ?_
         rintro e w5 ⟨b1, D1, rfl, map1, cd1, bel5, _⟩
         have ca5 := (bel5.cell (p := ⟨w.heap.size, 0, none⟩) (by show w.heap.size < _; omega)).trans ca4
         have cb5 := (bel5.cell (p := ⟨w.heap.size + 1, 0, none⟩) (by show w.heap.size + 1 < _; omega)).trans cb4
         have hs5 : w.heap.size + 1 < w5.heap.size := Nat.lt_of_lt_of_le hs4 bel5.size
         have HB5 := Lib.hid (HB4.out.trans (bel5.mono HB4.out.size))
         have M1 := Lib.hid map1
         have C1 := Lib.hid cd1
         have tokD : True := trivial
         clear bel5 tokC ca4 cb4 map1 cd1
         dsimp only)
      | (have _t := tokD
         go_simp
         go_at_call 57
         refine (HF2.out _ HB5.out).mono ?_
         rintro e w6 ⟨b2, D2, rfl, map2, cd2, bel6, _⟩
         have ca6 := (bel6.cell (p := ⟨w.heap.size, 0, none⟩) (by show w.heap.size < _; omega)).trans ca5
         have cb6 := (bel6.cell (p := ⟨w.heap.size + 1, 0, none⟩) (by show w.heap.size + 1 < _; omega)).trans cb5
         have HB6 := Lib.hid (HB5.out.trans (bel6.mono HB5.out.size))
         have M16 := Lib.hid (map_below M1.out bel6 M1.out.lt)
         have M2 := Lib.hid map2
         have C2 := Lib.hid cd2
         have tokE : True := trivial
         clear bel6 tokD ca5 cb5 map2 cd2
         dsimp only)
      | (have _t := tokE
         go_simp
         go_at_call 56
         refine (mapsEqual_any b1 b2 10 10 D1 D2 _ M16.out M2.out).mono ?_
         rintro e w7 ⟨rfl, bel7⟩
         have HB7 := Lib.hid (HB6.out.trans (bel7.mono HB6.out.size))
         have HQ : Hid (Lib.equalFuncD sameD D1 D2 = decide (srtL zs = srtL ys)) := Lib.hid (by
           rw [counts_same C1.out C2.out (M16.out.canon lawS) (M2.out.canon lawS)]
           exact decide_eq_decide.2 (HTX.out.trans srt_perm.symm))
         generalize Lib.equalFuncD sameD D1 D2 = R at *
         clear bel7 tokE
         dsimp only))
      all_goals go_wp2
      all_goals go_ret
      all_goals exact ⟨ret_bool' (HQ.out.trans HE.out), HB7.out⟩
set_option maxRecDepth 100000 in
set_option maxHeartbeats 1000000 in
theorem sSameMset_any (A B : Option Addr) (n m c d : Nat) (zs ys : List (List Int)) (w : World) (h : RdQ w w.heap.size A n zs) (h' : RdQ w w.heap.size B m ys) (hn : n ≤ 1048576) (hm : m ≤ 1048576) (hnc : n ≤ c) (hmd : m ≤ d) :
    Calls Tryd.prog 30 #[.agg #[.slice A n c], .agg #[.slice B m d]] w fun e w' => e = .returned (.bool (msQ zs ys)) ∧ Below w.heap.size w w' := by
  obtain ⟨w2, hw2⟩ : ∃ w2, w2 = (w.alloc (.cells #[Value.slice A n c] 34)).alloc (.cells #[.slice B m d] 34) := ⟨_, rfl⟩
  obtain ⟨hb, ca, cb, hsz⟩ := two_boxes w (.slice A n c) (.slice B m d) 34
  rw [← hw2] at hb ca cb hsz
  have hs2 : w.heap.size + 1 < w2.heap.size := by omega
  clear hsz
  have h2 := (h.below hb).more hb.size
  have h2' := (h'.below hb).more hb.size
  have HV1 := Lib.hid (sValidSeq_any A n c zs w2.drew h2 hn hnc)
  have HB2 := Lib.hid hb
  have K2 : Hid (w2.cell? ⟨w.heap.size, 0, none⟩ = some (.slice A n c) ∧ w2.cell? ⟨w.heap.size + 1, 0, none⟩ = some (.slice B m d)) := Lib.hid ⟨ca, cb⟩
  cases hva : validQ zs with
  | false =>
    have HE : Hid (false = msQ zs ys) := Lib.hid (by simp [msQ, hva])
    rw [hva] at HV1
    clear h h' h2 h2' hb
    go_enter Tryd.func30, Tryd.ntmps30
    go_wp2_with (fail)
    rw [← hw2]
    clear hw2
    first | (go_region_with (go_at_call 51; refine HV1.out.mono ?_; rintro e w3 ⟨rfl, bel3'⟩; have bel3 := undrew bel3'; have ca3 := (bel3.cell (p := ⟨w.heap.size, 0, none⟩) (by show w.heap.size < _; omega)).trans ca; have cb3 := (bel3.cell (p := ⟨w.heap.size + 1, 0, none⟩) (by show w.heap.size + 1 < _; omega)).trans cb; have HB3 := Lib.hid (HB2.out.trans (bel3.mono HB2.out.size)); clear bel3 bel3' ca cb)) | fail
    all_goals go_wp2
    all_goals go_ret
    all_goals exact ⟨ret_bool' HE.out, HB3.out⟩
  | true =>
    rw [hva] at HV1
    cases hvb : validQ ys with
    | false =>
      have HE : Hid (false = msQ zs ys) := Lib.hid (by simp [msQ, hvb])
      have HV2 := Lib.hid (fun (wx : World) (hx : Below w.heap.size w wx) => sValidSeq_any B m d ys wx ((h'.below hx).more hx.size) hm hmd)
      rw [hvb] at HV2
      have tokA : True := trivial
      clear h h' h2 h2' hb
      go_enter Tryd.func30, Tryd.ntmps30
      go_wp2_with (fail)
      rw [← hw2]
      clear hw2
      first | (go_region_with (first
        | (have _t := tokA; go_at_call 51; refine HV1.out.mono ?_; rintro e w3 ⟨rfl, bel3'⟩; have bel3 := undrew bel3'; have ca3 := (bel3.cell (p := ⟨w.heap.size, 0, none⟩) (by show w.heap.size < _; omega)).trans ca; have cb3 := (bel3.cell (p := ⟨w.heap.size + 1, 0, none⟩) (by show w.heap.size + 1 < _; omega)).trans cb; have HB3 := Lib.hid (HB2.out.trans (bel3.mono HB2.out.size)); have tokB : True := trivial; clear bel3 bel3' ca cb tokA)
        | (have _t := tokB; go_at_call 51; refine (HV2.out _ HB3.out).mono ?_; rintro e w4 ⟨rfl, bel4⟩; have HB4 := Lib.hid (HB3.out.trans (bel4.mono HB3.out.size)); clear bel4 tokB))) | fail
      all_goals go_wp2
      all_goals go_ret
      all_goals exact ⟨ret_bool' HE.out, HB4.out⟩
    | true =>
      have HE : Hid (decide (srtL zs = srtL ys) = msQ zs ys) := Lib.hid (by simp [msQ, hva, hvb])
      have HV2 := Lib.hid (fun (wx : World) (hx : Below w.heap.size w wx) => sValidSeq_any B m d ys wx ((h'.below hx).more hx.size) hm hmd)
      rw [hvb] at HV2
      have l1 := validQ_len hva
      have l2 := validQ_len hvb
      have hqz : ∀ q ∈ zs, q.length ≤ 1000 := fun q hq => by have := valid_len (validQ_mem hva hq); omega
      have hqy : ∀ q ∈ ys, q.length ≤ 1000 := fun q hq => by have := valid_len (validQ_mem hvb hq); omega
      have HF1 := Lib.hid (fun (wx : World) (hx : Below w.heap.size w wx) => sSortForms_any A n c zs wx ((h.below hx).more hx.size) (by have := h.len; omega) hqz (fun q hq => (valid_len (validQ_mem hva hq)).1))
      have HF2 := Lib.hid (fun (wx : World) (hx : Below w.heap.size w wx) => sSortForms_any B m d ys wx ((h'.below hx).more hx.size) (by have := h'.len; omega) hqy (fun q hq => (valid_len (validQ_mem hvb hq)).1))
      have hl1 := srtL_len zs
      have hl2 := srtL_len ys
      have HQ1 : Hid (∀ q ∈ srtL zs, q.length ≤ 1048576) := Lib.hid (fun q hq => Nat.le_trans (hqz q ((srtL_perm zs).mem_iff.1 hq)) (by decide))
      have HQ2 : Hid (∀ q ∈ srtL ys, q.length ≤ 1048576) := Lib.hid (fun q hq => Nat.le_trans (hqy q ((srtL_perm ys).mem_iff.1 hq)) (by decide))
      have hs1 : (srtL zs).length ≤ 1048576 := by omega
      have hs2' : (srtL ys).length ≤ 1048576 := by omega
      clear hl1 hl2 hqz hqy l1 l2
      generalize srtL zs = SZ at *
      generalize srtL ys = SY at *
      have tokA : True := trivial
      clear h h' h2 h2' hb
      go_enter Tryd.func30, Tryd.ntmps30
      go_wp2_with (fail)
      rw [← hw2]
      clear hw2
      go_region_law (first
      | (have _t := tokA
         go_simp
         go_at_call 51
         refine HV1.out.mono ?_
         rintro e w3 ⟨rfl, bel3'⟩
         have bel3 := undrew bel3'
         have ca3 := (bel3.cell (p := ⟨w.heap.size, 0, none⟩) (by show w.heap.size < _; omega)).trans ca
         have cb3 := (bel3.cell (p := ⟨w.heap.size + 1, 0, none⟩) (by show w.heap.size + 1 < _; omega)).trans cb
         have hs3 : w.heap.size + 1 < w3.heap.size := Nat.lt_of_lt_of_le hs2 bel3.size
         have HB3 := Lib.hid (HB2.out.trans (bel3.mono HB2.out.size))
         have tokB : True := trivial
         clear bel3 bel3' tokA ca cb
         dsimp only)
      | (have _t := tokB
         go_simp
         go_at_call 51
         refine (HV2.out _ HB3.out).mono ?_
         rintro e w4 ⟨rfl, bel4⟩
         have ca4 := (bel4.cell (p := ⟨w.heap.size, 0, none⟩) (by show w.heap.size < _; omega)).trans ca3
         have cb4 := (bel4.cell (p := ⟨w.heap.size + 1, 0, none⟩) (by show w.heap.size + 1 < _; omega)).trans cb3
         have hs4 : w.heap.size + 1 < w4.heap.size := Nat.lt_of_lt_of_le hs3 bel4.size
         have HB4 := Lib.hid (HB3.out.trans (bel4.mono HB3.out.size))
         have tokC : True := trivial
         clear bel4 tokB ca3 cb3
         dsimp only)
      | (have _t := tokC
         go_simp
         go_at_call 62
         refine (HF1.out _ HB4.out).mono ?_
         rintro e w5 ⟨hs5r, A5, c5, rfl, own5, bel5⟩
         have ca5 := (bel5.cell (p := ⟨w.heap.size, 0, none⟩) (by show w.heap.size < _; omega)).trans ca4
         have cb5 := (bel5.cell (p := ⟨w.heap.size + 1, 0, none⟩) (by show w.heap.size + 1 < _; omega)).trans cb4
         have hs5 : w.heap.size + 1 < w5.heap.size := Nat.lt_of_lt_of_le hs4 bel5.size
         have HB5 := Lib.hid (HB4.out.trans (bel5.mono HB4.out.size))
         have O5 := Lib.hid own5
         have tokD : True := trivial
         clear bel5 tokC ca4 cb4 own5
         dsimp only)
      | (have _t := tokD
         go_simp
         go_at_call 62
         refine (HF2.out _ HB5.out).mono ?_
         rintro e w6 ⟨hs6r, A6, c6, rfl, own6, bel6⟩
         have ca6 := (bel6.cell (p := ⟨w.heap.size, 0, none⟩) (by show w.heap.size < _; omega)).trans ca5
         have cb6 := (bel6.cell (p := ⟨w.heap.size + 1, 0, none⟩) (by show w.heap.size + 1 < _; omega)).trans cb5
         have HB6 := Lib.hid (HB5.out.trans (bel6.mono HB5.out.size))
         have O56 := Lib.hid (O5.out.below bel6)
         have O6 := Lib.hid own6
         have tokE : True := trivial
         clear bel6 tokD ca5 cb5 own6
         dsimp only)
      | (have _t := tokE
         go_simp
         go_at_call 68
         refine (sameForms_any A5 A6 SZ.length SY.length c5 c6 SZ SY _ _ _ (O56.out.rd rfl) (O6.out.rd rfl) hs1 hs2' HQ1.out HQ2.out).mono ?_
         rintro e w7 ⟨rfl, hd7⟩
         have HB7 := Lib.hid (HB6.out.trans (drewN_below hd7 _))
         clear hd7
         generalize decide (SZ = SY) = R at *
         clear tokE
         dsimp only))
      all_goals go_wp2
      all_goals go_ret
      all_goals exact ⟨ret_bool' HE.out, HB7.out⟩
end Go.Proofs.YtdgejhlpncnenaaDoor
