/- OperandOf: of the program and of the model. -/
import Derived.Test.YtgblfcalbikgfaaDoorJoinS
namespace Go.Proofs.YtgblfcalbikgfaaDoor
open Go.RowKit

/-- m + 1 formulas, one behind the other: the first m end where the last begins. -/
theorem scan_split : ∀ (xs : List Int) (m a : Int), 1 ≤ m → scan xs (m + 1) a ≠ -1 → ∃ q : Nat, q ≤ xs.length ∧ 1 ≤ q ∧ scan xs m a = a + q ∧ scan xs (m + 1) a = scan (xs.drop q) 1 (a + q)
  | [], _, _, _, h => absurd rfl h
  | x :: xs, m, a, hm, h => by
    by_cases hb : arZ x = -1
    · exact absurd (scan_bad _ _ _ hb) h
    · have hx : 0 ≤ arZ x := by have := arZ_lo x; omega
      rw [scan_on _ _ _ hx (by omega)] at h
      by_cases hr : m + arZ x = 1
      · refine ⟨1, by simp, Nat.le_refl _, by rw [scan_end _ _ _ hx hr]; rfl, ?_⟩
        rw [scan_on _ _ _ hx (by omega), show m + 1 + arZ x - 1 = 1 by omega]
        rfl
      · rw [show m + 1 + arZ x - 1 = (m + arZ x - 1) + 1 by omega] at h
        obtain ⟨q, h1, h2, h3, h4⟩ := scan_split xs (m + arZ x - 1) (a + 1) (by omega) h
        refine ⟨q + 1, by simp; omega, by omega, ?_, ?_⟩
        · rw [scan_on _ _ _ hx hr, h3]; omega
        · rw [scan_on _ _ _ hx (by omega), show m + 1 + arZ x - 1 = (m + arZ x - 1) + 1 by omega, h4, show a + 1 + (q : Int) = a + ((q + 1 : Nat) : Int) by omega]
          rfl

/-- The operands of a valid formula. -/
theorem operands {f : List Int} (h : validB f = true) (ha : 1 ≤ arZ (f.getD 0 0)) : ∃ q : Nat, fe f 1 = q ∧ 1 < q ∧ q ≤ f.length ∧ (arZ (f.getD 0 0) = 1 → q = f.length) ∧ (arZ (f.getD 0 0) = 2 → q < f.length ∧ fe f q = f.length) := by
  obtain ⟨h1, h2, h3⟩ := valid_len h
  have e0 := fe_any f 0
  rw [show ((0 : Nat) : Int) = 0 from rfl, h3, show f.drop 0 = f.getD 0 0 :: f.drop 1 from drop_cons (by omega)] at e0
  rw [scan_on _ _ _ (by omega) (by omega)] at e0
  have e1 : fe f 1 = scan (f.drop 1) 1 1 := fe_any f 1
  by_cases h' : arZ (f.getD 0 0) = 1
  · rw [h'] at e0
    have e2 : fe f 1 = f.length := by rw [e1]; exact e0.symm
    refine ⟨f.length, e2, ?_, Nat.le_refl _, fun _ => rfl, fun h => by omega⟩
    have := fe_bd f 1
    omega
  · have h'' : arZ (f.getD 0 0) = 2 := by have := arZ_cases (f.getD 0 0); omega
    rw [h''] at e0
    have hne : scan (f.drop 1) (1 + 1) 1 ≠ -1 := by
      have e : scan (f.drop 1) (1 + 1) 1 = f.length := e0.symm
      rw [e]; omega
    obtain ⟨q, q1, q2, q3, q4⟩ := scan_split (f.drop 1) 1 1 (by omega) hne
    rw [List.length_drop] at q1
    have e3 : fe f ((1 + q : Nat) : Int) = f.length := by
      rw [fe_any f (1 + q), ← List.drop_drop]
      have e : scan (f.drop 1) (1 + 1) 1 = f.length := e0.symm
      rw [← e, q4]
      rfl
    refine ⟨1 + q, by rw [e1, q3]; rfl, by omega, by omega, fun h => by omega, fun _ => ⟨?_, e3⟩⟩
    have := fe_bd f ((1 + q : Nat) : Int)
    omega

/-- Has the formula an operand with this index? -/
def opndB (f : List Int) (k : Int) : Bool := decide (validB f = true ∧ 0 ≤ k ∧ k < arZ (f.getD 0 0))
/-- Where the operand with an index begins, and where it ends. -/
def opS (f : List Int) (k : Int) : Nat := if k = 0 then 1 else (fe f 1).toNat
def opE (f : List Int) (k : Int) : Nat := (fe f (opS f k)).toNat
/-- OperandOf. -/
def opndL (f : List Int) (k : Int) : List Int := if opndB f k then (f.drop (opS f k)).take (opE f k - opS f k) else []
theorem opndB_no {f : List Int} {k : Int} (h : ¬ (validB f = true ∧ 0 ≤ k ∧ k < arZ (f.getD 0 0))) : opndB f k = false := decide_eq_false h
theorem opndB_yes {f : List Int} {k : Int} (h : validB f = true ∧ 0 ≤ k ∧ k < arZ (f.getD 0 0)) : opndB f k = true := decide_eq_true h
theorem opndL_yes {f : List Int} {k : Int} (h : opndB f k = true) : opndL f k = (f.drop (opS f k)).take (opE f k - opS f k) := by simp [opndL, h]
theorem opndL_no {f : List Int} {k : Int} (h : opndB f k = false) : opndL f k = [] := by simp [opndL, h]
theorem opndL_len (f : List Int) (k : Int) : (opndL f k).length ≤ 24 := by
  cases h : opndB f k with
  | false => rw [opndL_no h]; simp
  | true =>
    rw [opndL_yes h]
    have := (valid_len (of_decide_eq_true h).1).2.1
    simp; omega
/-- What both need of an operand: it lies within the list. -/
theorem opnd_in {f : List Int} {k : Int} (h : opndB f k = true) : fe f (opS f k) = opE f k ∧ opS f k < opE f k ∧ opE f k ≤ f.length ∧ 1 ≤ opS f k ∧ (k = 0 ∧ opS f k = 1 ∨ k = 1 ∧ fe f 1 = opS f k) := by
  obtain ⟨hv, h0, hk⟩ := of_decide_eq_true h
  obtain ⟨q, q1, q2, q3, q4, q5⟩ := operands hv (by omega)
  have ha := arZ_hi (f.getD 0 0)
  by_cases hk0 : k = 0
  · subst hk0
    have e1 : opS f 0 = 1 := rfl
    have e2 : opE f 0 = q := by unfold opE; rw [e1]; show (fe f 1).toNat = q; rw [q1]; rfl
    rw [e1, e2]
    exact ⟨q1, q2, q3, Nat.le_refl _, .inl ⟨rfl, rfl⟩⟩
  · have hk1 : k = 1 := by omega
    subst hk1
    have e1 : opS f 1 = q := by unfold opS; rw [if_neg (by decide), q1]; rfl
    obtain ⟨q6, q7⟩ := q5 (by omega)
    have e2 : opE f 1 = f.length := by unfold opE; rw [e1, q7]; rfl
    rw [e1, e2]
    exact ⟨q7, q6, Nat.le_refl _, by omega, .inr ⟨rfl, q1⟩⟩

/-- A cut of a list that lies in memory is a part. -/
theorem part_cut {w : World} {B b off lo hi c : Nat} {f : List Int} (hB : b < B) (hc : ∀ j, j < f.length → w.cell? ⟨b, off + j, none⟩ = some (.int .i64 (f.getD j 0))) (h1 : lo < hi) (h2 : hi ≤ f.length) : Part w B (.slice (some ⟨b, off + lo, none⟩) (hi - lo) c) ((f.drop lo).take (hi - lo)) := by
  have hl : ((f.drop lo).take (hi - lo)).length = hi - lo := by simp; omega
  refine ⟨b, off + lo, c, by rw [hl], hB, by omega, fun j hj => ?_⟩
  rw [hl] at hj
  rw [Nat.add_assoc, hc (lo + j) (by omega)]
  simp [List.getD, hj]

/-- What an append of a part to an empty row of the call's own leaves. -/
theorem app_news {w wa w2 : World} {e : TypeId} {v0 v2 : Value} {n2 : Nat} {ys : List Value} {zs : List Int} (HB1 : Hid (Below w.heap.size w wa)) (HO1 : Hid (wa.ownsRow w.heap.size e 1 v0 0 [])) (hown2 : w2.ownsRow w.heap.size e 1 v2 n2 ys) (hgrow2 : wa.grownBy w2 v0.ownBlock)
    (HJ : Hid (ys = zs.map (Value.int .i64))) (hl : n2 = zs.length) : ∃ A c, v2 = .slice A zs.length c ∧ Hid (w2.ownsRow w.heap.size e 1 (.slice A zs.length c) zs.length (zs.map (Value.int .i64))) ∧ Hid (Below w.heap.size w w2) := by
  subst hl
  have hb2' : Below w.heap.size w w2 := HB1.out.grown hgrow2 HB1.out.size (fun q hq => (HO1.out.lt q hq).1)
  obtain ⟨A2, c2, rfl⟩ := own_shape hown2
  rw [HJ.out] at hown2
  exact ⟨A2, c2, rfl, hown2, hb2'⟩

set_option maxHeartbeats 1000000 in
theorem clone_any (v : Value) (zs : List Int) (w : World) (hp : Part w w.heap.size v zs) (hz : zs.length ≤ 1000) :
    Calls Tryd.prog 49 #[v] w (Gives w zs) := by
  obtain ⟨i0, hi0, hz0, hz1, hz2⟩ := info_parts info_i64
  obtain ⟨b1, off1, c, rfl, hb1, hpos, hc1⟩ := hp
  have hnil : ∀ wx : World, (binOp .eql 24 (.slice (some ⟨b1, off1, none⟩) zs.length c) (.slice none 0 0)).run Tryd.prog wx = .ok (.bool false) wx := fun wx => Lib.run_eql_slice_nil wx 24 2 _ _ _ _ _ Tryd.underlying24
  have hb0 : Below w.heap.size w (w.alloc (.cells #[] 2)) := (Below.refl _ _).alloc (Nat.le_refl _) _
  have H0 := Lib.hid (World.ownsRow_made (e := 2) (base := w.heap.size) (size := 1) w #[] 0 (Nat.le_refl _) (by simp [maxLen]) rfl)
  have HN1 : Hid (∀ j u, (zs.map (Value.int .i64))[j]? = some u → (w.alloc (.cells #[] 2)).cell? ((⟨b1, off1, none⟩ : Addr).add j) = some u) := Lib.hid (part_news (fun j hj => (hb0.cell (p := ⟨b1, off1 + j, none⟩) hb1).trans (hc1 j hj)))
  have HB0 := Lib.hid hb0
  have HL1 : Hid ((zs.map (Value.int .i64)).length = zs.length * 1) := Lib.hid (by simp)
  have HHO := Lib.hid (ints_one zs)
  have HM1 : Hid (0 + zs.length ≤ maxLen) := Lib.hid (by unfold maxLen; omega)
  have HS1 : Hid ((0 + zs.length) * 8 ≤ 140737488355328) := Lib.hid (by omega)
  have HJ : Hid ([] ++ zs.map (Value.int .i64) = zs.map (Value.int .i64)) := Lib.hid (by simp)
  have HI := Lib.hid hi0; have HZ0 := Lib.hid hz0; have HZ1 := Lib.hid hz1; have HZ2 := Lib.hid hz2
  have HLL : Hid (0 + zs.length = zs.length) := Lib.hid (by omega)
  clear hb0 hc1 hi0 hz0 hz1 hz2
  go_enter Tryd.func49, Tryd.ntmps49
  go_wp2_with (at_builtin; refine wpList_append_own _ rfl _ _ 24 rfl w.heap.size 2 i0 (.int .i64 0) 1 8 Tryd.underlying24 HI.out HZ0.out HZ1.out HZ2.out rfl (by decide) _ _ _ rfl H0.out ⟨b1, off1, none⟩ zs.length c (zs.map (Value.int .i64)) rfl HL1.out HN1.out HHO.out HM1.out HS1.out HB0.out.size ?_; intro v2 w2 hown2 hgrow2 _; obtain ⟨A2, c2, rfl, HO2, HB2⟩ := app_news HB0 H0 hown2 hgrow2 HJ HLL.out; clear hown2 hgrow2)
  go_ret
  exact ⟨_, _, rfl, HO2.out, HB2.out⟩

set_option maxHeartbeats 1000000 in
theorem copyInts_any (v : Value) (zs : List Int) (w : World) (hp : Part w w.heap.size v zs) (hz : zs.length ≤ 1000) :
    Calls Tryd.prog 66 #[v] w (Gives w zs) := by
  obtain ⟨i0, hi0, hz0, hz1, hz2⟩ := info_parts info_i64
  obtain ⟨b1, off1, c, rfl, hb1, hpos, hc1⟩ := hp
  have hb0 : Below w.heap.size w (w.alloc (.cells #[] 2)) := (Below.refl _ _).alloc (Nat.le_refl _) _
  have H0 := Lib.hid (World.ownsRow_made (e := 2) (base := w.heap.size) (size := 1) w #[] 0 (Nat.le_refl _) (by simp [maxLen]) rfl)
  have HN1 : Hid (∀ j u, (zs.map (Value.int .i64))[j]? = some u → (w.alloc (.cells #[] 2)).cell? ((⟨b1, off1, none⟩ : Addr).add j) = some u) := Lib.hid (part_news (fun j hj => (hb0.cell (p := ⟨b1, off1 + j, none⟩) hb1).trans (hc1 j hj)))
  have HB0 := Lib.hid hb0
  have HL1 : Hid ((zs.map (Value.int .i64)).length = zs.length * 1) := Lib.hid (by simp)
  have HHO := Lib.hid (ints_one zs)
  have HM1 : Hid (0 + zs.length ≤ maxLen) := Lib.hid (by unfold maxLen; omega)
  have HS1 : Hid ((0 + zs.length) * 8 ≤ 140737488355328) := Lib.hid (by omega)
  have HJ : Hid ([] ++ zs.map (Value.int .i64) = zs.map (Value.int .i64)) := Lib.hid (by simp)
  have HI := Lib.hid hi0; have HZ0 := Lib.hid hz0; have HZ1 := Lib.hid hz1; have HZ2 := Lib.hid hz2
  have HLL : Hid (0 + zs.length = zs.length) := Lib.hid (by omega)
  clear hb0 hc1 hi0 hz0 hz1 hz2
  go_enter Tryd.func66, Tryd.ntmps66
  go_wp2_with (at_builtin; refine wpList_append_own _ rfl _ _ 24 rfl w.heap.size 2 i0 (.int .i64 0) 1 8 Tryd.underlying24 HI.out HZ0.out HZ1.out HZ2.out rfl (by decide) _ _ _ rfl H0.out ⟨b1, off1, none⟩ zs.length c (zs.map (Value.int .i64)) rfl HL1.out HN1.out HHO.out HM1.out HS1.out HB0.out.size ?_; intro v2 w2 hown2 hgrow2 _; obtain ⟨A2, c2, rfl, HO2, HB2⟩ := app_news HB0 H0 hown2 hgrow2 HJ HLL.out; clear hown2 hgrow2)
  go_ret
  exact ⟨_, _, rfl, HO2.out, HB2.out⟩

end Go.Proofs.YtgblfcalbikgfaaDoor
