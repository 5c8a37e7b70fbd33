/- Plain mathematics of the arrow: two formulas joined are one; its dual's first operand. The bytes of a text. The draw of two lists. -/
import Derived.Test.YtoniekjchabjlaaDoorArrow
import Derived.Test.YtoniekjchabjlaaDoorText
import Derived.Test.YtoniekjchabjlaaDoorPars
import Derived.Test.YtoniekjchabjlaaDoorDualM
import Derived.Test.YtoniekjchabjlaaDoorBytes
namespace Go.Proofs.YtoniekjchabjlaaDoor
open Go.RowKit

theorem scan_sym {xs : List Int} {x m a : Int} (ha : 0 ≤ a) (h : scan (x :: xs) m a = a + (x :: xs).length) : 0 ≤ arZ x := by
  rcases arZ_cases x with h' | h' | h' | h'
  · rw [scan_bad _ _ _ h'] at h; simp only [List.length_cons] at h; omega
  all_goals omega
theorem scan_app : ∀ (xs : List Int) (m a : Int), 1 ≤ m → 0 ≤ a → scan xs m a = a + xs.length → ∀ (r : List Int) (k i : Int), 0 ≤ k → scan (xs ++ r) (m + k) i = if k = 0 then i + xs.length else scan r k (i + xs.length)
  | [], m, a, _, _, h => by simp [scan] at h; omega
  | x :: xs, m, a, hm, ha, h => by
    intro r k i hk
    have hx := scan_sym ha h
    have hlo := arZ_lo x
    by_cases h1 : m + arZ x = 1
    · rw [scan_end _ _ _ hx h1, List.length_cons] at h
      have hn : xs = [] := List.eq_nil_of_length_eq_zero (by omega)
      subst hn
      by_cases hk0 : k = 0
      · rw [if_pos hk0, List.cons_append, scan_end _ _ _ hx (by omega)]; simp
      · rw [if_neg hk0, List.cons_append, scan_on _ _ _ hx (by omega)]
        have e : m + k + arZ x - 1 = k := by omega
        rw [e]; simp
    · rw [scan_on _ _ _ hx h1, List.length_cons] at h
      have ih := scan_app xs (m + arZ x - 1) (a + 1) (by omega) (by omega) (by omega) r k (i + 1) hk
      rw [List.cons_append, scan_on _ _ _ hx (by omega)]
      have e : m + k + arZ x - 1 = m + arZ x - 1 + k := by omega
      rw [e, ih]
      have e2 : i + 1 + (xs.length : Int) = i + ((x :: xs).length : Int) := by rw [List.length_cons]; omega
      rw [e2]
theorem scan_valid {f : List Int} (h : validB f = true) : scan f 1 0 = 0 + (f.length : Int) := by
  obtain ⟨h1, _, h3⟩ := valid_len h
  have := fe_nat (f := f) (a := 0) (by omega)
  rw [List.drop_zero] at this
  rw [show (0 : Int) = ((0 : Nat) : Int) from rfl, ← this]
  simpa using h3
theorem valid_join {op : Int} {a b : List Int} (ho : arZ op = 2) (ha : validB a = true) (hb : validB b = true) (hl : 1 + a.length + b.length ≤ 24) :
    validB (op :: (a ++ b)) = true ∧ fe (op :: (a ++ b)) 1 = 1 + (a.length : Int) := by
  have hla := (valid_len ha).1
  have hlen : (op :: (a ++ b)).length = 1 + a.length + b.length := by simp; omega
  have e1 : scan (a ++ b) 1 1 = 1 + (a.length : Int) := by
    have := scan_app a 1 0 (by omega) (by omega) (scan_valid ha) b 0 1 (by omega)
    simpa using this
  have e2 : scan (a ++ b) 2 1 = 1 + (a.length : Int) + b.length := by
    have h1 := scan_app a 1 0 (by omega) (by omega) (scan_valid ha) b 1 1 (by omega)
    have h2 := scan_app b 1 0 (by omega) (by omega) (scan_valid hb) [] 0 (1 + (a.length : Int)) (by omega)
    rw [if_neg (by omega)] at h1
    rw [if_pos rfl, List.append_nil] at h2
    have e : (1 : Int) + 1 = 2 := by omega
    rw [e] at h1
    rw [h1]
    simpa using h2
  have f1 : fe (op :: (a ++ b)) 1 = 1 + (a.length : Int) := by
    have := fe_nat (f := op :: (a ++ b)) (a := 1) (by omega)
    rw [List.drop_succ_cons, List.drop_zero] at this
    rw [show (1 : Int) = ((1 : Nat) : Int) from rfl, this]
    exact e1
  refine ⟨?_, f1⟩
  have f0 : fe (op :: (a ++ b)) 0 = ((op :: (a ++ b)).length : Int) := by
    have := fe_nat (f := op :: (a ++ b)) (a := 0) (by omega)
    rw [List.drop_zero, scan_on _ _ _ (by omega) (by omega)] at this
    rw [show (0 : Int) = ((0 : Nat) : Int) from rfl, this, ho]
    have e : (1 : Int) + 2 - 1 = 2 := by omega
    rw [e]
    simp only [Int.natCast_zero, Int.zero_add]
    rw [e2, hlen]; omega
  unfold validB
  rw [feI_small (by omega)]
  exact decide_eq_true f0
theorem opnd_join {op : Int} {a b : List Int} (ho : arZ op = 2) (ha : validB a = true) (hb : validB b = true) (hl : 1 + a.length + b.length ≤ 24) :
    opndB (op :: (a ++ b)) 0 = true ∧ opndL (op :: (a ++ b)) 0 = a := by
  obtain ⟨hv, hf⟩ := valid_join ho ha hb hl
  have hB : opndB (op :: (a ++ b)) 0 = true := opndB_yes ⟨hv, by omega, by simpa using (by omega : (0 : Int) < arZ op)⟩
  refine ⟨hB, ?_⟩
  rw [opndL_yes hB]
  have hs : opS (op :: (a ++ b)) 0 = 1 := by simp [opS]
  have he : opE (op :: (a ++ b)) 0 = 1 + a.length := by
    unfold opE; rw [hs]
    rw [show (((1 : Nat) : Int)) = (1 : Int) from rfl, hf]; omega
  rw [hs, he]
  have e : 1 + a.length - 1 = a.length := by omega
  rw [e, List.drop_succ_cons, List.drop_zero]
  simp

/-- What the arrow is, where there is one. -/
theorem arrow_yes {a b : List Int} (h : arrowB a b = true) : validB a = true ∧ validB b = true ∧ a.length + b.length < 24 ∧ arrowL a b = 12 :: (a.map duZ ++ b) ∧ dualL (arrowL a b) = 11 :: (a ++ b.map duZ) ∧
    opndB (11 :: (a ++ b.map duZ)) 0 = true ∧ opndL (11 :: (a ++ b.map duZ)) 0 = a ∧ (11 :: (a ++ b.map duZ)).length ≤ 24 := by
  unfold arrowB at h
  have hj := of_decide_eq_true h
  obtain ⟨_, hv1, hv2, hl⟩ := hj
  have hva : validB a = true := by
    cases hv : validB a with
    | true => rfl
    | false => rw [dualL_no hv] at hv1; exact absurd hv1 (by decide)
  have hdl := dualL_yes hva
  rw [hdl, List.length_map] at hl
  have hL : arrowL a b = 12 :: (a.map duZ ++ b) := by unfold arrowL; rw [joinL_yes h, hdl]
  have hvd := valid_dual hva
  have hvF := (valid_join (op := 12) (by decide) hvd hv2 (by rw [List.length_map]; exact hl)).1
  have hdd : (a.map duZ).map duZ = a := by rw [← dualL_yes hvd]; exact dual_dual hva
  have hD : dualL (arrowL a b) = 11 :: (a ++ b.map duZ) := by
    rw [hL, dualL_yes hvF, List.map_cons, List.map_append, hdd]; rfl
  obtain ⟨h1, h2⟩ := opnd_join (op := 11) (by decide) hva (valid_dual hv2) (by rw [List.length_map]; exact hl)
  exact ⟨hva, hv2, by omega, hL, hD, h1, h2, by simp; omega⟩
theorem arrow_no {a b : List Int} (h : arrowB a b = false) : arrowL a b = [] ∧ (validB a = true → validB b = true → 24 ≤ a.length + b.length) := by
  unfold arrowB at h
  refine ⟨by unfold arrowL; exact joinL_no h, fun ha hb => ?_⟩
  have hn := of_decide_eq_false h
  rcases Nat.lt_or_ge (a.length + b.length) 24 with hlt | hge
  · exact absurd ⟨by decide, by rw [dualL_yes ha]; exact valid_dual ha, hb, by rw [dualL_yes ha, List.length_map]; omega⟩ hn
  · exact hge

theorem bl_mkB {t : List Int} (h : ∀ c ∈ t, 0 ≤ c ∧ c ≤ 255) : bl (mkB t) = t := by
  unfold bl mkB
  simp only [List.map_map]
  have : ∀ c ∈ t, (((fun b : UInt8 => (b.toNat : Int)) ∘ fun z : Int => UInt8.ofNat z.toNat) c) = c := by
    intro c hc
    obtain ⟨h0, h1⟩ := h c hc
    simp only [Function.comp, UInt8.toNat_ofNat']
    omega
  rw [List.map_congr_left this]
  simp

/-- What the draw of two lists leaves. -/
def DrawnTwo (w : World) (e : Ending) (w' : World) : Prop :=
  ∃ (L M : List Int) (A1 A2 : Option Addr) (c1 c2 : Nat), e = .returned (.tuple #[.slice A1 L.length c1, .slice A2 M.length c2]) ∧ L.length ≤ 64 ∧ M.length ≤ 64 ∧
    w'.ownsRow w.heap.size 2 1 (.slice A1 L.length c1) L.length (L.map (Value.int .i64)) ∧ w'.ownsRow w.heap.size 2 1 (.slice A2 M.length c2) M.length (M.map (Value.int .i64)) ∧ Below w.heap.size w w'
end Go.Proofs.YtoniekjchabjlaaDoor
