/- DualOf: of the program and of the model. -/
import Derived.Test.YtoniekjchabjlaaValid
import Derived.Test.YtoniekjchabjlaaMark
import Derived.Test.YtoniekjchabjlaaClone
namespace Go.Proofs.Ytoniekjchabjlaa
open Go.RowKit

/-- The dual of a symbol. -/
def duZ (n : Int) : Int := if operB n then duTab.getD n.toNat 0 else -n
theorem duZ_leaf {n : Int} (h : leafB n = true) : duZ n = -n := by
  have := leaf_iff.1 h
  have ho : operB n = false := oper_not.2 (by omega)
  simp [duZ, ho]
/-- DualOf. -/
def dualL (f : List Int) : List Int := if validB f then f.map duZ else []
theorem dualL_yes {f : List Int} (h : validB f = true) : dualL f = f.map duZ := by simp [dualL, h]
theorem dualL_no {f : List Int} (h : validB f = false) : dualL f = [] := by simp [dualL, h]

theorem dualL_len (f : List Int) : (dualL f).length ≤ 24 := by
  cases h : validB f with
  | true => rw [dualL_yes h, List.length_map]; exact (valid_len h).2.1
  | false => rw [dualL_no h]; simp

theorem scan_all : ∀ (xs : List Int) (m a : Int), 1 ≤ m → 0 ≤ a → scan xs m a = a + xs.length → ∀ x ∈ xs, 0 ≤ arZ x
  | [], _, _, _, _, _ => by simp
  | x :: xs, m, a, hm, ha, hs => by
    rw [List.length_cons] at hs
    have hx : 0 ≤ arZ x := by
      rcases arZ_cases x with h | h | h | h
      · rw [scan_bad _ _ _ h] at hs; omega
      all_goals omega
    intro y hy
    rcases List.mem_cons.1 hy with rfl | hy
    · exact hx
    · by_cases hr : m + arZ x = 1
      · rw [scan_end _ _ _ hx hr] at hs
        have : xs.length = 0 := by omega
        rw [List.eq_nil_of_length_eq_zero this] at hy
        simp at hy
      · rw [scan_on _ _ _ hx hr] at hs
        exact scan_all xs (m + arZ x - 1) (a + 1) (by omega) (by omega) (by omega) y hy
theorem valid_all {f : List Int} (h : validB f = true) : ∀ x ∈ f, 0 ≤ arZ x := by
  obtain ⟨h1, h2, h3⟩ := valid_len h
  rw [show (0 : Int) = ((0 : Nat) : Int) from rfl, fe_nat (by omega)] at h3
  exact scan_all f 1 0 (by omega) (by omega) (by simpa using h3)
theorem valid_at {f : List Int} (h : validB f = true) {k : Nat} (hk : k < f.length) : leafB (f.getD k 0) = true ∨ leafB (f.getD k 0) = false ∧ operB (f.getD k 0) = true := by
  have hm : f.getD k 0 ∈ f := by simp [List.getD, hk]
  have := valid_all h _ hm
  rcases sym_cases (f.getD k 0) with ⟨h, _⟩ | ⟨h, h', _⟩ | ⟨_, _, h, _⟩
  · exact .inl h
  · exact .inr ⟨h, h'⟩
  · omega
theorem map_at (f : List Int) (g : Int → Int) (k : Nat) (hk : k < f.length) : (f.map g).getD k 0 = g (f.getD k 0) := by simp [List.getD, hk]

/-- A symbol of a formula. -/
def symB (x : Int) : Prop := leafB x = true ∨ leafB x = false ∧ operB x = true
theorem valid_sym {f : List Int} (h : validB f = true) : ∀ x ∈ f, symB x := by
  intro x hx
  have := valid_all h x hx
  rcases sym_cases x with ⟨h, _⟩ | ⟨h, h', _⟩ | ⟨_, _, h, _⟩
  · exact .inl h
  · exact .inr ⟨h, h'⟩
  · omega

/-- How far the turning of a list into its dual, from off on, has come. -/
def dulL (S : List Int) (off k : Nat) : List Int := S.take off ++ ((S.drop off).take k).map duZ ++ S.drop (off + k)
def dul (S : List Int) (off k : Nat) : List Value := (dulL S off k).map (Value.int .i64)
theorem dul_zero (S : List Int) (off : Nat) : S.map (Value.int .i64) = dul S off 0 := by simp [dul, dulL]
theorem dul_all (S : List Int) (off m : Nat) (h : off + m = S.length) : dul S off m = (S.take off ++ (S.drop off).map duZ).map (Value.int .i64) := by
  have e : m = (S.drop off).length := by rw [List.length_drop]; omega
  have hd : S.drop (off + (S.drop off).length) = [] := List.drop_of_length_le (by rw [List.length_drop]; omega)
  unfold dul dulL
  rw [e, List.take_length, hd, List.append_nil]
theorem dul_len (S : List Int) (off k : Nat) (h : off + k ≤ S.length) : (dul S off k).length = S.length := by
  simp only [dul, dulL, List.length_map, List.length_append, List.length_take, List.length_drop]; omega
theorem dulL_head (S : List Int) (off k : Nat) (h : off + k ≤ S.length) : (S.take off ++ ((S.drop off).take k).map duZ).length = off + k := by
  simp only [List.length_map, List.length_append, List.length_take, List.length_drop]; omega
theorem dul_at (S : List Int) (off k : Nat) (h : off + k < S.length) : (dul S off k)[off + k]? = some (.int .i64 (S.getD (off + k) 0)) := by
  unfold dul dulL
  rw [List.getElem?_map, List.getElem?_append_right (by rw [dulL_head S off k (by omega)]; omega), dulL_head S off k (by omega), Nat.sub_self, drop_cons h]
  rfl
theorem dul_step (S : List Int) (off k : Nat) (h : off + k < S.length) : (dul S off k).set (off + k) (.int .i64 (duZ (S.getD (off + k) 0))) = dul S off (k + 1) := by
  unfold dul
  rw [← List.map_set]
  congr 1
  unfold dulL
  have hl := dulL_head S off k (by omega)
  rw [List.set_append_right _ _ (by omega), hl, Nat.sub_self, drop_cons h, List.set_cons_zero]
  have hk : k < (S.drop off).length := by rw [List.length_drop]; omega
  have e3 : (S.drop off)[k] = S.getD (off + k) 0 := by
    rw [List.getElem_drop]; simp [List.getD, h]
  rw [List.take_succ_eq_append_getElem hk, List.map_append, e3, List.append_assoc, List.append_assoc, List.append_assoc]
  rfl

/-- What the turning of a list into its dual leaves. -/
def Dualised (w : World) (base g off N cap : Nat) (S : List Int) (e : Ending) (w' : World) : Prop :=
  e = .returned (.tuple #[]) ∧ w'.ownsRow base 2 1 (.slice (some ⟨g, 0, none⟩) N cap) N ((S.take off ++ (S.drop off).map duZ).map (Value.int .i64)) ∧ w.grownBy w' (some g)

end Go.Proofs.Ytoniekjchabjlaa
