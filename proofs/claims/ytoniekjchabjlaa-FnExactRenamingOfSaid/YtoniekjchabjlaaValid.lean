/- FormEnd and ValidForm: of the program and of the model. ValidForm of the program; FormEnd and ValidForm of the model. -/
import Derived.Test.YtoniekjchabjlaaLeaf
import Derived.Test.YtoniekjchabjlaaHelp
import Derived.Deep.LoopGhost
import Derived.WalkMore
namespace Go.Proofs.Ytoniekjchabjlaa
open Go.RowKit

theorem ret_i64 {a b : Int} (h : a = b) : Ending.returned (.int .i64 a) = .returned (.int .i64 b) := by rw [h]

/-- What the scan still has to do, k symbols behind the first. -/
def Rem (f : List Int) (k0 k : Nat) (m : Int) : Prop := scan (f.drop k0) 1 k0 = scan (f.drop (k0 + k)) m ((k0 + k : Nat) : Int)
theorem Rem.start (f : List Int) (k0 : Nat) : Rem f k0 0 1 := rfl
theorem Rem.out_ {f : List Int} {k0 k : Nat} {m : Int} (h : Rem f k0 k m) (hk : ¬ k0 + k < f.length) : scan (f.drop k0) 1 k0 = -1 := by
  rw [h, List.drop_eq_nil_of_le (by omega)]; rfl
theorem Rem.bad {f : List Int} {k0 k : Nat} {m : Int} (h : Rem f k0 k m) (hk : k0 + k < f.length) (ha : arZ (f.getD (k0 + k) 0) = -1) : scan (f.drop k0) 1 k0 = -1 := by
  rw [h, drop_cons hk, scan_bad _ _ _ ha]
theorem Rem.end_ {f : List Int} {k0 k : Nat} {m : Int} (h : Rem f k0 k m) (hk : k0 + k < f.length) (ha : 0 ≤ arZ (f.getD (k0 + k) 0)) (hm : m + arZ (f.getD (k0 + k) 0) = 1) : scan (f.drop k0) 1 k0 = k0 + k + 1 := by
  rw [h, drop_cons hk, scan_end _ _ _ ha hm]; omega
theorem Rem.on {f : List Int} {k0 k : Nat} {m : Int} (h : Rem f k0 k m) (hk : k0 + k < f.length) (ha : 0 ≤ arZ (f.getD (k0 + k) 0)) (hm : m + arZ (f.getD (k0 + k) 0) ≠ 1) : Rem f k0 (k + 1) (m + arZ (f.getD (k0 + k) 0) - 1) := by
  unfold Rem
  rw [h, drop_cons hk, scan_on _ _ _ ha hm]
  have e : ((k0 + k : Nat) : Int) + 1 = ((k0 + (k + 1) : Nat) : Int) := by omega
  rw [e]; rfl

theorem validB_eq (f : List Int) : (feI f 0 == (f.length : Int)) = validB f := by
  rw [Bool.eq_iff_iff]; simp [validB]
theorem ret_bool {a b : Bool} (h : a = b) : Ending.returned (.bool a) = .returned (.bool b) := by rw [h]

/-- What the model's scan still has to do. -/
def RemS (f : List Int) (k0 k : Nat) (m : Int) : Prop := (m = 0 → scan (f.drop k0) 1 k0 = ((k0 + k : Nat) : Int)) ∧ (1 ≤ m → Rem f k0 k m)
theorem RemS.start (f : List Int) (k0 : Nat) : RemS f k0 0 1 := ⟨fun h => by omega, fun _ => Rem.start f k0⟩
theorem RemS.done {f : List Int} {k0 k : Nat} (h : RemS f k0 k 0) : scan (f.drop k0) 1 k0 = ((k0 + k : Nat) : Int) := h.1 rfl
theorem RemS.on {f : List Int} {k0 k : Nat} {m : Int} (h : RemS f k0 k m) (hm1 : 1 ≤ m) (hk : k0 + k < f.length) (ha : 0 ≤ arZ (f.getD (k0 + k) 0)) : RemS f k0 (k + 1) (m - 1 + arZ (f.getD (k0 + k) 0)) := by
  by_cases hm : m + arZ (f.getD (k0 + k) 0) = 1
  · refine ⟨fun _ => ?_, fun h1 => by omega⟩
    rw [(h.2 hm1).end_ hk ha hm]; omega
  · refine ⟨fun h1 => by omega, fun _ => ?_⟩
    have := (h.2 hm1).on hk ha hm
    have e : m + arZ (f.getD (k0 + k) 0) - 1 = m - 1 + arZ (f.getD (k0 + k) 0) := by omega
    rw [e] at this; exact this

theorem fe_any (f : List Int) (k : Nat) : fe f k = scan (f.drop k) 1 k := by
  by_cases h : k < f.length
  · exact fe_nat h
  · rw [fe_out (by omega), List.drop_eq_nil_of_le (by omega)]; rfl

end Go.Proofs.Ytoniekjchabjlaa
