/- SymbolCount: of the program and of the model. -/
import Derived.Test.YtdgejhlpncnenaaDoorValid
namespace Go.Proofs.YtdgejhlpncnenaaDoor
open Go.RowKit

/-- How often x stands among the first k of f. -/
def cntT (f : List Int) (x : Int) : Nat → Nat
  | 0 => 0
  | k + 1 => cntT f x k + (if f.getD k 0 = x then 1 else 0)
theorem cntT_le (f : List Int) (x : Int) : ∀ k, cntT f x k ≤ k
  | 0 => Nat.le_refl _
  | k + 1 => by have := cntT_le f x k; unfold cntT; split <;> omega
theorem cntT_succ (f : List Int) (x : Int) (k : Nat) : cntT f x (k + 1) = cntT f x k + (if f.getD k 0 = x then 1 else 0) := rfl
theorem cntT_hit {f : List Int} {x : Int} {k : Nat} (h : (f.getD k 0 == x) = true) : cntT f x (k + 1) = cntT f x k + 1 := by
  rw [cntT_succ, if_pos (by simpa using h)]
theorem cntT_miss {f : List Int} {x : Int} {k : Nat} (h : (f.getD k 0 == x) = false) : cntT f x (k + 1) = cntT f x k := by
  rw [cntT_succ, if_neg (by simpa using h)]; rfl
/-- SymbolCount. -/
def cntZ (f : List Int) (x : Int) : Int := if validB f then (cntT f x f.length : Int) else -1
theorem cntZ_yes {f : List Int} (x : Int) (h : validB f = true) : cntZ f x = (cntT f x f.length : Int) := by unfold cntZ; rw [if_pos h]
theorem cntZ_no {f : List Int} (x : Int) (h : validB f = false) : cntZ f x = -1 := by unfold cntZ; rw [if_neg (by rw [h]; decide)]

set_option maxHeartbeats 1000000 in
theorem symbolCount_impl (A : Option Addr) (n c : Nat) (f : List Int) (x : Int) (w : World) (h : RdI w w.heap.size A n f) (ht : Arit w) (hnc : n ≤ c) :
    Calls Tryd.prog 12 #[.slice A n c, .int .i64 x] w fun e w' => e = .returned (.int .i64 (cntZ f x)) ∧ w = w' := by
  have hl := h.len
  subst hl
  cases hv : validB f with
  | false =>
    rw [cntZ_no x hv]
    go_enter Tryd.func12, Tryd.ntmps12
    go_wp2_with (go_at_call 35; refine (validForm_impl _ _ _ f _ h ht hnc).mono ?_; rintro e w' ⟨rfl, rfl⟩)
    go_ret
    exact ⟨rfl, rfl⟩
  | true =>
    rw [cntZ_yes x hv]
    have hlen := valid_len hv
    have hl24 : f.length ≤ 24 := hlen.2.1
    clear hlen
    go_enter Tryd.func12, Tryd.ntmps12
    go_wp2_with (go_at_call 35; refine (validForm_impl _ _ _ f _ h ht hnc).mono ?_; rintro e w' ⟨rfl, rfl⟩)
    go_loop [5, 13] (fun v i => ∃ k : Nat, k ≤ f.length ∧ i = .int .i64 k ∧ v = .int .i64 (cntT f x k)) (fun _ i => f.length - (intOf i).toNat)
    case atStart => exact ⟨0, Nat.zero_le _, rfl, rfl⟩
    case round =>
      obtain ⟨k, hk, rfl, rfl⟩ := hrel
      by_cases hlt : k < f.length
      · obtain ⟨b, off, rfl, hbb, hcells⟩ := h.2 (by omega)
        have hc := hcells k hlt
        have hcl := cntT_le f x k
        cases he : (f.getD k 0 == x) with
        | true =>
          have HE := Lib.hid (cntT_hit he)
          generalize f.getD k 0 = z at hc he
          generalize cntT f x k = q at HE hcl
          clear hcells h ht hnc
          go_wp2
          go_round
          case rel => exact ⟨k + 1, by omega, by go_num, by rw [HE.out]; go_num⟩
          case measure => simp [intOf]; omega
        | false =>
          have HE := Lib.hid (cntT_miss he)
          generalize f.getD k 0 = z at hc he
          generalize cntT f x k = q at HE hcl
          clear hcells h ht hnc
          go_wp2
          go_round
          case rel => exact ⟨k + 1, by omega, by go_num, by rw [HE.out]⟩
          case measure => simp [intOf]; omega
      · have hkl : k = f.length := by omega
        subst hkl
        go_wp2
        go_ret
        exact ⟨rfl, rfl⟩

end Go.Proofs.YtdgejhlpncnenaaDoor
