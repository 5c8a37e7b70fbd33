/- FormEnd and ValidForm: of the program and of the model. -/
import Derived.Test.YtdgejhlpncnenaaDoorLeaf
import Derived.Test.YtdgejhlpncnenaaDoorSpecLeaf
import Derived.Test.YtdgejhlpncnenaaDoorHelp
import Derived.Deep.LoopGhost
import Derived.WalkMore
namespace Go.Proofs.YtdgejhlpncnenaaDoor
open Go.RowKit

theorem ret_i64 {a b : Int} (h : a = b) : Ending.returned (.int .i64 a) = .returned (.int .i64 b) := by rw [h]

/-- What the scan still has to do, k symbols behind the first. -/
def Rem (f : List Int) (k0 k : Nat) (m : Int) : Prop := scan (f.drop k0) 1 k0 = scan (f.drop (k0 + k)) m ((k0 + k : Nat) : Int)
theorem Rem.start (f : List Int) (k0 : Nat) : Rem f k0 0 1 := rfl
theorem Rem.out_ {f : List Int} {k0 k : Nat} {m : Int} (h : Rem f k0 k m) (hk : ¬ k0 + k < f.length) : scan (f.drop k0) 1 k0 = -1 := by
  rw [h, List.drop_eq_nil_of_le (by omega)]; rfl
theorem Rem.bad {f : List Int} {k0 k : Nat} {m : Int} (h : Rem f k0 k m) (hk : k0 + k < f.length) (ha : arZ (f.getD (k0 + k) 0) = -1) : scan (f.drop k0) 1 k0 = -1 := by
  rw [h, drop_cons hk, scan_bad _ _ _ ha]
theorem Rem.end_ {f : List Int} {k0 k : Nat} {m : Int} (h : Rem f k0 k m) (hk : k0 + k < f.length) (ha : 0 ≤ arZ (f.getD (k0 + k) 0)) (hm : m + arZ (f.getD (k0 + k) 0) = 1) : scan (f.drop k0) 1 k0 = k0 + k + 1 := by
  rw [h, drop_cons hk, scan_end _ _ _ ha hm]; omega
theorem Rem.on {f : List Int} {k0 k : Nat} {m : Int} (h : Rem f k0 k m) (hk : k0 + k < f.length) (ha : 0 ≤ arZ (f.getD (k0 + k) 0)) (hm : m + arZ (f.getD (k0 + k) 0) ≠ 1) : Rem f k0 (k + 1) (m + arZ (f.getD (k0 + k) 0) - 1) := by
  unfold Rem
  rw [h, drop_cons hk, scan_on _ _ _ ha hm]
  have e : ((k0 + k : Nat) : Int) + 1 = ((k0 + (k + 1) : Nat) : Int) := by omega
  rw [e]; rfl

set_option maxHeartbeats 1000000 in
theorem formEnd_in (A : Option Addr) (c k0 : Nat) (f : List Int) (w : World) (h : RdI w w.heap.size A f.length f) (ht : Arit w) (hnc : f.length ≤ c) (h24 : f.length ≤ 24) (hk0 : k0 < f.length) :
    Calls Tryd.prog 37 #[.slice A f.length c, .int .i64 k0] w fun e w' => e = .returned (.int .i64 (feI f k0)) ∧ w = w' := by
  have HF := Lib.hid (feI_small (a := k0) h24)
  have HG := Lib.hid (fe_nat hk0)
  obtain ⟨b, off, rfl, hbb, hcells⟩ := h.2 (by omega)
  have hck : ¬ c = k0 := by omega
  have HC := Lib.hid hcells
  clear hcells h
  have hd1 : decide (24 < (f.length : Int)) = false := by simp; omega
  have hd2 : decide ((k0 : Int) < 0) = false := by simp
  have hd3 : decide (f.length ≤ k0) = false := by simp; omega
  go_enter Tryd.func37, Tryd.ntmps37
  go_wp2
  go_step3
  go_wp2
  go_step3
  go_wp2
  go_loop [5, 25] (fun v5 v25 => ∃ (k : Nat) (m : Int), k0 + k ≤ f.length ∧ v25 = .int .i64 k ∧ v5 = .int .i64 m ∧ 1 ≤ m ∧ m ≤ k + 1 ∧ Rem f k0 k m) (fun _ v25 => f.length - (intOf v25).toNat)
  case atStart => exact ⟨0, 1, by omega, rfl, rfl, by omega, by omega, Rem.start f k0⟩
  case round =>
    obtain ⟨k, m, hk, rfl, rfl, hm1, hm2, hr⟩ := hrel
    by_cases hlt : k0 + k < f.length
    · have hc : w.cell? ⟨b, off + k0 + k, none⟩ = some (.int .i64 (f.getD (k0 + k) 0)) := by rw [Nat.add_assoc]; exact HC.out _ hlt
      have hR1 := hr.bad hlt
      have hR2 := hr.end_ hlt
      have hR3 := hr.on hlt
      generalize f.getD (k0 + k) 0 = x at hc hR1 hR2 hR3
      rcases arZ_cases x with ha | ha | ha | ha
      · have HR := Lib.hid (hR1 ha)
        clear hR1 hR2 hR3 hr
        go_wp2_with (go_at_call 76; refine (arityOf_any x _ ht).mono ?_; rintro e w' ⟨rfl, rfl⟩)
        rw [Exit.noGoto_ret]
        go_ret
        exact ⟨ret_i64 (by rw [HF.out, HG.out, HR.out]), rfl⟩
      · by_cases hm : m = 1
        · subst hm
          have HR := Lib.hid (hR2 (by omega) (by omega))
          clear hR1 hR2 hR3 hr
          go_wp2_with (go_at_call 76; refine (arityOf_any x _ ht).mono ?_; rintro e w' ⟨rfl, rfl⟩)
          rw [Exit.noGoto_ret]
          go_ret
          exact ⟨ret_i64 (by rw [HF.out, HG.out, HR.out]), rfl⟩
        · have HR := Lib.hid (hR3 (by omega) (by omega))
          have hne : (m - 1 == 0) = false := by simp; omega
          clear hR1 hR2 hR3 hr
          go_wp2_with (go_at_call 76; refine (arityOf_any x _ ht).mono ?_; rintro e w' ⟨rfl, rfl⟩)
          go_round
          case rel => exact ⟨k + 1, m - 1, by omega, by go_num, by go_num, by omega, by omega, by have := HR.out; rw [ha] at this; simpa using this⟩
          case measure => simp [intOf]; omega
      · have HR := Lib.hid (hR3 (by omega) (by omega))
        clear hR1 hR2 hR3 hr
        go_wp2_with (go_at_call 76; refine (arityOf_any x _ ht).mono ?_; rintro e w' ⟨rfl, rfl⟩)
        go_round
        case rel => exact ⟨k + 1, m, by omega, by go_num, by go_num, by omega, by omega, by have := HR.out; rw [ha] at this; simpa using this⟩
        case measure => simp [intOf]; omega
      · have HR := Lib.hid (hR3 (by omega) (by omega))
        clear hR1 hR2 hR3 hr
        go_wp2_with (go_at_call 76; refine (arityOf_any x _ ht).mono ?_; rintro e w' ⟨rfl, rfl⟩)
        go_round
        case rel => exact ⟨k + 1, m + 1, by omega, by go_num, by go_num, by omega, by omega, by have := HR.out; rw [ha] at this; have e : m + 2 - 1 = m + 1 := by omega
                                                                                                rw [e] at this; exact this⟩
        case measure => simp [intOf]; omega
    · have HR := Lib.hid (hr.out_ hlt)
      clear hr
      go_wp2
      go_ret
      exact ⟨ret_i64 (by rw [HF.out, HG.out, HR.out]), rfl⟩

set_option maxHeartbeats 1000000 in
theorem formEnd_late (A : Option Addr) (c : Nat) (f : List Int) (at_ : Int) (w : World) (h24 : f.length ≤ 24) (h0 : 0 ≤ at_) (h1 : (f.length : Int) ≤ at_) :
    Calls Tryd.prog 37 #[.slice A f.length c, .int .i64 at_] w fun e w' => e = .returned (.int .i64 (feI f at_)) ∧ w = w' := by
  have HF : Hid (feI f at_ = -1) := Lib.hid (by rw [feI_small h24, fe_out (by omega)])
  have hd1 : decide (24 < (f.length : Int)) = false := by simp; omega
  have hd2 : decide (at_ < 0) = false := by simp; omega
  have hd3 : decide ((f.length : Int) ≤ at_) = true := by simp; omega
  go_enter Tryd.func37, Tryd.ntmps37
  go_wp2
  go_step3
  go_wp2
  rw [Exit.noGoto_ret]
  go_ret
  exact ⟨ret_i64 HF.out.symm, rfl⟩

set_option maxHeartbeats 1000000 in
theorem formEnd_neg (A : Option Addr) (c : Nat) (f : List Int) (at_ : Int) (w : World) (h24 : f.length ≤ 24) (h0 : at_ < 0) :
    Calls Tryd.prog 37 #[.slice A f.length c, .int .i64 at_] w fun e w' => e = .returned (.int .i64 (feI f at_)) ∧ w = w' := by
  have HF : Hid (feI f at_ = -1) := Lib.hid (by rw [feI_small h24, fe_out (by omega)])
  have hd1 : decide (24 < (f.length : Int)) = false := by simp; omega
  have hd2 : decide (at_ < 0) = true := by simp; omega
  go_enter Tryd.func37, Tryd.ntmps37
  go_wp2
  go_step3
  go_wp2
  rw [Exit.noGoto_ret]
  go_ret
  exact ⟨ret_i64 HF.out.symm, rfl⟩

set_option maxHeartbeats 1000000 in
theorem formEnd_long (A : Option Addr) (c : Nat) (f : List Int) (at_ : Int) (w : World) (h24 : ¬ f.length ≤ 24) :
    Calls Tryd.prog 37 #[.slice A f.length c, .int .i64 at_] w fun e w' => e = .returned (.int .i64 (feI f at_)) ∧ w = w' := by
  have HF : Hid (feI f at_ = -1) := Lib.hid (by rw [feI_big h24])
  have hd1 : decide (24 < (f.length : Int)) = true := by simp; omega
  go_enter Tryd.func37, Tryd.ntmps37
  go_wp2
  go_step3
  go_wp2
  rw [Exit.noGoto_ret]
  go_ret
  exact ⟨ret_i64 HF.out.symm, rfl⟩

theorem formEnd_impl (A : Option Addr) (n c : Nat) (f : List Int) (at_ : Int) (w : World) (h : RdI w w.heap.size A n f) (ht : Arit w) (hnc : n ≤ c) :
    Calls Tryd.prog 37 #[.slice A n c, .int .i64 at_] w fun e w' => e = .returned (.int .i64 (feI f at_)) ∧ w = w' := by
  have hl := h.len
  subst hl
  by_cases h24 : f.length ≤ 24
  · by_cases h0 : 0 ≤ at_
    · by_cases h1 : at_ < f.length
      · obtain ⟨k0, rfl⟩ : ∃ k : Nat, at_ = k := ⟨at_.toNat, by omega⟩
        exact formEnd_in A c k0 f w h ht hnc h24 (by omega)
      · exact formEnd_late A c f at_ w h24 h0 (by omega)
    · exact formEnd_neg A c f at_ w h24 (by omega)
  · exact formEnd_long A c f at_ w h24
end Go.Proofs.YtdgejhlpncnenaaDoor
