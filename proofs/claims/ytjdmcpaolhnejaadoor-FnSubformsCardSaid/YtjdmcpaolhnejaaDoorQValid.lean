/- FormEnd and ValidForm: of the program and of the model. ValidForm of the program; FormEnd and ValidForm of the model. The library's slices.Grow, slices.Concat and slices.Clone as the program calls them, and the model's copyInts: what each leaves. slices.Clone as the program calls it, and the model's copyInts: what each leaves. DualOf: of the program and of the model. Joined and Wrapped: of the program and of the model. Joined and Wrapped of the model. -/
import Derived.Test.YtjdmcpaolhnejaaDoorQMath
import Derived.Deep.LoopGhost
import Derived.WalkMore
import Derived.Lib.AppendZerosOnto
import Derived.Lib.SliceRun
import Derived.Lib.Walk
import Derived.Deep.Matrix
namespace Go.Proofs.YtjdmcpaolhnejaaDoor
set_option linter.unusedSimpArgs false
set_option linter.unusedVariables false
section
open Go.RowKit

theorem ret_i64 {a b : Int} (h : a = b) : Ending.returned (.int .i64 a) = .returned (.int .i64 b) := by rw [h]

/-- What the scan still has to do, k symbols behind the first. -/
def Rem (f : List Int) (k0 k : Nat) (m : Int) : Prop := scan (f.drop k0) 1 k0 = scan (f.drop (k0 + k)) m ((k0 + k : Nat) : Int)
theorem Rem.start (f : List Int) (k0 : Nat) : Rem f k0 0 1 := rfl
theorem Rem.out_ {f : List Int} {k0 k : Nat} {m : Int} (h : Rem f k0 k m) (hk : ¬ k0 + k < f.length) : scan (f.drop k0) 1 k0 = -1 := by
  rw [h, List.drop_eq_nil_of_le (by omega)]; rfl
theorem Rem.bad {f : List Int} {k0 k : Nat} {m : Int} (h : Rem f k0 k m) (hk : k0 + k < f.length) (ha : arZ (f.getD (k0 + k) 0) = -1) : scan (f.drop k0) 1 k0 = -1 := by
  rw [h, drop_cons hk, scan_bad _ _ _ ha]
theorem Rem.end_ {f : List Int} {k0 k : Nat} {m : Int} (h : Rem f k0 k m) (hk : k0 + k < f.length) (ha : 0 ≤ arZ (f.getD (k0 + k) 0)) (hm : m + arZ (f.getD (k0 + k) 0) = 1) : scan (f.drop k0) 1 k0 = k0 + k + 1 := by
  rw [h, drop_cons hk, scan_end _ _ _ ha hm]; omega
theorem Rem.on {f : List Int} {k0 k : Nat} {m : Int} (h : Rem f k0 k m) (hk : k0 + k < f.length) (ha : 0 ≤ arZ (f.getD (k0 + k) 0)) (hm : m + arZ (f.getD (k0 + k) 0) ≠ 1) : Rem f k0 (k + 1) (m + arZ (f.getD (k0 + k) 0) - 1) := by
  unfold Rem
  rw [h, drop_cons hk, scan_on _ _ _ ha hm]
  have e : ((k0 + k : Nat) : Int) + 1 = ((k0 + (k + 1) : Nat) : Int) := by omega
  rw [e]; rfl

set_option maxHeartbeats 1000000 in
theorem formEnd_in (A : Option Addr) (c k0 : Nat) (f : List Int) (w : World) (h : RdI w w.heap.size A f.length f) (ht : Arit w) (hnc : f.length ≤ c) (h24 : f.length ≤ 24) (hk0 : k0 < f.length) :
    Calls Tryd.prog 56 #[.slice A f.length c, .int .i64 k0] w fun e w' => e = .returned (.int .i64 (feI f k0)) ∧ w = w' := by
  have HF := Lib.hid (feI_small (a := k0) h24)
  have HG := Lib.hid (fe_nat hk0)
  obtain ⟨b, off, rfl, hbb, hcells⟩ := h.2 (by omega)
  have hck : ¬ c = k0 := by omega
  have HC := Lib.hid hcells
  clear hcells h
  have hd1 : decide (24 < (f.length : Int)) = false := by simp; omega
  have hd2 : decide ((k0 : Int) < 0) = false := by simp
  have hd3 : decide (f.length ≤ k0) = false := by simp; omega
  go_enter Tryd.func56, Tryd.ntmps56
  go_wp2
  go_step3
  go_wp2
  go_step3
  go_wp2
  go_loop [5, 25] (fun v5 v25 => ∃ (k : Nat) (m : Int), k0 + k ≤ f.length ∧ v25 = .int .i64 k ∧ v5 = .int .i64 m ∧ 1 ≤ m ∧ m ≤ k + 1 ∧ Rem f k0 k m) (fun _ v25 => f.length - (intOf v25).toNat)
  case atStart => exact ⟨0, 1, by omega, rfl, rfl, by omega, by omega, Rem.start f k0⟩
  case round =>
    obtain ⟨k, m, hk, rfl, rfl, hm1, hm2, hr⟩ := hrel
    by_cases hlt : k0 + k < f.length
    · have hc : w.cell? ⟨b, off + k0 + k, none⟩ = some (.int .i64 (f.getD (k0 + k) 0)) := by rw [Nat.add_assoc]; exact HC.out _ hlt
      have hR1 := hr.bad hlt
      have hR2 := hr.end_ hlt
      have hR3 := hr.on hlt
      generalize f.getD (k0 + k) 0 = x at hc hR1 hR2 hR3
      rcases arZ_cases x with ha | ha | ha | ha
      · have HR := Lib.hid (hR1 ha)
        clear hR1 hR2 hR3 hr
        go_wp2_with (go_at_call 80; refine (arityOf_any x _ ht).mono ?_; rintro e w' ⟨rfl, rfl⟩)
        rw [Exit.noGoto_ret]
        go_ret
        exact ⟨ret_i64 (by rw [HF.out, HG.out, HR.out]), rfl⟩
      · by_cases hm : m = 1
        · subst hm
          have HR := Lib.hid (hR2 (by omega) (by omega))
          clear hR1 hR2 hR3 hr
          go_wp2_with (go_at_call 80; refine (arityOf_any x _ ht).mono ?_; rintro e w' ⟨rfl, rfl⟩)
          rw [Exit.noGoto_ret]
          go_ret
          exact ⟨ret_i64 (by rw [HF.out, HG.out, HR.out]), rfl⟩
        · have HR := Lib.hid (hR3 (by omega) (by omega))
          have hne : (m - 1 == 0) = false := by simp; omega
          clear hR1 hR2 hR3 hr
          go_wp2_with (go_at_call 80; refine (arityOf_any x _ ht).mono ?_; rintro e w' ⟨rfl, rfl⟩)
          go_round
          case rel => exact ⟨k + 1, m - 1, by omega, by go_num, by go_num, by omega, by omega, by have := HR.out; rw [ha] at this; simpa using this⟩
          case measure => simp [intOf]; omega
      · have HR := Lib.hid (hR3 (by omega) (by omega))
        clear hR1 hR2 hR3 hr
        go_wp2_with (go_at_call 80; refine (arityOf_any x _ ht).mono ?_; rintro e w' ⟨rfl, rfl⟩)
        go_round
        case rel => exact ⟨k + 1, m, by omega, by go_num, by go_num, by omega, by omega, by have := HR.out; rw [ha] at this; simpa using this⟩
        case measure => simp [intOf]; omega
      · have HR := Lib.hid (hR3 (by omega) (by omega))
        clear hR1 hR2 hR3 hr
        go_wp2_with (go_at_call 80; refine (arityOf_any x _ ht).mono ?_; rintro e w' ⟨rfl, rfl⟩)
        go_round
        case rel => exact ⟨k + 1, m + 1, by omega, by go_num, by go_num, by omega, by omega, by have := HR.out; rw [ha] at this; have e : m + 2 - 1 = m + 1 := by omega
                                                                                                rw [e] at this; exact this⟩
        case measure => simp [intOf]; omega
    · have HR := Lib.hid (hr.out_ hlt)
      clear hr
      go_wp2
      go_ret
      exact ⟨ret_i64 (by rw [HF.out, HG.out, HR.out]), rfl⟩

set_option maxHeartbeats 1000000 in
theorem formEnd_late (A : Option Addr) (c : Nat) (f : List Int) (at_ : Int) (w : World) (h24 : f.length ≤ 24) (h0 : 0 ≤ at_) (h1 : (f.length : Int) ≤ at_) :
    Calls Tryd.prog 56 #[.slice A f.length c, .int .i64 at_] w fun e w' => e = .returned (.int .i64 (feI f at_)) ∧ w = w' := by
  have HF : Hid (feI f at_ = -1) := Lib.hid (by rw [feI_small h24, fe_out (by omega)])
  have hd1 : decide (24 < (f.length : Int)) = false := by simp; omega
  have hd2 : decide (at_ < 0) = false := by simp; omega
  have hd3 : decide ((f.length : Int) ≤ at_) = true := by simp; omega
  go_enter Tryd.func56, Tryd.ntmps56
  go_wp2
  go_step3
  go_wp2
  rw [Exit.noGoto_ret]
  go_ret
  exact ⟨ret_i64 HF.out.symm, rfl⟩

set_option maxHeartbeats 1000000 in
theorem formEnd_neg (A : Option Addr) (c : Nat) (f : List Int) (at_ : Int) (w : World) (h24 : f.length ≤ 24) (h0 : at_ < 0) :
    Calls Tryd.prog 56 #[.slice A f.length c, .int .i64 at_] w fun e w' => e = .returned (.int .i64 (feI f at_)) ∧ w = w' := by
  have HF : Hid (feI f at_ = -1) := Lib.hid (by rw [feI_small h24, fe_out (by omega)])
  have hd1 : decide (24 < (f.length : Int)) = false := by simp; omega
  have hd2 : decide (at_ < 0) = true := by simp; omega
  go_enter Tryd.func56, Tryd.ntmps56
  go_wp2
  go_step3
  go_wp2
  rw [Exit.noGoto_ret]
  go_ret
  exact ⟨ret_i64 HF.out.symm, rfl⟩

set_option maxHeartbeats 1000000 in
theorem formEnd_long (A : Option Addr) (c : Nat) (f : List Int) (at_ : Int) (w : World) (h24 : ¬ f.length ≤ 24) :
    Calls Tryd.prog 56 #[.slice A f.length c, .int .i64 at_] w fun e w' => e = .returned (.int .i64 (feI f at_)) ∧ w = w' := by
  have HF : Hid (feI f at_ = -1) := Lib.hid (by rw [feI_big h24])
  have hd1 : decide (24 < (f.length : Int)) = true := by simp; omega
  go_enter Tryd.func56, Tryd.ntmps56
  go_wp2
  go_step3
  go_wp2
  rw [Exit.noGoto_ret]
  go_ret
  exact ⟨ret_i64 HF.out.symm, rfl⟩

theorem formEnd_impl (A : Option Addr) (n c : Nat) (f : List Int) (at_ : Int) (w : World) (h : RdI w w.heap.size A n f) (ht : Arit w) (hnc : n ≤ c) :
    Calls Tryd.prog 56 #[.slice A n c, .int .i64 at_] w fun e w' => e = .returned (.int .i64 (feI f at_)) ∧ w = w' := by
  have hl := h.len
  subst hl
  by_cases h24 : f.length ≤ 24
  · by_cases h0 : 0 ≤ at_
    · by_cases h1 : at_ < f.length
      · obtain ⟨k0, rfl⟩ : ∃ k : Nat, at_ = k := ⟨at_.toNat, by omega⟩
        exact formEnd_in A c k0 f w h ht hnc h24 (by omega)
      · exact formEnd_late A c f at_ w h24 h0 (by omega)
    · exact formEnd_neg A c f at_ w h24 (by omega)
  · exact formEnd_long A c f at_ w h24

theorem validB_eq (f : List Int) : (feI f 0 == (f.length : Int)) = validB f := by
  rw [Bool.eq_iff_iff]; simp [validB]
theorem ret_bool {a b : Bool} (h : a = b) : Ending.returned (.bool a) = .returned (.bool b) := by rw [h]

set_option maxHeartbeats 400000 in
theorem validForm_impl (A : Option Addr) (n c : Nat) (f : List Int) (w : World) (h : RdI w w.heap.size A n f) (ht : Arit w) (hnc : n ≤ c) :
    Calls Tryd.prog 30 #[.slice A n c] w fun e w' => e = .returned (.bool (validB f)) ∧ w = w' := by
  have hl := h.len
  subst hl
  have HV := Lib.hid (validB_eq f)
  go_enter Tryd.func30, Tryd.ntmps30
  go_wp2_with (go_at_call 56; refine (formEnd_impl _ _ _ f _ _ h ht hnc).mono ?_; rintro e w' ⟨rfl, rfl⟩; generalize feI f 0 = z at HV)
  go_ret
  exact ⟨ret_bool HV.out, rfl⟩

/-- What the model's scan still has to do. -/
def RemS (f : List Int) (k0 k : Nat) (m : Int) : Prop := (m = 0 → scan (f.drop k0) 1 k0 = ((k0 + k : Nat) : Int)) ∧ (1 ≤ m → Rem f k0 k m)
theorem RemS.start (f : List Int) (k0 : Nat) : RemS f k0 0 1 := ⟨fun h => by omega, fun _ => Rem.start f k0⟩
theorem RemS.done {f : List Int} {k0 k : Nat} (h : RemS f k0 k 0) : scan (f.drop k0) 1 k0 = ((k0 + k : Nat) : Int) := h.1 rfl
theorem RemS.on {f : List Int} {k0 k : Nat} {m : Int} (h : RemS f k0 k m) (hm1 : 1 ≤ m) (hk : k0 + k < f.length) (ha : 0 ≤ arZ (f.getD (k0 + k) 0)) : RemS f k0 (k + 1) (m - 1 + arZ (f.getD (k0 + k) 0)) := by
  by_cases hm : m + arZ (f.getD (k0 + k) 0) = 1
  · refine ⟨fun _ => ?_, fun h1 => by omega⟩
    rw [(h.2 hm1).end_ hk ha hm]; omega
  · refine ⟨fun h1 => by omega, fun _ => ?_⟩
    have := (h.2 hm1).on hk ha hm
    have e : m + arZ (f.getD (k0 + k) 0) - 1 = m - 1 + arZ (f.getD (k0 + k) 0) := by omega
    rw [e] at this; exact this

theorem fe_any (f : List Int) (k : Nat) : fe f k = scan (f.drop k) 1 k := by
  by_cases h : k < f.length
  · exact fe_nat h
  · rw [fe_out (by omega), List.drop_eq_nil_of_le (by omega)]; rfl

set_option maxHeartbeats 1000000 in
theorem sformEnd_nat (A : Option Addr) (c k0 : Nat) (f : List Int) (w : World) (h : RdI w w.heap.size A f.length f) (hn : f.length ≤ 1048576) :
    Calls Tryd.prog 29 #[.slice A f.length c, .int .i64 k0] w fun e w' => e = .returned (.int .i64 (fe f k0)) ∧ w = w' := by
  have HG := Lib.hid (fe_any f k0)
  go_enter Tryd.func29, Tryd.ntmps29
  go_wp2
  go_loop [1, 5] (fun v1 v5 => ∃ (k : Nat) (m : Int), (k ≠ 0 → k0 + k ≤ f.length) ∧ v1 = .int .i64 ((k0 + k : Nat) : Int) ∧ v5 = .int .i64 m ∧ 0 ≤ m ∧ m ≤ k + 1 ∧ RemS f k0 k m) (fun v1 _ => f.length + 1 - (intOf v1).toNat)
  case atStart => exact ⟨0, 1, by omega, rfl, rfl, by omega, by omega, RemS.start f k0⟩
  case round =>
    obtain ⟨k, m, hk, rfl, rfl, hm1, hm2, hr⟩ := hrel
    by_cases hm : m = 0
    · subst hm
      have HR := Lib.hid hr.done
      clear hr
      go_wp2
      go_ret
      exact ⟨ret_i64 (HG.out.trans HR.out).symm, rfl⟩
    · have hm0 : 0 < m := by omega
      clear hm
      by_cases hlt : k0 + k < f.length
      · obtain ⟨b, off, rfl, hbb, hcells⟩ := h.2 (by omega)
        have hc : w.cell? ⟨b, off + (k0 + k), none⟩ = some (.int .i64 (f.getD (k0 + k) 0)) := hcells _ hlt
        have hR1 := (hr.2 (by omega)).bad hlt
        have hR3 := hr.on (by omega) hlt
        have hx := arZ_lo (f.getD (k0 + k) 0)
        have hy := arZ_hi (f.getD (k0 + k) 0)
        generalize f.getD (k0 + k) 0 = x at hc hR1 hR3 hx hy
        clear hcells
        by_cases ha : arZ x = -1
        · have HR := Lib.hid (hR1 ha)
          clear hR1 hR3 hr
          go_wp2_with (first | (go_at_call 40; refine (inRange_yes _ _ _ _ (by omega)).mono ?_; rintro e w' ⟨rfl, rfl⟩) | (go_at_call 41; refine (arity_any x _).mono ?_; rintro e w' ⟨rfl, rfl⟩))
          go_ret
          exact ⟨ret_i64 (HG.out.trans HR.out).symm, rfl⟩
        · have HR := Lib.hid (hR3 (by omega))
          have ha0 : 0 ≤ arZ x := by omega
          clear hR1 hR3 hr ha
          go_wp2_with (first | (go_at_call 40; refine (inRange_yes _ _ _ _ (by omega)).mono ?_; rintro e w' ⟨rfl, rfl⟩) | (go_at_call 41; refine (arity_any x _).mono ?_; rintro e w' ⟨rfl, rfl⟩))
          go_round
          case rel => exact ⟨k + 1, m - 1 + arZ x, by omega, by go_num, by go_num, by omega, by omega, HR.out⟩
          case measure => simp [intOf]; omega
      · have HR := Lib.hid ((hr.2 (by omega)).out_ hlt)
        clear hr
        go_wp2_with (go_at_call 40; refine (inRange_no _ _ _ _ (by omega)).mono ?_; rintro e w' ⟨rfl, rfl⟩)
        go_ret
        exact ⟨ret_i64 (HG.out.trans HR.out).symm, rfl⟩

set_option maxHeartbeats 400000 in
theorem sformEnd_neg (A : Option Addr) (c : Nat) (f : List Int) (at_ : Int) (w : World) (hn : f.length ≤ 1048576) (h0 : at_ < 0) :
    Calls Tryd.prog 29 #[.slice A f.length c, .int .i64 at_] w fun e w' => e = .returned (.int .i64 (fe f at_)) ∧ w = w' := by
  have HG : Hid (fe f at_ = -1) := Lib.hid (fe_out (by omega))
  go_enter Tryd.func29, Tryd.ntmps29
  go_wp2
  refine wp_loop_rounds 1 ?_
  rw [rounds_succ]
  go_wp2_with (go_at_call 40; refine (inRange_no _ _ _ _ (by omega)).mono ?_; rintro e w' ⟨rfl, rfl⟩)
  go_ret
  exact ⟨ret_i64 HG.out.symm, rfl⟩

theorem sformEnd_any (A : Option Addr) (n c : Nat) (f : List Int) (at_ : Int) (w : World) (h : RdI w w.heap.size A n f) (hn : n ≤ 1048576) :
    Calls Tryd.prog 29 #[.slice A n c, .int .i64 at_] w fun e w' => e = .returned (.int .i64 (fe f at_)) ∧ w = w' := by
  have hl := h.len
  subst hl
  by_cases h0 : 0 ≤ at_
  · obtain ⟨k0, rfl⟩ : ∃ k : Nat, at_ = k := ⟨at_.toNat, by omega⟩
    exact sformEnd_nat A c k0 f w h hn
  · exact sformEnd_neg A c f at_ w hn (by omega)

set_option maxHeartbeats 400000 in
theorem sFormEnd_any (A : Option Addr) (n c : Nat) (f : List Int) (at_ : Int) (w : World) (h : RdI w w.heap.size A n f) :
    Calls Tryd.prog 39 #[.slice A n c, .int .i64 at_] w fun e w' => e = .returned (.int .i64 (feI f at_)) ∧ w = w' := by
  have hl := h.len
  subst hl
  by_cases h24 : f.length ≤ 24
  · rw [feI_small h24]
    go_enter Tryd.func39, Tryd.ntmps39
    go_wp2_with (go_at_call 29; refine (sformEnd_any _ _ _ f _ _ h (by omega)).mono ?_; rintro e w' ⟨rfl, rfl⟩)
    go_ret
    exact ⟨rfl, rfl⟩
  · rw [feI_big h24]
    go_enter Tryd.func39, Tryd.ntmps39
    go_wp2
    go_ret
    exact ⟨rfl, rfl⟩

set_option maxHeartbeats 400000 in
theorem sValidForm_any (A : Option Addr) (n c : Nat) (f : List Int) (w : World) (h : RdI w w.heap.size A n f) :
    Calls Tryd.prog 16 #[.slice A n c] w fun e w' => e = .returned (.bool (validB f)) ∧ w = w' := by
  have hl := h.len
  subst hl
  have HV := Lib.hid (validB_eq f)
  by_cases h0 : 0 < f.length
  · have hd : decide (0 < (f.length : Int)) = true := by simpa using h0
    go_enter Tryd.func16, Tryd.ntmps16
    go_wp2_with (go_at_call 39; refine (sFormEnd_any _ _ _ f _ _ h).mono ?_; rintro e w' ⟨rfl, rfl⟩; generalize feI f 0 = z at HV)
    go_ret
    exact ⟨ret_bool HV.out, rfl⟩
  · have hf : validB f = false := by
      cases hb : validB f with
      | false => rfl
      | true => have := valid_len hb; omega
    rw [hf]
    clear HV hf
    have hd : decide (0 < (f.length : Int)) = false := decide_eq_false (by omega)
    go_enter Tryd.func16, Tryd.ntmps16
    go_wp2
    go_ret
    exact ⟨rfl, rfl⟩
end
section
open Go.RowKit

/-- A slice value that reads as a list with at least one number, its cells below block B. -/
def Part (w : World) (B : Nat) (v : Value) (zs : List Int) : Prop :=
  ∃ b off c, v = .slice (some ⟨b, off, none⟩) zs.length c ∧ b < B ∧ 0 < zs.length ∧ ∀ j, j < zs.length → w.cell? ⟨b, off + j, none⟩ = some (.int .i64 (zs.getD j 0))
theorem Part.below {w w' : World} {B : Nat} {v : Value} {zs : List Int} (h : Part w B v zs) (hb : Below B w w') : Part w' B v zs := by
  obtain ⟨b, off, c, hv, hB, hp, hc⟩ := h
  exact ⟨b, off, c, hv, hB, hp, fun j hj => (hb.cell (p := ⟨b, off + j, none⟩) hB).trans (hc j hj)⟩
theorem Part.more {w : World} {B B' : Nat} {v : Value} {zs : List Int} (h : Part w B v zs) (hb : B ≤ B') : Part w B' v zs := by
  obtain ⟨b, off, c, hv, hB, hp, hc⟩ := h
  exact ⟨b, off, c, hv, by omega, hp, hc⟩
/-- The cells of a part, as an append asks for them. -/
theorem part_news {w : World} {b off : Nat} {zs : List Int} (hc : ∀ j, j < zs.length → w.cell? ⟨b, off + j, none⟩ = some (.int .i64 (zs.getD j 0))) : ∀ j u, (zs.map (Value.int .i64))[j]? = some u → w.cell? ((⟨b, off, none⟩ : Addr).add j) = some u := by
  intro j u hu
  have hj : j < zs.length := by
    rcases Nat.lt_or_ge j zs.length with h | h
    · exact h
    · rw [List.getElem?_eq_none (by simpa using h)] at hu; cases hu
  have e : (⟨b, off, none⟩ : Addr).add j = ⟨b, off + j, none⟩ := by
    by_cases h0 : j = 0
    · subst h0; simp [Addr.add]
    · simp [Addr.add, h0]
  rw [e, hc j hj]
  simp [hj] at hu
  simp [List.getD, hj, hu]
theorem ints_one (zs : List Int) : ∀ u ∈ zs.map (Value.int .i64), u.oneCell' = true := by
  intro u hu
  obtain ⟨z, _, rfl⟩ := List.mem_map.1 hu
  rfl

theorem own_shape {w : World} {base n : Nat} {e : TypeId} {v : Value} {xs : List Value} (h : w.ownsRow base e 1 v n xs) : ∃ A c, v = .slice A n c := by
  rcases h.2 with ⟨rfl, rfl⟩ | ⟨g, cap, cur, rfl, _⟩
  · exact ⟨_, _, rfl⟩
  · exact ⟨_, _, rfl⟩

theorem own_cap {w : World} {base n c : Nat} {e : TypeId} {A : Option Addr} {xs : List Value} (h : w.ownsRow base e 1 (.slice A n c) n xs) : n ≤ c ∧ c ≤ maxLen := by
  rcases h.2 with ⟨hv, rfl⟩ | ⟨g, cap, cur, hv, hb, hh, hn, hc, hs, ht⟩
  · injection hv with a1 a2 a3
    subst a3
    exact ⟨Nat.zero_le _, Nat.zero_le _⟩
  · injection hv with a1 a2 a3
    subst a3
    exact ⟨hn, hc⟩
/-- What an append of a part to an empty row of the call's own leaves. -/
theorem app_news {w wa w2 : World} {e : TypeId} {v0 v2 : Value} {n2 : Nat} {ys : List Value} {zs : List Int} (HB1 : Hid (Below w.heap.size w wa)) (HO1 : Hid (wa.ownsRow w.heap.size e 1 v0 0 [])) (hown2 : w2.ownsRow w.heap.size e 1 v2 n2 ys) (hgrow2 : wa.grownBy w2 v0.ownBlock)
    (HJ : Hid (ys = zs.map (Value.int .i64))) (hl : n2 = zs.length) : ∃ A c, v2 = .slice A zs.length c ∧ Hid (w2.ownsRow w.heap.size e 1 (.slice A zs.length c) zs.length (zs.map (Value.int .i64))) ∧ Hid (Below w.heap.size w w2) := by
  subst hl
  have hb2' : Below w.heap.size w w2 := HB1.out.grown hgrow2 HB1.out.size (fun q hq => (HO1.out.lt q hq).1)
  obtain ⟨A2, c2, rfl⟩ := own_shape hown2
  rw [HJ.out] at hown2
  exact ⟨A2, c2, rfl, hown2, hb2'⟩

set_option maxHeartbeats 1000000 in
theorem clone_any (v : Value) (zs : List Int) (w : World) (hp : Part w w.heap.size v zs) (hz : zs.length ≤ 1000) :
    Calls Tryd.prog 57 #[v] w (Gives w zs) := by
  obtain ⟨i0, hi0, hz0, hz1, hz2⟩ := info_parts info_i64
  obtain ⟨b1, off1, c, rfl, hb1, hpos, hc1⟩ := hp
  have hnil : ∀ wx : World, (binOp .eql 22 (.slice (some ⟨b1, off1, none⟩) zs.length c) (.slice none 0 0)).run Tryd.prog wx = .ok (.bool false) wx := fun wx => Lib.run_eql_slice_nil wx 22 2 _ _ _ _ _ Tryd.underlying22
  have hb0 : Below w.heap.size w (w.alloc (.cells #[] 2)) := (Below.refl _ _).alloc (Nat.le_refl _) _
  have H0 := Lib.hid (World.ownsRow_made (e := 2) (base := w.heap.size) (size := 1) w #[] 0 (Nat.le_refl _) (by simp [maxLen]) rfl)
  have HN1 : Hid (∀ j u, (zs.map (Value.int .i64))[j]? = some u → (w.alloc (.cells #[] 2)).cell? ((⟨b1, off1, none⟩ : Addr).add j) = some u) := Lib.hid (part_news (fun j hj => (hb0.cell (p := ⟨b1, off1 + j, none⟩) hb1).trans (hc1 j hj)))
  have HB0 := Lib.hid hb0
  have HL1 : Hid ((zs.map (Value.int .i64)).length = zs.length * 1) := Lib.hid (by simp)
  have HHO := Lib.hid (ints_one zs)
  have HM1 : Hid (0 + zs.length ≤ maxLen) := Lib.hid (by unfold maxLen; omega)
  have HS1 : Hid ((0 + zs.length) * 8 ≤ 140737488355328) := Lib.hid (by omega)
  have HJ : Hid ([] ++ zs.map (Value.int .i64) = zs.map (Value.int .i64)) := Lib.hid (by simp)
  have HI := Lib.hid hi0; have HZ0 := Lib.hid hz0; have HZ1 := Lib.hid hz1; have HZ2 := Lib.hid hz2
  have HLL : Hid (0 + zs.length = zs.length) := Lib.hid (by omega)
  clear hb0 hc1 hi0 hz0 hz1 hz2
  go_enter Tryd.func57, Tryd.ntmps57
  go_wp2_with (at_builtin; refine wpList_append_own _ rfl _ _ 22 rfl w.heap.size 2 i0 (.int .i64 0) 1 8 Tryd.underlying22 HI.out HZ0.out HZ1.out HZ2.out rfl (by decide) _ _ _ rfl H0.out ⟨b1, off1, none⟩ zs.length c (zs.map (Value.int .i64)) rfl HL1.out HN1.out HHO.out HM1.out HS1.out HB0.out.size ?_; intro v2 w2 hown2 hgrow2 _; obtain ⟨A2, c2, rfl, HO2, HB2⟩ := app_news HB0 H0 hown2 hgrow2 HJ HLL.out; clear hown2 hgrow2)
  go_ret
  exact ⟨_, _, rfl, HO2.out, HB2.out⟩

set_option maxHeartbeats 1000000 in
theorem copyInts_any (v : Value) (zs : List Int) (w : World) (hp : Part w w.heap.size v zs) (hz : zs.length ≤ 1000) :
    Calls Tryd.prog 28 #[v] w (Gives w zs) := by
  obtain ⟨i0, hi0, hz0, hz1, hz2⟩ := info_parts info_i64
  obtain ⟨b1, off1, c, rfl, hb1, hpos, hc1⟩ := hp
  have hb0 : Below w.heap.size w (w.alloc (.cells #[] 2)) := (Below.refl _ _).alloc (Nat.le_refl _) _
  have H0 := Lib.hid (World.ownsRow_made (e := 2) (base := w.heap.size) (size := 1) w #[] 0 (Nat.le_refl _) (by simp [maxLen]) rfl)
  have HN1 : Hid (∀ j u, (zs.map (Value.int .i64))[j]? = some u → (w.alloc (.cells #[] 2)).cell? ((⟨b1, off1, none⟩ : Addr).add j) = some u) := Lib.hid (part_news (fun j hj => (hb0.cell (p := ⟨b1, off1 + j, none⟩) hb1).trans (hc1 j hj)))
  have HB0 := Lib.hid hb0
  have HL1 : Hid ((zs.map (Value.int .i64)).length = zs.length * 1) := Lib.hid (by simp)
  have HHO := Lib.hid (ints_one zs)
  have HM1 : Hid (0 + zs.length ≤ maxLen) := Lib.hid (by unfold maxLen; omega)
  have HS1 : Hid ((0 + zs.length) * 8 ≤ 140737488355328) := Lib.hid (by omega)
  have HJ : Hid ([] ++ zs.map (Value.int .i64) = zs.map (Value.int .i64)) := Lib.hid (by simp)
  have HI := Lib.hid hi0; have HZ0 := Lib.hid hz0; have HZ1 := Lib.hid hz1; have HZ2 := Lib.hid hz2
  have HLL : Hid (0 + zs.length = zs.length) := Lib.hid (by omega)
  clear hb0 hc1 hi0 hz0 hz1 hz2
  go_enter Tryd.func28, Tryd.ntmps28
  go_wp2_with (at_builtin; refine wpList_append_own _ rfl _ _ 22 rfl w.heap.size 2 i0 (.int .i64 0) 1 8 Tryd.underlying22 HI.out HZ0.out HZ1.out HZ2.out rfl (by decide) _ _ _ rfl H0.out ⟨b1, off1, none⟩ zs.length c (zs.map (Value.int .i64)) rfl HL1.out HN1.out HHO.out HM1.out HS1.out HB0.out.size ?_; intro v2 w2 hown2 hgrow2 _; obtain ⟨A2, c2, rfl, HO2, HB2⟩ := app_news HB0 H0 hown2 hgrow2 HJ HLL.out; clear hown2 hgrow2)
  go_ret
  exact ⟨_, _, rfl, HO2.out, HB2.out⟩
end
section
open Go.RowKit
end
section
open Go.RowKit

theorem cell_new1 (w : World) (cs : Array Value) (t : TypeId) (i : Nat) : (w.alloc (.cells cs t)).cell? ⟨w.heap.size, i, none⟩ = cs[i]? := cell_of_row _ _ i cs t (0, 0) (heap_alloc_new w _)

theorem givesB_nil (w : World) : GivesB w [] false (.returned (.tuple #[.slice none 0 0, .bool false])) w := ⟨_, _, rfl, World.ownsRow_nil _ _ _ _, Below.refl _ _⟩

/-- What the first append leaves, as the second asks for it. -/
theorem second_news {w wa w1 : World} {e : TypeId} {v0 v1 : Value} {n0 n1 b2 off2 : Nat} {xs ys xb : List Value} {b : List Int} (HB0 : Hid (Below w.heap.size w wa)) (H0 : wa.ownsRow w.heap.size e 1 v0 n0 xs) (hown1 : w1.ownsRow w.heap.size e 1 v1 n1 ys) (hgrow1 : wa.grownBy w1 v0.ownBlock)
    (HC2 : Hid (∀ j, j < b.length → w.cell? ⟨b2, off2 + j, none⟩ = some (.int .i64 (b.getD j 0)))) (HBS : Hid (b.map (Value.int .i64) = xb)) (hb2 : b2 < w.heap.size) :
    Hid (w1.ownsRow w.heap.size e 1 v1 n1 ys) ∧ Hid (Below w.heap.size w w1) ∧ Hid (∀ j u, xb[j]? = some u → w1.cell? ((⟨b2, off2, none⟩ : Addr).add j) = some u) := by
  have hb1' : Below w.heap.size w w1 := HB0.out.grown hgrow1 HB0.out.size (fun q hq => (H0.lt q hq).1)
  refine ⟨hown1, hb1', ?_⟩
  have := part_news (w := w1) (b := b2) (off := off2) (zs := b) (fun j hj => (hb1'.cell (p := ⟨b2, off2 + j, none⟩) hb2).trans (HC2.out j hj))
  rw [HBS.out] at this
  exact this
theorem last_news {w w1 w2 : World} {e : TypeId} {v1 v2 : Value} {n1 n2 : Nat} {xs ys : List Value} {J : List Int} (HB1 : Hid (Below w.heap.size w w1)) (HO1 : Hid (w1.ownsRow w.heap.size e 1 v1 n1 xs)) (hown2 : w2.ownsRow w.heap.size e 1 v2 n2 ys) (hgrow2 : w1.grownBy w2 v1.ownBlock)
    (HJ : Hid (ys = J.map (Value.int .i64))) (HL : Hid (J.length = n2)) :
    ∃ A c, v2 = .slice A n2 c ∧ Hid (w2.ownsRow w.heap.size e 1 (.slice A J.length c) J.length (J.map (Value.int .i64))) ∧ Hid (Below w.heap.size w w2) := by
  have hb2' : Below w.heap.size w w2 := HB1.out.grown hgrow2 HB1.out.size (fun q hq => (HO1.out.lt q hq).1)
  obtain ⟨A2, c2, rfl⟩ := own_shape hown2
  rw [HJ.out] at hown2
  refine ⟨A2, c2, rfl, ?_, hb2'⟩
  rw [HL.out]
  exact hown2

set_option maxHeartbeats 1000000 in
theorem sjoined_any (op : Int) (A : Option Addr) (n c : Nat) (a : List Int) (B : Option Addr) (m d : Nat) (b : List Int) (w : World) (h : RdI w w.heap.size A n a) (h' : RdI w w.heap.size B m b) (hn0 : 0 < n) (hm0 : 0 < m) (hn : n ≤ 1000) (hm : m ≤ 1000) :
    Calls Tryd.prog 71 #[.int .i64 op, .slice A n c, .slice B m d] w (Gives w (op :: (a ++ b))) := by
  obtain ⟨i0, hi0, hz0, hz1, hz2⟩ := info_parts info_i64
  have hl := h.len
  have hl' := h'.len
  subst hl hl'
  obtain ⟨b1, off1, rfl, hb1, hc1⟩ := h.2 hn0
  obtain ⟨b2, off2, rfl, hb2, hc2⟩ := h'.2 hm0
  have H0 := World.ownsRow_lit (base := w.heap.size) (e := 2) (size := 1) w #[.int .i64 op] 1 (Nat.le_refl _) (by simp [maxLen]) rfl
  have hb0 : Below w.heap.size w (w.alloc (.cells #[.int .i64 op] 2)) := (Below.refl _ _).alloc (Nat.le_refl _) _
  have hn1 : ∀ j u, (a.map (Value.int .i64))[j]? = some u → (w.alloc (.cells #[.int .i64 op] 2)).cell? ((⟨b1, off1, none⟩ : Addr).add j) = some u := part_news (fun j hj => (hb0.cell (p := ⟨b1, off1 + j, none⟩) hb1).trans (hc1 j hj))
  have HN1 := Lib.hid hn1
  have HJ : Hid (([Value.int .i64 op] ++ a.map (Value.int .i64)) ++ b.map (Value.int .i64) = (op :: (a ++ b)).map (Value.int .i64)) := Lib.hid (by simp)
  have HL : Hid ((op :: (a ++ b)).length = 1 + a.length + b.length) := Lib.hid (by simp; omega)
  have hlen1 : (a.map (Value.int .i64)).length = a.length * 1 := by simp
  have hlen2 : (b.map (Value.int .i64)).length = b.length * 1 := by simp
  have HO := ints_one a
  have HO2 := ints_one b
  obtain ⟨xa, hxa⟩ : ∃ xa, a.map (Value.int .i64) = xa := ⟨_, rfl⟩
  obtain ⟨xb, hxb⟩ : ∃ xb, b.map (Value.int .i64) = xb := ⟨_, rfl⟩
  rw [hxa] at HN1 HJ hlen1 HO
  rw [hxb] at HJ hlen2 HO2
  have HBS := Lib.hid hxb
  have HHO := Lib.hid HO; have HHO2 := Lib.hid HO2; have HL1 := Lib.hid hlen1; have HL2 := Lib.hid hlen2
  have HC2 := Lib.hid hc2
  obtain ⟨J, hJ⟩ : ∃ J, op :: (a ++ b) = J := ⟨_, rfl⟩
  rw [hJ] at HJ HL ⊢
  clear hn1 hxa hxb hJ HO HO2 hlen1 hlen2 hc1 hc2 h h'
  go_enter Tryd.func71, Tryd.ntmps71
  have hM1 : 1 + a.length ≤ maxLen := by unfold maxLen; omega
  have hM2 : 1 + a.length + b.length ≤ maxLen := by unfold maxLen; omega
  have hS1 : (1 + a.length) * 8 ≤ 140737488355328 := by omega
  have hS2 : (1 + a.length + b.length) * 8 ≤ 140737488355328 := by omega
  have HM1 := Lib.hid hM1; have HM2 := Lib.hid hM2; have HS1 := Lib.hid hS1; have HS2 := Lib.hid hS2; have HB0 := Lib.hid hb0
  have HI := Lib.hid hi0; have HZ0 := Lib.hid hz0; have HZ1 := Lib.hid hz1; have HZ2 := Lib.hid hz2
  clear hM1 hM2 hS1 hS2 hb0 hi0 hz0 hz1 hz2
  go_wp2_with (first
    | (at_builtin; refine wpList_append_own _ rfl (.tmp 8) (.tmp 9) 22 rfl w.heap.size 2 i0 (.int .i64 0) 1 8 Tryd.underlying22 HI.out HZ0.out HZ1.out HZ2.out rfl (by decide) _ _ _ rfl H0 ⟨b1, off1, none⟩ a.length c xa rfl HL1.out HN1.out HHO.out HM1.out HS1.out HB0.out.size ?_; intro v1 w1 hown1 hgrow1 _; obtain ⟨HO1, HB1, HN2⟩ := second_news HB0 H0 hown1 hgrow1 HC2 HBS hb2; clear hown1 hgrow1)
    | (at_builtin; refine wpList_append_own _ rfl (.tmp 10) (.tmp 11) 22 rfl w.heap.size 2 i0 (.int .i64 0) 1 8 Tryd.underlying22 HI.out HZ0.out HZ1.out HZ2.out rfl (by decide) _ _ _ rfl HO1.out ⟨b2, off2, none⟩ b.length d xb rfl HL2.out HN2.out HHO2.out HM2.out HS2.out HB1.out.size ?_; intro v2 w2 hown2 hgrow2 _; obtain ⟨A2, c2, rfl, HO2, HB2⟩ := last_news HB1 HO1 hown2 hgrow2 HJ HL; clear hown2 hgrow2))
  go_ret
  exact ⟨_, _, by rw [HL.out]; rfl, HO2.out, HB2.out⟩
end
end Go.Proofs.YtjdmcpaolhnejaaDoor
