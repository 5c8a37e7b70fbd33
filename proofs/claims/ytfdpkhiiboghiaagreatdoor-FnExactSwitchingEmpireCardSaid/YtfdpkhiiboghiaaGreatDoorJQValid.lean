/- FormEnd and ValidForm: of the program and of the model. ValidForm of the program; FormEnd and ValidForm of the model. The library's slices.Grow, slices.Concat and slices.Clone as the program calls them, and the model's copyInts: what each leaves. slices.Clone as the program calls it, and the model's copyInts: what each leaves. -/
import Derived.Test.YtfdpkhiiboghiaaGreatDoorJQMath
import Derived.Deep.LoopGhost
import Derived.WalkMore
import Derived.Lib.AppendZerosOnto
import Derived.Lib.SliceRun
import Derived.Lib.Walk
import Derived.Deep.Matrix
namespace Go.Proofs.YtfdpkhiiboghiaaGreatDoor
set_option linter.unusedSimpArgs false
set_option linter.unusedVariables false
section
open Go.RowKit

theorem ret_i64 {a b : Int} (h : a = b) : Ending.returned (.int .i64 a) = .returned (.int .i64 b) := by rw [h]

/-- What the scan still has to do, k symbols behind the first. -/
def Rem (f : List Int) (k0 k : Nat) (m : Int) : Prop := scan (f.drop k0) 1 k0 = scan (f.drop (k0 + k)) m ((k0 + k : Nat) : Int)
theorem Rem.start (f : List Int) (k0 : Nat) : Rem f k0 0 1 := rfl
theorem Rem.out_ {f : List Int} {k0 k : Nat} {m : Int} (h : Rem f k0 k m) (hk : ¬ k0 + k < f.length) : scan (f.drop k0) 1 k0 = -1 := by
  rw [h, List.drop_eq_nil_of_le (by omega)]; rfl
theorem Rem.bad {f : List Int} {k0 k : Nat} {m : Int} (h : Rem f k0 k m) (hk : k0 + k < f.length) (ha : arZ (f.getD (k0 + k) 0) = -1) : scan (f.drop k0) 1 k0 = -1 := by
  rw [h, drop_cons hk, scan_bad _ _ _ ha]
theorem Rem.end_ {f : List Int} {k0 k : Nat} {m : Int} (h : Rem f k0 k m) (hk : k0 + k < f.length) (ha : 0 ≤ arZ (f.getD (k0 + k) 0)) (hm : m + arZ (f.getD (k0 + k) 0) = 1) : scan (f.drop k0) 1 k0 = k0 + k + 1 := by
  rw [h, drop_cons hk, scan_end _ _ _ ha hm]; omega
theorem Rem.on {f : List Int} {k0 k : Nat} {m : Int} (h : Rem f k0 k m) (hk : k0 + k < f.length) (ha : 0 ≤ arZ (f.getD (k0 + k) 0)) (hm : m + arZ (f.getD (k0 + k) 0) ≠ 1) : Rem f k0 (k + 1) (m + arZ (f.getD (k0 + k) 0) - 1) := by
  unfold Rem
  rw [h, drop_cons hk, scan_on _ _ _ ha hm]
  have e : ((k0 + k : Nat) : Int) + 1 = ((k0 + (k + 1) : Nat) : Int) := by omega
  rw [e]; rfl

set_option maxHeartbeats 1000000 in
theorem formEnd_in (A : Option Addr) (c k0 : Nat) (f : List Int) (w : World) (h : RdI w w.heap.size A f.length f) (ht : Arit w) (hnc : f.length ≤ c) (h24 : f.length ≤ 24) (hk0 : k0 < f.length) :
    Calls Tryz.prog 212 #[.slice A f.length c, .int .i64 k0] w fun e w' => e = .returned (.int .i64 (feI f k0)) ∧ w = w' := by
  have HF := Lib.hid (feI_small (a := k0) h24)
  have HG := Lib.hid (fe_nat hk0)
  obtain ⟨b, off, rfl, hbb, hcells⟩ := h.2 (by omega)
  have hck : ¬ c = k0 := by omega
  have HC := Lib.hid hcells
  clear hcells h
  have hd1 : decide (24 < (f.length : Int)) = false := by simp; omega
  have hd2 : decide ((k0 : Int) < 0) = false := by simp
  have hd3 : decide (f.length ≤ k0) = false := by simp; omega
  go_enter Tryz.func212, Tryz.ntmps212
  go_wp2
  go_step3
  go_wp2
  go_step3
  go_wp2
  go_loop [5, 25] (fun v5 v25 => ∃ (k : Nat) (m : Int), k0 + k ≤ f.length ∧ v25 = .int .i64 k ∧ v5 = .int .i64 m ∧ 1 ≤ m ∧ m ≤ k + 1 ∧ Rem f k0 k m) (fun _ v25 => f.length - (intOf v25).toNat)
  case atStart => exact ⟨0, 1, by omega, rfl, rfl, by omega, by omega, Rem.start f k0⟩
  case round =>
    obtain ⟨k, m, hk, rfl, rfl, hm1, hm2, hr⟩ := hrel
    by_cases hlt : k0 + k < f.length
    · have hc : w.cell? ⟨b, off + k0 + k, none⟩ = some (.int .i64 (f.getD (k0 + k) 0)) := by rw [Nat.add_assoc]; exact HC.out _ hlt
      have hR1 := hr.bad hlt
      have hR2 := hr.end_ hlt
      have hR3 := hr.on hlt
      generalize f.getD (k0 + k) 0 = x at hc hR1 hR2 hR3
      rcases arZ_cases x with ha | ha | ha | ha
      · have HR := Lib.hid (hR1 ha)
        clear hR1 hR2 hR3 hr
        go_wp2_with (go_at_call 221; refine (arityOf_any x _ ht).mono ?_; rintro e w' ⟨rfl, rfl⟩)
        rw [Exit.noGoto_ret]
        go_ret
        exact ⟨ret_i64 (by rw [HF.out, HG.out, HR.out]), rfl⟩
      · by_cases hm : m = 1
        · subst hm
          have HR := Lib.hid (hR2 (by omega) (by omega))
          clear hR1 hR2 hR3 hr
          go_wp2_with (go_at_call 221; refine (arityOf_any x _ ht).mono ?_; rintro e w' ⟨rfl, rfl⟩)
          rw [Exit.noGoto_ret]
          go_ret
          exact ⟨ret_i64 (by rw [HF.out, HG.out, HR.out]), rfl⟩
        · have HR := Lib.hid (hR3 (by omega) (by omega))
          have hne : (m - 1 == 0) = false := by simp; omega
          clear hR1 hR2 hR3 hr
          go_wp2_with (go_at_call 221; refine (arityOf_any x _ ht).mono ?_; rintro e w' ⟨rfl, rfl⟩)
          go_round
          case rel => exact ⟨k + 1, m - 1, by omega, by go_num, by go_num, by omega, by omega, by have := HR.out; rw [ha] at this; simpa using this⟩
          case measure => simp [intOf]; omega
      · have HR := Lib.hid (hR3 (by omega) (by omega))
        clear hR1 hR2 hR3 hr
        go_wp2_with (go_at_call 221; refine (arityOf_any x _ ht).mono ?_; rintro e w' ⟨rfl, rfl⟩)
        go_round
        case rel => exact ⟨k + 1, m, by omega, by go_num, by go_num, by omega, by omega, by have := HR.out; rw [ha] at this; simpa using this⟩
        case measure => simp [intOf]; omega
      · have HR := Lib.hid (hR3 (by omega) (by omega))
        clear hR1 hR2 hR3 hr
        go_wp2_with (go_at_call 221; refine (arityOf_any x _ ht).mono ?_; rintro e w' ⟨rfl, rfl⟩)
        go_round
        case rel => exact ⟨k + 1, m + 1, by omega, by go_num, by go_num, by omega, by omega, by have := HR.out; rw [ha] at this; have e : m + 2 - 1 = m + 1 := by omega
                                                                                                rw [e] at this; exact this⟩
        case measure => simp [intOf]; omega
    · have HR := Lib.hid (hr.out_ hlt)
      clear hr
      go_wp2
      go_ret
      exact ⟨ret_i64 (by rw [HF.out, HG.out, HR.out]), rfl⟩

set_option maxHeartbeats 1000000 in
theorem formEnd_late (A : Option Addr) (c : Nat) (f : List Int) (at_ : Int) (w : World) (h24 : f.length ≤ 24) (h0 : 0 ≤ at_) (h1 : (f.length : Int) ≤ at_) :
    Calls Tryz.prog 212 #[.slice A f.length c, .int .i64 at_] w fun e w' => e = .returned (.int .i64 (feI f at_)) ∧ w = w' := by
  have HF : Hid (feI f at_ = -1) := Lib.hid (by rw [feI_small h24, fe_out (by omega)])
  have hd1 : decide (24 < (f.length : Int)) = false := by simp; omega
  have hd2 : decide (at_ < 0) = false := by simp; omega
  have hd3 : decide ((f.length : Int) ≤ at_) = true := by simp; omega
  go_enter Tryz.func212, Tryz.ntmps212
  go_wp2
  go_step3
  go_wp2
  rw [Exit.noGoto_ret]
  go_ret
  exact ⟨ret_i64 HF.out.symm, rfl⟩

set_option maxHeartbeats 1000000 in
theorem formEnd_neg (A : Option Addr) (c : Nat) (f : List Int) (at_ : Int) (w : World) (h24 : f.length ≤ 24) (h0 : at_ < 0) :
    Calls Tryz.prog 212 #[.slice A f.length c, .int .i64 at_] w fun e w' => e = .returned (.int .i64 (feI f at_)) ∧ w = w' := by
  have HF : Hid (feI f at_ = -1) := Lib.hid (by rw [feI_small h24, fe_out (by omega)])
  have hd1 : decide (24 < (f.length : Int)) = false := by simp; omega
  have hd2 : decide (at_ < 0) = true := by simp; omega
  go_enter Tryz.func212, Tryz.ntmps212
  go_wp2
  go_step3
  go_wp2
  rw [Exit.noGoto_ret]
  go_ret
  exact ⟨ret_i64 HF.out.symm, rfl⟩

set_option maxHeartbeats 1000000 in
theorem formEnd_long (A : Option Addr) (c : Nat) (f : List Int) (at_ : Int) (w : World) (h24 : ¬ f.length ≤ 24) :
    Calls Tryz.prog 212 #[.slice A f.length c, .int .i64 at_] w fun e w' => e = .returned (.int .i64 (feI f at_)) ∧ w = w' := by
  have HF : Hid (feI f at_ = -1) := Lib.hid (by rw [feI_big h24])
  have hd1 : decide (24 < (f.length : Int)) = true := by simp; omega
  go_enter Tryz.func212, Tryz.ntmps212
  go_wp2
  go_step3
  go_wp2
  rw [Exit.noGoto_ret]
  go_ret
  exact ⟨ret_i64 HF.out.symm, rfl⟩

theorem formEnd_impl (A : Option Addr) (n c : Nat) (f : List Int) (at_ : Int) (w : World) (h : RdI w w.heap.size A n f) (ht : Arit w) (hnc : n ≤ c) :
    Calls Tryz.prog 212 #[.slice A n c, .int .i64 at_] w fun e w' => e = .returned (.int .i64 (feI f at_)) ∧ w = w' := by
  have hl := h.len
  subst hl
  by_cases h24 : f.length ≤ 24
  · by_cases h0 : 0 ≤ at_
    · by_cases h1 : at_ < f.length
      · obtain ⟨k0, rfl⟩ : ∃ k : Nat, at_ = k := ⟨at_.toNat, by omega⟩
        exact formEnd_in A c k0 f w h ht hnc h24 (by omega)
      · exact formEnd_late A c f at_ w h24 h0 (by omega)
    · exact formEnd_neg A c f at_ w h24 (by omega)
  · exact formEnd_long A c f at_ w h24

theorem validB_eq (f : List Int) : (feI f 0 == (f.length : Int)) = validB f := by
  rw [Bool.eq_iff_iff]; simp [validB]
theorem ret_bool {a b : Bool} (h : a = b) : Ending.returned (.bool a) = .returned (.bool b) := by rw [h]

set_option maxHeartbeats 400000 in
theorem validForm_impl (A : Option Addr) (n c : Nat) (f : List Int) (w : World) (h : RdI w w.heap.size A n f) (ht : Arit w) (hnc : n ≤ c) :
    Calls Tryz.prog 193 #[.slice A n c] w fun e w' => e = .returned (.bool (validB f)) ∧ w = w' := by
  have hl := h.len
  subst hl
  have HV := Lib.hid (validB_eq f)
  go_enter Tryz.func193, Tryz.ntmps193
  go_wp2_with (go_at_call 212; refine (formEnd_impl _ _ _ f _ _ h ht hnc).mono ?_; rintro e w' ⟨rfl, rfl⟩; generalize feI f 0 = z at HV)
  go_ret
  exact ⟨ret_bool HV.out, rfl⟩

/-- What the model's scan still has to do. -/
def RemS (f : List Int) (k0 k : Nat) (m : Int) : Prop := (m = 0 → scan (f.drop k0) 1 k0 = ((k0 + k : Nat) : Int)) ∧ (1 ≤ m → Rem f k0 k m)
theorem RemS.start (f : List Int) (k0 : Nat) : RemS f k0 0 1 := ⟨fun h => by omega, fun _ => Rem.start f k0⟩
theorem RemS.done {f : List Int} {k0 k : Nat} (h : RemS f k0 k 0) : scan (f.drop k0) 1 k0 = ((k0 + k : Nat) : Int) := h.1 rfl
theorem RemS.on {f : List Int} {k0 k : Nat} {m : Int} (h : RemS f k0 k m) (hm1 : 1 ≤ m) (hk : k0 + k < f.length) (ha : 0 ≤ arZ (f.getD (k0 + k) 0)) : RemS f k0 (k + 1) (m - 1 + arZ (f.getD (k0 + k) 0)) := by
  by_cases hm : m + arZ (f.getD (k0 + k) 0) = 1
  · refine ⟨fun _ => ?_, fun h1 => by omega⟩
    rw [(h.2 hm1).end_ hk ha hm]; omega
  · refine ⟨fun h1 => by omega, fun _ => ?_⟩
    have := (h.2 hm1).on hk ha hm
    have e : m + arZ (f.getD (k0 + k) 0) - 1 = m - 1 + arZ (f.getD (k0 + k) 0) := by omega
    rw [e] at this; exact this

theorem fe_any (f : List Int) (k : Nat) : fe f k = scan (f.drop k) 1 k := by
  by_cases h : k < f.length
  · exact fe_nat h
  · rw [fe_out (by omega), List.drop_eq_nil_of_le (by omega)]; rfl

set_option maxHeartbeats 1000000 in
theorem sformEnd_nat (A : Option Addr) (c k0 : Nat) (f : List Int) (w : World) (h : RdI w w.heap.size A f.length f) (hn : f.length ≤ 1048576) :
    Calls Tryz.prog 220 #[.slice A f.length c, .int .i64 k0] w fun e w' => e = .returned (.int .i64 (fe f k0)) ∧ w = w' := by
  have HG := Lib.hid (fe_any f k0)
  go_enter Tryz.func220, Tryz.ntmps220
  go_wp2
  go_loop [1, 5] (fun v1 v5 => ∃ (k : Nat) (m : Int), (k ≠ 0 → k0 + k ≤ f.length) ∧ v1 = .int .i64 ((k0 + k : Nat) : Int) ∧ v5 = .int .i64 m ∧ 0 ≤ m ∧ m ≤ k + 1 ∧ RemS f k0 k m) (fun v1 _ => f.length + 1 - (intOf v1).toNat)
  case atStart => exact ⟨0, 1, by omega, rfl, rfl, by omega, by omega, RemS.start f k0⟩
  case round =>
    obtain ⟨k, m, hk, rfl, rfl, hm1, hm2, hr⟩ := hrel
    by_cases hm : m = 0
    · subst hm
      have HR := Lib.hid hr.done
      clear hr
      go_wp2
      go_ret
      exact ⟨ret_i64 (HG.out.trans HR.out).symm, rfl⟩
    · have hm0 : 0 < m := by omega
      clear hm
      by_cases hlt : k0 + k < f.length
      · obtain ⟨b, off, rfl, hbb, hcells⟩ := h.2 (by omega)
        have hc : w.cell? ⟨b, off + (k0 + k), none⟩ = some (.int .i64 (f.getD (k0 + k) 0)) := hcells _ hlt
        have hR1 := (hr.2 (by omega)).bad hlt
        have hR3 := hr.on (by omega) hlt
        have hx := arZ_lo (f.getD (k0 + k) 0)
        have hy := arZ_hi (f.getD (k0 + k) 0)
        generalize f.getD (k0 + k) 0 = x at hc hR1 hR3 hx hy
        clear hcells
        by_cases ha : arZ x = -1
        · have HR := Lib.hid (hR1 ha)
          clear hR1 hR3 hr
          go_wp2_with (first | (go_at_call 86; refine (inRange_yes _ _ _ _ (by omega)).mono ?_; rintro e w' ⟨rfl, rfl⟩) | (go_at_call 223; refine (arity_any x _).mono ?_; rintro e w' ⟨rfl, rfl⟩))
          go_ret
          exact ⟨ret_i64 (HG.out.trans HR.out).symm, rfl⟩
        · have HR := Lib.hid (hR3 (by omega))
          have ha0 : 0 ≤ arZ x := by omega
          clear hR1 hR3 hr ha
          go_wp2_with (first | (go_at_call 86; refine (inRange_yes _ _ _ _ (by omega)).mono ?_; rintro e w' ⟨rfl, rfl⟩) | (go_at_call 223; refine (arity_any x _).mono ?_; rintro e w' ⟨rfl, rfl⟩))
          go_round
          case rel => exact ⟨k + 1, m - 1 + arZ x, by omega, by go_num, by go_num, by omega, by omega, HR.out⟩
          case measure => simp [intOf]; omega
      · have HR := Lib.hid ((hr.2 (by omega)).out_ hlt)
        clear hr
        go_wp2_with (go_at_call 86; refine (inRange_no _ _ _ _ (by omega)).mono ?_; rintro e w' ⟨rfl, rfl⟩)
        go_ret
        exact ⟨ret_i64 (HG.out.trans HR.out).symm, rfl⟩

set_option maxHeartbeats 400000 in
theorem sformEnd_neg (A : Option Addr) (c : Nat) (f : List Int) (at_ : Int) (w : World) (hn : f.length ≤ 1048576) (h0 : at_ < 0) :
    Calls Tryz.prog 220 #[.slice A f.length c, .int .i64 at_] w fun e w' => e = .returned (.int .i64 (fe f at_)) ∧ w = w' := by
  have HG : Hid (fe f at_ = -1) := Lib.hid (fe_out (by omega))
  go_enter Tryz.func220, Tryz.ntmps220
  go_wp2
  refine wp_loop_rounds 1 ?_
  rw [rounds_succ]
  go_wp2_with (go_at_call 86; refine (inRange_no _ _ _ _ (by omega)).mono ?_; rintro e w' ⟨rfl, rfl⟩)
  go_ret
  exact ⟨ret_i64 HG.out.symm, rfl⟩

theorem sformEnd_any (A : Option Addr) (n c : Nat) (f : List Int) (at_ : Int) (w : World) (h : RdI w w.heap.size A n f) (hn : n ≤ 1048576) :
    Calls Tryz.prog 220 #[.slice A n c, .int .i64 at_] w fun e w' => e = .returned (.int .i64 (fe f at_)) ∧ w = w' := by
  have hl := h.len
  subst hl
  by_cases h0 : 0 ≤ at_
  · obtain ⟨k0, rfl⟩ : ∃ k : Nat, at_ = k := ⟨at_.toNat, by omega⟩
    exact sformEnd_nat A c k0 f w h hn
  · exact sformEnd_neg A c f at_ w hn (by omega)

set_option maxHeartbeats 400000 in
theorem sFormEnd_any (A : Option Addr) (n c : Nat) (f : List Int) (at_ : Int) (w : World) (h : RdI w w.heap.size A n f) :
    Calls Tryz.prog 211 #[.slice A n c, .int .i64 at_] w fun e w' => e = .returned (.int .i64 (feI f at_)) ∧ w = w' := by
  have hl := h.len
  subst hl
  by_cases h24 : f.length ≤ 24
  · rw [feI_small h24]
    go_enter Tryz.func211, Tryz.ntmps211
    go_wp2_with (go_at_call 220; refine (sformEnd_any _ _ _ f _ _ h (by omega)).mono ?_; rintro e w' ⟨rfl, rfl⟩)
    go_ret
    exact ⟨rfl, rfl⟩
  · rw [feI_big h24]
    go_enter Tryz.func211, Tryz.ntmps211
    go_wp2
    go_ret
    exact ⟨rfl, rfl⟩

set_option maxHeartbeats 400000 in
theorem sValidForm_any (A : Option Addr) (n c : Nat) (f : List Int) (w : World) (h : RdI w w.heap.size A n f) :
    Calls Tryz.prog 189 #[.slice A n c] w fun e w' => e = .returned (.bool (validB f)) ∧ w = w' := by
  have hl := h.len
  subst hl
  have HV := Lib.hid (validB_eq f)
  by_cases h0 : 0 < f.length
  · have hd : decide (0 < (f.length : Int)) = true := by simpa using h0
    go_enter Tryz.func189, Tryz.ntmps189
    go_wp2_with (go_at_call 211; refine (sFormEnd_any _ _ _ f _ _ h).mono ?_; rintro e w' ⟨rfl, rfl⟩; generalize feI f 0 = z at HV)
    go_ret
    exact ⟨ret_bool HV.out, rfl⟩
  · have hf : validB f = false := by
      cases hb : validB f with
      | false => rfl
      | true => have := valid_len hb; omega
    rw [hf]
    clear HV hf
    have hd : decide (0 < (f.length : Int)) = false := decide_eq_false (by omega)
    go_enter Tryz.func189, Tryz.ntmps189
    go_wp2
    go_ret
    exact ⟨rfl, rfl⟩
end
section
open Go.RowKit

/-- A slice value that reads as a list with at least one number, its cells below block B. -/
def Part (w : World) (B : Nat) (v : Value) (zs : List Int) : Prop :=
  ∃ b off c, v = .slice (some ⟨b, off, none⟩) zs.length c ∧ b < B ∧ 0 < zs.length ∧ ∀ j, j < zs.length → w.cell? ⟨b, off + j, none⟩ = some (.int .i64 (zs.getD j 0))
theorem Part.below {w w' : World} {B : Nat} {v : Value} {zs : List Int} (h : Part w B v zs) (hb : Below B w w') : Part w' B v zs := by
  obtain ⟨b, off, c, hv, hB, hp, hc⟩ := h
  exact ⟨b, off, c, hv, hB, hp, fun j hj => (hb.cell (p := ⟨b, off + j, none⟩) hB).trans (hc j hj)⟩
theorem Part.more {w : World} {B B' : Nat} {v : Value} {zs : List Int} (h : Part w B v zs) (hb : B ≤ B') : Part w B' v zs := by
  obtain ⟨b, off, c, hv, hB, hp, hc⟩ := h
  exact ⟨b, off, c, hv, by omega, hp, hc⟩
theorem Part.of_rd {w : World} {B : Nat} {A : Option Addr} {n c : Nat} {zs : List Int} (h : RdI w B A n zs) (hn : 0 < n) : Part w B (.slice A n c) zs := by
  have hl := h.len
  subst hl
  obtain ⟨b, off, rfl, hb, hc⟩ := h.2 hn
  exact ⟨b, off, c, rfl, hb, hn, hc⟩
/-- The cells of a part, as an append asks for them. -/
theorem part_news {w : World} {b off : Nat} {zs : List Int} (hc : ∀ j, j < zs.length → w.cell? ⟨b, off + j, none⟩ = some (.int .i64 (zs.getD j 0))) : ∀ j u, (zs.map (Value.int .i64))[j]? = some u → w.cell? ((⟨b, off, none⟩ : Addr).add j) = some u := by
  intro j u hu
  have hj : j < zs.length := by
    rcases Nat.lt_or_ge j zs.length with h | h
    · exact h
    · rw [List.getElem?_eq_none (by simpa using h)] at hu; cases hu
  have e : (⟨b, off, none⟩ : Addr).add j = ⟨b, off + j, none⟩ := by
    by_cases h0 : j = 0
    · subst h0; simp [Addr.add]
    · simp [Addr.add, h0]
  rw [e, hc j hj]
  simp [hj] at hu
  simp [List.getD, hj, hu]
theorem ints_one (zs : List Int) : ∀ u ∈ zs.map (Value.int .i64), u.oneCell' = true := by
  intro u hu
  obtain ⟨z, _, rfl⟩ := List.mem_map.1 hu
  rfl

theorem own_shape {w : World} {base n : Nat} {e : TypeId} {v : Value} {xs : List Value} (h : w.ownsRow base e 1 v n xs) : ∃ A c, v = .slice A n c := by
  rcases h.2 with ⟨rfl, rfl⟩ | ⟨g, cap, cur, rfl, _⟩
  · exact ⟨_, _, rfl⟩
  · exact ⟨_, _, rfl⟩

/-- What slices.Grow(nil, n) leaves: an empty row of the call's own. -/
def Grew (w : World) (e : Ending) (w' : World) : Prop :=
  ∃ c, e = .returned (.slice (some ⟨w.heap.size, 0, none⟩) 0 c) ∧ w'.ownsRow w.heap.size 2 1 (.slice (some ⟨w.heap.size, 0, none⟩) 0 c) 0 [] ∧ Below w.heap.size w w'

set_option maxHeartbeats 1000000 in
theorem grow_nil (n : Nat) (w : World) (hn : 0 < n) (hm : n ≤ 1000) : Calls Tryz.prog 177 #[.slice none 0 0, .int .i64 n] w (Grew w) := by
  obtain ⟨i0, hi0, hz0, hz1, hz2⟩ := info_parts info_i64
  have hrz : ∀ ty, (Builtin.append_ #[24, 3] ty #[.slice none 0 0, .int .i64 n]).run Tryz.prog w =
      .ok (.slice (some ⟨w.heap.size, 0, none⟩) (0 + n) (grownCap w (0 + n) 0 2)) (w.drew.alloc (.cells (([] : List Value).toArray ++ Builtin.zeroCells (Value.int .i64 0).cells n ++ Builtin.zeroCells (Value.int .i64 0).cells (grownCap w (0 + n) 0 2 - (0 + n))) 2)) := fun ty =>
    Lib.run_append_grow_zeros w 24 3 ty 2 i0 (.int .i64 0) .i64 .i64 Tryz.underlying24 Tryz.underlying3 hi0 hz0 none 0 0 [] (run_firstCells_none w.drew i0.size 0 0 0) n hn (by rw [hz1]; decide) (by omega) (by omega) (by rw [hz2]; omega)
      (growslice_fits (by omega) (by rw [hz2]; omega))
  have hge : n ≤ grownCap w (0 + n) 0 2 := by have := grownCap_ge w (0 + n) 0 2; omega
  have hle : grownCap w (0 + n) 0 2 ≤ maxLen := grownCap_le_maxLen w _ _ _ (by unfold maxLen; omega)
  simp only [Nat.zero_add] at hrz hge hle
  obtain ⟨G, hG⟩ : ∃ G, grownCap w n 0 2 = G := ⟨_, rfl⟩
  rw [hG] at hrz hge hle
  obtain ⟨cur, hcur⟩ : ∃ cur, (([] : List Value).toArray ++ Builtin.zeroCells (Value.int .i64 0).cells n ++ Builtin.zeroCells (Value.int .i64 0).cells (G - n)) = cur := ⟨_, rfl⟩
  have hsize : cur.size = G * 1 := by
    rw [← hcur]; simp [size_zeroCells, Value.cells]; omega
  rw [hcur] at hrz
  have H1 := Lib.hid (World.ownsRow_made (e := 2) (base := w.heap.size) (size := 1) w.drew cur G (Nat.le_refl _) hle hsize)
  have H2 := Lib.hid ((Below.refl w.heap.size w).drew.alloc (Nat.le_refl _) (.cells cur 2))
  have hge0 : 0 < (n : Int) := by omega
  unfold maxLen at hle
  clear hG hcur hsize hz0 hz1 hz2 hi0
  go_enter Tryz.func177, Tryz.ntmps177
  go_wp2_with (at_builtin; refine Lib.wpList_append_run _ rfl _ _ _ _ rfl _ _ rfl rfl _ _ (hrz _) ?_)
  go_ret
  exact ⟨_, rfl, H1.out, H2.out⟩

/-- The first k parts, one behind the other. -/
def catL (ls : List (List Int)) (k : Nat) : List Int := (ls.take k).flatten
theorem catL_zero (ls : List (List Int)) : catL ls 0 = [] := by simp [catL]
theorem catL_step {ls : List (List Int)} {k : Nat} (h : k < ls.length) : catL ls (k + 1) = catL ls k ++ ls.getD k [] := by
  unfold catL
  rw [List.take_succ_eq_append_getElem h, List.flatten_append]
  simp [List.getD, h]
theorem catL_all (ls : List (List Int)) : catL ls ls.length = ls.flatten := by simp [catL]
theorem catL_le (ls : List (List Int)) (k : Nat) : (catL ls k).length ≤ ls.flatten.length := by
  unfold catL
  conv => rhs; rw [← List.take_append_drop k ls, List.flatten_append, List.length_append]
  omega
theorem catL_len_step {ls : List (List Int)} {k : Nat} (h : k < ls.length) : (catL ls (k + 1)).length = (catL ls k).length + (ls.getD k []).length := by
  rw [catL_step h, List.length_append]

theorem cat_push {w : World} {base : Nat} {v : Value} {ls : List (List Int)} {k : Nat} {zs : List Int} (hk : k < ls.length) (hz : ls.getD k [] = zs)
    (hown : w.ownsRow base 2 1 v ((catL ls k).length + zs.length) ((catL ls k).map (Value.int .i64) ++ zs.map (Value.int .i64))) :
    w.ownsRow base 2 1 v (catL ls (k + 1)).length ((catL ls (k + 1)).map (Value.int .i64)) := by
  subst hz
  rw [catL_step hk, List.length_append, List.map_append]
  exact hown

set_option maxHeartbeats 2000000 in
theorem concat_any (g m c : Nat) (vs : List Value) (ls : List (List Int)) (w : World) (hm : ls.length = m) (hm0 : 0 < m) (hmx : m ≤ 1000)
    (hcell : ∀ i, i < m → w.cell? ⟨g, i, none⟩ = some (vs.getD i undef)) (hgB : g < w.heap.size) (hpart : ∀ i, i < m → Part w w.heap.size (vs.getD i undef) (ls.getD i [])) (htot : ls.flatten.length ≤ 1000) :
    Calls Tryz.prog 149 #[.slice (some ⟨g, 0, none⟩) m c] w (Gives w ls.flatten) := by
  obtain ⟨i0, hi0, hz0, hz1, hz2⟩ := info_parts info_i64
  have HC := Lib.hid hcell; have HP := Lib.hid hpart
  have HM := Lib.hid hm
  have hle := catL_le ls
  have HLE := Lib.hid hle
  have hpos : 0 < ls.flatten.length := by
    obtain ⟨b, off, c', _, _, hp, _⟩ := hpart 0 hm0
    have h1 := catL_len_step (ls := ls) (k := 0) (by omega)
    have h2 := catL_le ls (0 + 1)
    omega
  have HT := Lib.hid (show (catL ls m).length = ls.flatten.length by rw [← hm, catL_all])
  obtain ⟨T, hT⟩ : ∃ T, ls.flatten.length = T := ⟨_, rfl⟩
  rw [hT] at HT HLE hpos htot
  have HTT := Lib.hid hT
  clear hcell hpart hle hm hT
  go_enter Tryz.func149, Tryz.ntmps149
  go_wp2
  go_loop [3, 11] (fun v3 v11 => ∃ k : Nat, k ≤ m ∧ v11 = .int .i64 k ∧ v3 = .int .i64 ((catL ls k).length : Nat)) (fun _ v11 => m - (intOf v11).toNat)
  case atStart => exact ⟨0, Nat.zero_le _, rfl, by simp [catL]⟩
  case round =>
    obtain ⟨k, hk, rfl, rfl⟩ := hrel
    by_cases hlt : k < m
    · have hc := HC.out k hlt
      obtain ⟨b, off, c', hv, hbb, hpz, hcells⟩ := HP.out k hlt
      rw [hv] at hc
      have hst := catL_len_step (ls := ls) (k := k) (by have := HM.out; omega)
      have h1 := HLE.out k
      have h2 := HLE.out (k + 1)
      have HS := Lib.hid hst
      have hbd : (catL ls k).length + (ls.getD k []).length ≤ 1000 := by omega
      clear hv hcells hst h2
      generalize (ls.getD k []).length = q at hc HS hpz hbd
      generalize (catL ls k).length = p at HS h1 hbd
      have hneg : ¬ ((p : Int) + (q : Int) < 0) := by omega
      go_wp2
      go_round
      case rel => exact ⟨k + 1, by omega, by go_num, by rw [HS.out]; go_num⟩
      case measure => simp [intOf]; omega
    · have hkm : m = k := by omega
      subst hkm
      rw [HT.out]
      go_wp2_with (go_at_call 177; refine (grow_nil T _ hpos htot).mono ?_; rintro e w1 ⟨c1, rfl, hown1, hb1⟩)
      have HO1 := Lib.hid hown1; have HB1 := Lib.hid hb1
      clear hown1 hb1
      go_loopw [6, 27] (fun v i wr => ∃ k : Nat, k ≤ m ∧ i = .int .i64 k ∧ wr.ownsRow w.heap.size 2 1 v (catL ls k).length ((catL ls k).map (Value.int .i64)) ∧ Below w.heap.size w wr) (fun _ i _ => m - (intOf i).toNat)
      case atStart => exact ⟨0, Nat.zero_le _, rfl, by rw [catL_zero]; exact HO1.out, HB1.out⟩
      case round =>
        obtain ⟨k, hk, rfl, hown, hb⟩ := hrel
        by_cases hkm : k < m
        · have hlt : k < ls.length := by have := HM.out; omega
          obtain ⟨b, off, c', hv, hbb, hpz, hcells⟩ := ((HP.out k hkm).below hb).more hb.size
          have hc := (hb.cell (p := ⟨g, k, none⟩) hgB).trans (HC.out k hkm)
          rw [hv] at hc
          have hst := catL_len_step hlt
          have h2 := HLE.out (k + 1)
          have hsz := hb.size
          obtain ⟨zs, hzs⟩ : ∃ zs, ls.getD k [] = zs := ⟨_, rfl⟩
          rw [hzs] at hc hpz hcells hst
          have HZ := Lib.hid hzs
          have hbd : (catL ls k).length + zs.length ≤ 1000 := by omega
          clear hv hst h2 hzs
          go_wp2_with (at_builtin; refine wpList_append_own _ rfl _ _ 24 rfl w.heap.size 2 i0 (.int .i64 0) 1 8 Tryz.underlying24 hi0 hz0 hz1 hz2 rfl (by decide) _ _ _ rfl hown ⟨b, off, none⟩ zs.length c' (zs.map (Value.int .i64)) rfl ?c0 ?c1 ?c2 ?c3 ?c4 ?c5 ?_)
          case c0 => simp
          case c1 => exact part_news hcells
          case c2 => exact ints_one zs
          case c3 => unfold maxLen; omega
          case c4 => omega
          case c5 => exact hsz
          intro v' w2 hown' hgrow _
          have hb2 := Lib.hid (hb.grown hgrow hsz (fun q hq => (hown.lt q hq).1))
          have hown2 := Lib.hid (cat_push hlt HZ.out hown')
          clear hown' hgrow hown hb hcells hc hlt
          go_wp2
          go_roundw
          case rel => exact ⟨k + 1, by omega, by go_num, hown2.out, hb2.out⟩
          case measure => simp [intOf]; omega
        · have hkl : m = k := by omega
          subst hkl
          obtain ⟨A1, c1', rfl⟩ := own_shape hown
          have HE : Hid ((catL ls m).length = ls.flatten.length) := Lib.hid (by rw [← HM.out, catL_all])
          have hown2 : wr.ownsRow w.heap.size 2 1 (.slice A1 ls.flatten.length c1') ls.flatten.length (ls.flatten.map (Value.int .i64)) := by
            have e : catL ls m = ls.flatten := by rw [← HM.out, catL_all]
            rw [e] at hown; exact hown
          have HS := Lib.hid hown2; have HB := Lib.hid hb
          clear hown hown2 hb
          go_wp2
          go_ret
          exact ⟨_, _, by rw [← HE.out]; rfl, HS.out, HB.out⟩

theorem own_more {w : World} {base base' n size : Nat} {e : TypeId} {v : Value} {xs : List Value} (h : w.ownsRow base' e size v n xs) (hB : base ≤ base') : w.ownsRow base e size v n xs := h.mono hB
/-- What an append of a part to an empty row of the call's own leaves. -/
theorem app_news {w wa w2 : World} {e : TypeId} {v0 v2 : Value} {n2 : Nat} {ys : List Value} {zs : List Int} (HB1 : Hid (Below w.heap.size w wa)) (HO1 : Hid (wa.ownsRow w.heap.size e 1 v0 0 [])) (hown2 : w2.ownsRow w.heap.size e 1 v2 n2 ys) (hgrow2 : wa.grownBy w2 v0.ownBlock)
    (HJ : Hid (ys = zs.map (Value.int .i64))) (hl : n2 = zs.length) : ∃ A c, v2 = .slice A zs.length c ∧ Hid (w2.ownsRow w.heap.size e 1 (.slice A zs.length c) zs.length (zs.map (Value.int .i64))) ∧ Hid (Below w.heap.size w w2) := by
  subst hl
  have hb2' : Below w.heap.size w w2 := HB1.out.grown hgrow2 HB1.out.size (fun q hq => (HO1.out.lt q hq).1)
  obtain ⟨A2, c2, rfl⟩ := own_shape hown2
  rw [HJ.out] at hown2
  exact ⟨A2, c2, rfl, hown2, hb2'⟩

set_option maxHeartbeats 1000000 in
theorem clone_any (v : Value) (zs : List Int) (w : World) (hp : Part w w.heap.size v zs) (hz : zs.length ≤ 1000) :
    Calls Tryz.prog 147 #[v] w (Gives w zs) := by
  obtain ⟨i0, hi0, hz0, hz1, hz2⟩ := info_parts info_i64
  obtain ⟨b1, off1, c, rfl, hb1, hpos, hc1⟩ := hp
  have hnil : ∀ wx : World, (binOp .eql 24 (.slice (some ⟨b1, off1, none⟩) zs.length c) (.slice none 0 0)).run Tryz.prog wx = .ok (.bool false) wx := fun wx => Lib.run_eql_slice_nil wx 24 2 _ _ _ _ _ Tryz.underlying24
  have hb0 : Below w.heap.size w (w.alloc (.cells #[] 2)) := (Below.refl _ _).alloc (Nat.le_refl _) _
  have H0 := Lib.hid (World.ownsRow_made (e := 2) (base := w.heap.size) (size := 1) w #[] 0 (Nat.le_refl _) (by simp [maxLen]) rfl)
  have HN1 : Hid (∀ j u, (zs.map (Value.int .i64))[j]? = some u → (w.alloc (.cells #[] 2)).cell? ((⟨b1, off1, none⟩ : Addr).add j) = some u) := Lib.hid (part_news (fun j hj => (hb0.cell (p := ⟨b1, off1 + j, none⟩) hb1).trans (hc1 j hj)))
  have HB0 := Lib.hid hb0
  have HL1 : Hid ((zs.map (Value.int .i64)).length = zs.length * 1) := Lib.hid (by simp)
  have HHO := Lib.hid (ints_one zs)
  have HM1 : Hid (0 + zs.length ≤ maxLen) := Lib.hid (by unfold maxLen; omega)
  have HS1 : Hid ((0 + zs.length) * 8 ≤ 140737488355328) := Lib.hid (by omega)
  have HJ : Hid ([] ++ zs.map (Value.int .i64) = zs.map (Value.int .i64)) := Lib.hid (by simp)
  have HI := Lib.hid hi0; have HZ0 := Lib.hid hz0; have HZ1 := Lib.hid hz1; have HZ2 := Lib.hid hz2
  have HLL : Hid (0 + zs.length = zs.length) := Lib.hid (by omega)
  clear hb0 hc1 hi0 hz0 hz1 hz2
  go_enter Tryz.func147, Tryz.ntmps147
  go_wp2_with (at_builtin; refine wpList_append_own _ rfl _ _ 24 rfl w.heap.size 2 i0 (.int .i64 0) 1 8 Tryz.underlying24 HI.out HZ0.out HZ1.out HZ2.out rfl (by decide) _ _ _ rfl H0.out ⟨b1, off1, none⟩ zs.length c (zs.map (Value.int .i64)) rfl HL1.out HN1.out HHO.out HM1.out HS1.out HB0.out.size ?_; intro v2 w2 hown2 hgrow2 _; obtain ⟨A2, c2, rfl, HO2, HB2⟩ := app_news HB0 H0 hown2 hgrow2 HJ HLL.out; clear hown2 hgrow2)
  go_ret
  exact ⟨_, _, rfl, HO2.out, HB2.out⟩
end
end Go.Proofs.YtfdpkhiiboghiaaGreatDoor
