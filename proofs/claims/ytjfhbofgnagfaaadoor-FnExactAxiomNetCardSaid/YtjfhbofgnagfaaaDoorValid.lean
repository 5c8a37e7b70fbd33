/- FormEnd and ValidForm: of the program and of the model. ValidForm of the program; FormEnd and ValidForm of the model. -/
import Derived.Test.YtjfhbofgnagfaaaDoorLeaf
import Derived.Test.YtjfhbofgnagfaaaDoorHelp
import Derived.Deep.LoopGhost
import Derived.WalkMore
namespace Go.Proofs.YtjfhbofgnagfaaaDoor
open Go.RowKit

theorem ret_i64 {a b : Int} (h : a = b) : Ending.returned (.int .i64 a) = .returned (.int .i64 b) := by rw [h]

/-- What the scan still has to do, k symbols behind the first. -/
def Rem (f : List Int) (k0 k : Nat) (m : Int) : Prop := scan (f.drop k0) 1 k0 = scan (f.drop (k0 + k)) m ((k0 + k : Nat) : Int)
theorem Rem.start (f : List Int) (k0 : Nat) : Rem f k0 0 1 := rfl
theorem Rem.out_ {f : List Int} {k0 k : Nat} {m : Int} (h : Rem f k0 k m) (hk : ¬ k0 + k < f.length) : scan (f.drop k0) 1 k0 = -1 := by
  rw [h, List.drop_eq_nil_of_le (by omega)]; rfl
theorem Rem.bad {f : List Int} {k0 k : Nat} {m : Int} (h : Rem f k0 k m) (hk : k0 + k < f.length) (ha : arZ (f.getD (k0 + k) 0) = -1) : scan (f.drop k0) 1 k0 = -1 := by
  rw [h, drop_cons hk, scan_bad _ _ _ ha]
theorem Rem.end_ {f : List Int} {k0 k : Nat} {m : Int} (h : Rem f k0 k m) (hk : k0 + k < f.length) (ha : 0 ≤ arZ (f.getD (k0 + k) 0)) (hm : m + arZ (f.getD (k0 + k) 0) = 1) : scan (f.drop k0) 1 k0 = k0 + k + 1 := by
  rw [h, drop_cons hk, scan_end _ _ _ ha hm]; omega
theorem Rem.on {f : List Int} {k0 k : Nat} {m : Int} (h : Rem f k0 k m) (hk : k0 + k < f.length) (ha : 0 ≤ arZ (f.getD (k0 + k) 0)) (hm : m + arZ (f.getD (k0 + k) 0) ≠ 1) : Rem f k0 (k + 1) (m + arZ (f.getD (k0 + k) 0) - 1) := by
  unfold Rem
  rw [h, drop_cons hk, scan_on _ _ _ ha hm]
  have e : ((k0 + k : Nat) : Int) + 1 = ((k0 + (k + 1) : Nat) : Int) := by omega
  rw [e]; rfl

set_option maxHeartbeats 1000000 in
theorem formEnd_in (A : Option Addr) (c k0 : Nat) (f : List Int) (w : World) (h : RdI w w.heap.size A f.length f) (ht : Arit w) (hnc : f.length ≤ c) (h24 : f.length ≤ 24) (hk0 : k0 < f.length) :
    Calls Tryd.prog 131 #[.slice A f.length c, .int .i64 k0] w fun e w' => e = .returned (.int .i64 (feI f k0)) ∧ w = w' := by
  have HF := Lib.hid (feI_small (a := k0) h24)
  have HG := Lib.hid (fe_nat hk0)
  obtain ⟨b, off, rfl, hbb, hcells⟩ := h.2 (by omega)
  have hck : ¬ c = k0 := by omega
  have HC := Lib.hid hcells
  clear hcells h
  have hd1 : decide (24 < (f.length : Int)) = false := by simp; omega
  have hd2 : decide ((k0 : Int) < 0) = false := by simp
  have hd3 : decide (f.length ≤ k0) = false := by simp; omega
  go_enter Tryd.func131, Tryd.ntmps131
  go_wp2
  go_step3
  go_wp2
  go_step3
  go_wp2
  go_loop [5, 25] (fun v5 v25 => ∃ (k : Nat) (m : Int), k0 + k ≤ f.length ∧ v25 = .int .i64 k ∧ v5 = .int .i64 m ∧ 1 ≤ m ∧ m ≤ k + 1 ∧ Rem f k0 k m) (fun _ v25 => f.length - (intOf v25).toNat)
  case atStart => exact ⟨0, 1, by omega, rfl, rfl, by omega, by omega, Rem.start f k0⟩
  case round =>
    obtain ⟨k, m, hk, rfl, rfl, hm1, hm2, hr⟩ := hrel
    by_cases hlt : k0 + k < f.length
    · have hc : w.cell? ⟨b, off + k0 + k, none⟩ = some (.int .i64 (f.getD (k0 + k) 0)) := by rw [Nat.add_assoc]; exact HC.out _ hlt
      have hR1 := hr.bad hlt
      have hR2 := hr.end_ hlt
      have hR3 := hr.on hlt
      generalize f.getD (k0 + k) 0 = x at hc hR1 hR2 hR3
      rcases arZ_cases x with ha | ha | ha | ha
      · have HR := Lib.hid (hR1 ha)
        clear hR1 hR2 hR3 hr
        go_wp2_with (go_at_call 147; refine (arityOf_any x _ ht).mono ?_; rintro e w' ⟨rfl, rfl⟩)
        rw [Exit.noGoto_ret]
        go_ret
        exact ⟨ret_i64 (by rw [HF.out, HG.out, HR.out]), rfl⟩
      · by_cases hm : m = 1
        · subst hm
          have HR := Lib.hid (hR2 (by omega) (by omega))
          clear hR1 hR2 hR3 hr
          go_wp2_with (go_at_call 147; refine (arityOf_any x _ ht).mono ?_; rintro e w' ⟨rfl, rfl⟩)
          rw [Exit.noGoto_ret]
          go_ret
          exact ⟨ret_i64 (by rw [HF.out, HG.out, HR.out]), rfl⟩
        · have HR := Lib.hid (hR3 (by omega) (by omega))
          have hne : (m - 1 == 0) = false := by simp; omega
          clear hR1 hR2 hR3 hr
          go_wp2_with (go_at_call 147; refine (arityOf_any x _ ht).mono ?_; rintro e w' ⟨rfl, rfl⟩)
          go_round
          case rel => exact ⟨k + 1, m - 1, by omega, by go_num, by go_num, by omega, by omega, by have := HR.out; rw [ha] at this; simpa using this⟩
          case measure => simp [intOf]; omega
      · have HR := Lib.hid (hR3 (by omega) (by omega))
        clear hR1 hR2 hR3 hr
        go_wp2_with (go_at_call 147; refine (arityOf_any x _ ht).mono ?_; rintro e w' ⟨rfl, rfl⟩)
        go_round
        case rel => exact ⟨k + 1, m, by omega, by go_num, by go_num, by omega, by omega, by have := HR.out; rw [ha] at this; simpa using this⟩
        case measure => simp [intOf]; omega
      · have HR := Lib.hid (hR3 (by omega) (by omega))
        clear hR1 hR2 hR3 hr
        go_wp2_with (go_at_call 147; refine (arityOf_any x _ ht).mono ?_; rintro e w' ⟨rfl, rfl⟩)
        go_round
        case rel => exact ⟨k + 1, m + 1, by omega, by go_num, by go_num, by omega, by omega, by have := HR.out; rw [ha] at this; have e : m + 2 - 1 = m + 1 := by omega
                                                                                                rw [e] at this; exact this⟩
        case measure => simp [intOf]; omega
    · have HR := Lib.hid (hr.out_ hlt)
      clear hr
      go_wp2
      go_ret
      exact ⟨ret_i64 (by rw [HF.out, HG.out, HR.out]), rfl⟩

set_option maxHeartbeats 1000000 in
theorem formEnd_late (A : Option Addr) (c : Nat) (f : List Int) (at_ : Int) (w : World) (h24 : f.length ≤ 24) (h0 : 0 ≤ at_) (h1 : (f.length : Int) ≤ at_) :
    Calls Tryd.prog 131 #[.slice A f.length c, .int .i64 at_] w fun e w' => e = .returned (.int .i64 (feI f at_)) ∧ w = w' := by
  have HF : Hid (feI f at_ = -1) := Lib.hid (by rw [feI_small h24, fe_out (by omega)])
  have hd1 : decide (24 < (f.length : Int)) = false := by simp; omega
  have hd2 : decide (at_ < 0) = false := by simp; omega
  have hd3 : decide ((f.length : Int) ≤ at_) = true := by simp; omega
  go_enter Tryd.func131, Tryd.ntmps131
  go_wp2
  go_step3
  go_wp2
  rw [Exit.noGoto_ret]
  go_ret
  exact ⟨ret_i64 HF.out.symm, rfl⟩

set_option maxHeartbeats 1000000 in
theorem formEnd_neg (A : Option Addr) (c : Nat) (f : List Int) (at_ : Int) (w : World) (h24 : f.length ≤ 24) (h0 : at_ < 0) :
    Calls Tryd.prog 131 #[.slice A f.length c, .int .i64 at_] w fun e w' => e = .returned (.int .i64 (feI f at_)) ∧ w = w' := by
  have HF : Hid (feI f at_ = -1) := Lib.hid (by rw [feI_small h24, fe_out (by omega)])
  have hd1 : decide (24 < (f.length : Int)) = false := by simp; omega
  have hd2 : decide (at_ < 0) = true := by simp; omega
  go_enter Tryd.func131, Tryd.ntmps131
  go_wp2
  go_step3
  go_wp2
  rw [Exit.noGoto_ret]
  go_ret
  exact ⟨ret_i64 HF.out.symm, rfl⟩

set_option maxHeartbeats 1000000 in
theorem formEnd_long (A : Option Addr) (c : Nat) (f : List Int) (at_ : Int) (w : World) (h24 : ¬ f.length ≤ 24) :
    Calls Tryd.prog 131 #[.slice A f.length c, .int .i64 at_] w fun e w' => e = .returned (.int .i64 (feI f at_)) ∧ w = w' := by
  have HF : Hid (feI f at_ = -1) := Lib.hid (by rw [feI_big h24])
  have hd1 : decide (24 < (f.length : Int)) = true := by simp; omega
  go_enter Tryd.func131, Tryd.ntmps131
  go_wp2
  go_step3
  go_wp2
  rw [Exit.noGoto_ret]
  go_ret
  exact ⟨ret_i64 HF.out.symm, rfl⟩

theorem formEnd_impl (A : Option Addr) (n c : Nat) (f : List Int) (at_ : Int) (w : World) (h : RdI w w.heap.size A n f) (ht : Arit w) (hnc : n ≤ c) :
    Calls Tryd.prog 131 #[.slice A n c, .int .i64 at_] w fun e w' => e = .returned (.int .i64 (feI f at_)) ∧ w = w' := by
  have hl := h.len
  subst hl
  by_cases h24 : f.length ≤ 24
  · by_cases h0 : 0 ≤ at_
    · by_cases h1 : at_ < f.length
      · obtain ⟨k0, rfl⟩ : ∃ k : Nat, at_ = k := ⟨at_.toNat, by omega⟩
        exact formEnd_in A c k0 f w h ht hnc h24 (by omega)
      · exact formEnd_late A c f at_ w h24 h0 (by omega)
    · exact formEnd_neg A c f at_ w h24 (by omega)
  · exact formEnd_long A c f at_ w h24

theorem validB_eq (f : List Int) : (feI f 0 == (f.length : Int)) = validB f := by
  rw [Bool.eq_iff_iff]; simp [validB]
theorem ret_bool {a b : Bool} (h : a = b) : Ending.returned (.bool a) = .returned (.bool b) := by rw [h]

set_option maxHeartbeats 400000 in
theorem validForm_impl (A : Option Addr) (n c : Nat) (f : List Int) (w : World) (h : RdI w w.heap.size A n f) (ht : Arit w) (hnc : n ≤ c) :
    Calls Tryd.prog 119 #[.slice A n c] w fun e w' => e = .returned (.bool (validB f)) ∧ w = w' := by
  have hl := h.len
  subst hl
  have HV := Lib.hid (validB_eq f)
  go_enter Tryd.func119, Tryd.ntmps119
  go_wp2_with (go_at_call 131; refine (formEnd_impl _ _ _ f _ _ h ht hnc).mono ?_; rintro e w' ⟨rfl, rfl⟩; generalize feI f 0 = z at HV)
  go_ret
  exact ⟨ret_bool HV.out, rfl⟩

/-- What the model's scan still has to do. -/
def RemS (f : List Int) (k0 k : Nat) (m : Int) : Prop := (m = 0 → scan (f.drop k0) 1 k0 = ((k0 + k : Nat) : Int)) ∧ (1 ≤ m → Rem f k0 k m)
theorem RemS.start (f : List Int) (k0 : Nat) : RemS f k0 0 1 := ⟨fun h => by omega, fun _ => Rem.start f k0⟩
theorem RemS.done {f : List Int} {k0 k : Nat} (h : RemS f k0 k 0) : scan (f.drop k0) 1 k0 = ((k0 + k : Nat) : Int) := h.1 rfl
theorem RemS.on {f : List Int} {k0 k : Nat} {m : Int} (h : RemS f k0 k m) (hm1 : 1 ≤ m) (hk : k0 + k < f.length) (ha : 0 ≤ arZ (f.getD (k0 + k) 0)) : RemS f k0 (k + 1) (m - 1 + arZ (f.getD (k0 + k) 0)) := by
  by_cases hm : m + arZ (f.getD (k0 + k) 0) = 1
  · refine ⟨fun _ => ?_, fun h1 => by omega⟩
    rw [(h.2 hm1).end_ hk ha hm]; omega
  · refine ⟨fun h1 => by omega, fun _ => ?_⟩
    have := (h.2 hm1).on hk ha hm
    have e : m + arZ (f.getD (k0 + k) 0) - 1 = m - 1 + arZ (f.getD (k0 + k) 0) := by omega
    rw [e] at this; exact this

theorem fe_any (f : List Int) (k : Nat) : fe f k = scan (f.drop k) 1 k := by
  by_cases h : k < f.length
  · exact fe_nat h
  · rw [fe_out (by omega), List.drop_eq_nil_of_le (by omega)]; rfl

set_option maxHeartbeats 1000000 in
theorem sformEnd_nat (A : Option Addr) (c k0 : Nat) (f : List Int) (w : World) (h : RdI w w.heap.size A f.length f) (hn : f.length ≤ 1048576) :
    Calls Tryd.prog 146 #[.slice A f.length c, .int .i64 k0] w fun e w' => e = .returned (.int .i64 (fe f k0)) ∧ w = w' := by
  have HG := Lib.hid (fe_any f k0)
  go_enter Tryd.func146, Tryd.ntmps146
  go_wp2
  go_loop [1, 5] (fun v1 v5 => ∃ (k : Nat) (m : Int), (k ≠ 0 → k0 + k ≤ f.length) ∧ v1 = .int .i64 ((k0 + k : Nat) : Int) ∧ v5 = .int .i64 m ∧ 0 ≤ m ∧ m ≤ k + 1 ∧ RemS f k0 k m) (fun v1 _ => f.length + 1 - (intOf v1).toNat)
  case atStart => exact ⟨0, 1, by omega, rfl, rfl, by omega, by omega, RemS.start f k0⟩
  case round =>
    obtain ⟨k, m, hk, rfl, rfl, hm1, hm2, hr⟩ := hrel
    by_cases hm : m = 0
    · subst hm
      have HR := Lib.hid hr.done
      clear hr
      go_wp2
      go_ret
      exact ⟨ret_i64 (HG.out.trans HR.out).symm, rfl⟩
    · have hm0 : 0 < m := by omega
      clear hm
      by_cases hlt : k0 + k < f.length
      · obtain ⟨b, off, rfl, hbb, hcells⟩ := h.2 (by omega)
        have hc : w.cell? ⟨b, off + (k0 + k), none⟩ = some (.int .i64 (f.getD (k0 + k) 0)) := hcells _ hlt
        have hR1 := (hr.2 (by omega)).bad hlt
        have hR3 := hr.on (by omega) hlt
        have hx := arZ_lo (f.getD (k0 + k) 0)
        have hy := arZ_hi (f.getD (k0 + k) 0)
        generalize f.getD (k0 + k) 0 = x at hc hR1 hR3 hx hy
        clear hcells
        by_cases ha : arZ x = -1
        · have HR := Lib.hid (hR1 ha)
          clear hR1 hR3 hr
          go_wp2_with (first | (go_at_call 98; refine (inRange_yes _ _ _ _ (by omega)).mono ?_; rintro e w' ⟨rfl, rfl⟩) | (go_at_call 154; refine (arity_any x _).mono ?_; rintro e w' ⟨rfl, rfl⟩))
          go_ret
          exact ⟨ret_i64 (HG.out.trans HR.out).symm, rfl⟩
        · have HR := Lib.hid (hR3 (by omega))
          have ha0 : 0 ≤ arZ x := by omega
          clear hR1 hR3 hr ha
          go_wp2_with (first | (go_at_call 98; refine (inRange_yes _ _ _ _ (by omega)).mono ?_; rintro e w' ⟨rfl, rfl⟩) | (go_at_call 154; refine (arity_any x _).mono ?_; rintro e w' ⟨rfl, rfl⟩))
          go_round
          case rel => exact ⟨k + 1, m - 1 + arZ x, by omega, by go_num, by go_num, by omega, by omega, HR.out⟩
          case measure => simp [intOf]; omega
      · have HR := Lib.hid ((hr.2 (by omega)).out_ hlt)
        clear hr
        go_wp2_with (go_at_call 98; refine (inRange_no _ _ _ _ (by omega)).mono ?_; rintro e w' ⟨rfl, rfl⟩)
        go_ret
        exact ⟨ret_i64 (HG.out.trans HR.out).symm, rfl⟩

set_option maxHeartbeats 400000 in
theorem sformEnd_neg (A : Option Addr) (c : Nat) (f : List Int) (at_ : Int) (w : World) (hn : f.length ≤ 1048576) (h0 : at_ < 0) :
    Calls Tryd.prog 146 #[.slice A f.length c, .int .i64 at_] w fun e w' => e = .returned (.int .i64 (fe f at_)) ∧ w = w' := by
  have HG : Hid (fe f at_ = -1) := Lib.hid (fe_out (by omega))
  go_enter Tryd.func146, Tryd.ntmps146
  go_wp2
  refine wp_loop_rounds 1 ?_
  rw [rounds_succ]
  go_wp2_with (go_at_call 98; refine (inRange_no _ _ _ _ (by omega)).mono ?_; rintro e w' ⟨rfl, rfl⟩)
  go_ret
  exact ⟨ret_i64 HG.out.symm, rfl⟩

theorem sformEnd_any (A : Option Addr) (n c : Nat) (f : List Int) (at_ : Int) (w : World) (h : RdI w w.heap.size A n f) (hn : n ≤ 1048576) :
    Calls Tryd.prog 146 #[.slice A n c, .int .i64 at_] w fun e w' => e = .returned (.int .i64 (fe f at_)) ∧ w = w' := by
  have hl := h.len
  subst hl
  by_cases h0 : 0 ≤ at_
  · obtain ⟨k0, rfl⟩ : ∃ k : Nat, at_ = k := ⟨at_.toNat, by omega⟩
    exact sformEnd_nat A c k0 f w h hn
  · exact sformEnd_neg A c f at_ w hn (by omega)

set_option maxHeartbeats 400000 in
theorem sFormEnd_any (A : Option Addr) (n c : Nat) (f : List Int) (at_ : Int) (w : World) (h : RdI w w.heap.size A n f) :
    Calls Tryd.prog 130 #[.slice A n c, .int .i64 at_] w fun e w' => e = .returned (.int .i64 (feI f at_)) ∧ w = w' := by
  have hl := h.len
  subst hl
  by_cases h24 : f.length ≤ 24
  · rw [feI_small h24]
    go_enter Tryd.func130, Tryd.ntmps130
    go_wp2_with (go_at_call 146; refine (sformEnd_any _ _ _ f _ _ h (by omega)).mono ?_; rintro e w' ⟨rfl, rfl⟩)
    go_ret
    exact ⟨rfl, rfl⟩
  · rw [feI_big h24]
    go_enter Tryd.func130, Tryd.ntmps130
    go_wp2
    go_ret
    exact ⟨rfl, rfl⟩

set_option maxHeartbeats 400000 in
theorem sValidForm_any (A : Option Addr) (n c : Nat) (f : List Int) (w : World) (h : RdI w w.heap.size A n f) :
    Calls Tryd.prog 118 #[.slice A n c] w fun e w' => e = .returned (.bool (validB f)) ∧ w = w' := by
  have hl := h.len
  subst hl
  have HV := Lib.hid (validB_eq f)
  by_cases h0 : 0 < f.length
  · have hd : decide (0 < (f.length : Int)) = true := by simpa using h0
    go_enter Tryd.func118, Tryd.ntmps118
    go_wp2_with (go_at_call 130; refine (sFormEnd_any _ _ _ f _ _ h).mono ?_; rintro e w' ⟨rfl, rfl⟩; generalize feI f 0 = z at HV)
    go_ret
    exact ⟨ret_bool HV.out, rfl⟩
  · have hf : validB f = false := by
      cases hb : validB f with
      | false => rfl
      | true => have := valid_len hb; omega
    rw [hf]
    clear HV hf
    have hd : decide (0 < (f.length : Int)) = false := decide_eq_false (by omega)
    go_enter Tryd.func118, Tryd.ntmps118
    go_wp2
    go_ret
    exact ⟨rfl, rfl⟩
end Go.Proofs.YtjfhbofgnagfaaaDoor
