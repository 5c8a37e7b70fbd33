/- The order of formulas: of the program and of the model. -/
import Derived.Test.YtjhagklpnpabeaaGreatDoorValid
namespace Go.Proofs.YtjhagklpnpabeaaGreatDoor
open Go.RowKit

/-- cmp.Compare. -/
def cmZ (x y : Int) : Int := if x < y then -1 else if y < x then 1 else 0
/-- slices.Compare. -/
def lexZ : List Int → List Int → Int
  | [], [] => 0
  | [], _ :: _ => -1
  | _ :: _, [] => 1
  | x :: xs, y :: ys => if cmZ x y = 0 then lexZ xs ys else cmZ x y
/-- The order: by the number of symbols, then by the first different one. -/
def cmpL (a b : List Int) : Int := if cmZ a.length b.length = 0 then lexZ a b else cmZ a.length b.length
/-- FormBefore. -/
def befB (a b : List Int) : Bool := validB a && validB b && decide (cmpL a b < 0)

theorem cmZ_cases (x y : Int) : (x < y ∧ cmZ x y = -1) ∨ (y < x ∧ cmZ x y = 1) ∨ (x = y ∧ cmZ x y = 0) := by
  unfold cmZ
  by_cases h : x < y
  · rw [if_pos h]; exact .inl ⟨h, rfl⟩
  · by_cases h' : y < x
    · rw [if_neg h, if_pos h']; exact .inr (.inl ⟨h', rfl⟩)
    · rw [if_neg h, if_neg h']; exact .inr (.inr ⟨by omega, rfl⟩)
theorem lexZ_bd : ∀ a b : List Int, -1 ≤ lexZ a b ∧ lexZ a b ≤ 1
  | [], [] => by simp [lexZ]
  | [], _ :: _ => by simp [lexZ]
  | _ :: _, [] => by simp [lexZ]
  | x :: xs, y :: ys => by
    unfold lexZ
    split
    · exact lexZ_bd xs ys
    · rcases cmZ_cases x y with h | h | h <;> omega
theorem lexZ_same {x y : Int} (xs ys : List Int) (h : cmZ x y = 0) : lexZ (x :: xs) (y :: ys) = lexZ xs ys := by simp [lexZ, h]
theorem lexZ_diff {x y : Int} (xs ys : List Int) (h : ¬ cmZ x y = 0) : lexZ (x :: xs) (y :: ys) = cmZ x y := by simp [lexZ, h]

theorem cmZ_lt {x y : Int} (h : ¬ cmZ x y = 0) : decide (x < y) = decide (cmZ x y < 0) := by
  rcases cmZ_cases x y with ⟨e, e'⟩ | ⟨e, e'⟩ | ⟨e, e'⟩
  · rw [e', decide_eq_true e]; rfl
  · rw [e', decide_eq_false (by omega)]; rfl
  · exact absurd e' h
theorem cmZ_ne {x y : Int} (h : ¬ cmZ x y = 0) : (x != y) = true := by
  have hne : x ≠ y := by
    rcases cmZ_cases x y with ⟨e, e'⟩ | ⟨e, e'⟩ | ⟨e, e'⟩
    · omega
    · omega
    · exact absurd e' h
  simpa using hne

set_option maxHeartbeats 400000 in
theorem cmpInt_any (x y : Int) (w : World) : Calls Tryz.prog 257 #[.int .i64 x, .int .i64 y] w fun e w' => e = .returned (.int .i64 (cmZ x y)) ∧ w = w' := by
  rcases cmZ_cases x y with ⟨h, e⟩ | ⟨h, e⟩ | ⟨h, e⟩ <;> rw [e]
  · have h1 : decide (x < y) = true := decide_eq_true h
    have hx : (x != x) = false := by simp
    have hy : (y != y) = false := by simp
    clear e
    go_enter Tryz.func257, Tryz.ntmps257
    go_wp2
    go_ret
    exact ⟨rfl, rfl⟩
  · have h1 : decide (x < y) = false := decide_eq_false (by omega)
    have h2 : decide (y < x) = true := decide_eq_true h
    have hx : (x != x) = false := by simp
    have hy : (y != y) = false := by simp
    clear e
    go_enter Tryz.func257, Tryz.ntmps257
    go_wp2
    go_ret
    exact ⟨rfl, rfl⟩
  · subst h
    have hx : (x != x) = false := by simp
    clear e
    go_enter Tryz.func257, Tryz.ntmps257
    go_wp2
    go_ret
    exact ⟨rfl, rfl⟩
set_option maxHeartbeats 400000 in
theorem cmpI64_any (x y : Int) (w : World) : Calls Tryz.prog 260 #[.int .i64 x, .int .i64 y] w fun e w' => e = .returned (.int .i64 (cmZ x y)) ∧ w = w' := by
  rcases cmZ_cases x y with ⟨h, e⟩ | ⟨h, e⟩ | ⟨h, e⟩ <;> rw [e]
  · have h1 : decide (x < y) = true := decide_eq_true h
    have hx : (x != x) = false := by simp
    have hy : (y != y) = false := by simp
    clear e
    go_enter Tryz.func260, Tryz.ntmps260
    go_wp2
    go_ret
    exact ⟨rfl, rfl⟩
  · have h1 : decide (x < y) = false := decide_eq_false (by omega)
    have h2 : decide (y < x) = true := decide_eq_true h
    have hx : (x != x) = false := by simp
    have hy : (y != y) = false := by simp
    clear e
    go_enter Tryz.func260, Tryz.ntmps260
    go_wp2
    go_ret
    exact ⟨rfl, rfl⟩
  · subst h
    have hx : (x != x) = false := by simp
    clear e
    go_enter Tryz.func260, Tryz.ntmps260
    go_wp2
    go_ret
    exact ⟨rfl, rfl⟩

set_option maxHeartbeats 1000000 in
theorem or2_any (g : Nat) (x y : Int) (w : World) (hx : w.cell? ⟨g, 0, none⟩ = some (.int .i64 x)) (hy : w.cell? ⟨g, 1, none⟩ = some (.int .i64 y)) :
    Calls Tryz.prog 256 #[.slice (some ⟨g, 0, none⟩) 2 2] w fun e w' => e = .returned (.int .i64 (if x = 0 then y else x)) ∧ w = w' := by
  by_cases h : x = 0
  · subst h
    rw [if_pos rfl]
    by_cases h' : y = 0
    · subst h'
      go_enter Tryz.func256, Tryz.ntmps256
      go_wp2
      refine wp_loop_rounds 3 ?_
      rw [rounds_succ]
      go_wp2_with (fail)
      rw [rounds_succ]
      go_wp2_with (fail)
      rw [rounds_succ]
      go_wp2
      go_ret
      exact ⟨rfl, rfl⟩
    · have hn : (y != 0) = true := by simpa using h'
      clear h'
      go_enter Tryz.func256, Tryz.ntmps256
      go_wp2
      refine wp_loop_rounds 3 ?_
      rw [rounds_succ]
      go_wp2_with (fail)
      rw [rounds_succ]
      go_wp2
      go_ret
      exact ⟨rfl, rfl⟩
  · rw [if_neg h]
    have hn : (x != 0) = true := by simpa using h
    clear h
    go_enter Tryz.func256, Tryz.ntmps256
    go_wp2
    refine wp_loop_rounds 3 ?_
    rw [rounds_succ]
    go_wp2
    go_ret
    exact ⟨rfl, rfl⟩

set_option maxHeartbeats 2000000 in
theorem sliceCmp_any (A B : Option Addr) (n m c d : Nat) (a b : List Int) (w : World) (P Q : Nat) (h : RdI w P A n a) (h' : RdI w Q B m b) (hn : n ≤ 1048576) (hm : m ≤ 1048576) :
    Calls Tryz.prog 258 #[.slice A n c, .slice B m d] w fun e w' => e = .returned (.int .i64 (lexZ a b)) ∧ w = w' := by
  have hl := h.len
  have hl' := h'.len
  subst hl hl'
  go_enter Tryz.func258, Tryz.ntmps258
  go_wp2
  go_loop [11] (fun i => ∃ k : Nat, k ≤ a.length ∧ k ≤ b.length ∧ i = .int .i64 k ∧ lexZ (a.drop k) (b.drop k) = lexZ a b) (fun i => a.length - (intOf i).toNat)
  case atStart => exact ⟨0, Nat.zero_le _, Nat.zero_le _, rfl, by simp⟩
  case round =>
    obtain ⟨k, hk, hk', rfl, hlx⟩ := hrel
    by_cases hlt : k < a.length
    · obtain ⟨b1, off1, rfl, hb1, hc1⟩ := h.2 (by omega)
      have hca := hc1 k hlt
      by_cases hlt' : k < b.length
      · obtain ⟨b2, off2, rfl, hb2, hc2⟩ := h'.2 (by omega)
        have hcb := hc2 k hlt'
        rw [drop_cons hlt, drop_cons hlt'] at hlx
        have hd : decide ((b.length : Int) ≤ (k : Int)) = false := decide_eq_false (by omega)
        have hd' : decide (b.length ≤ k) = false := decide_eq_false (by omega)
        by_cases he : cmZ (a.getD k 0) (b.getD k 0) = 0
        · rw [lexZ_same _ _ he] at hlx
          have HL := Lib.hid hlx
          generalize a.getD k 0 = x at *
          generalize b.getD k 0 = y at *
          clear hlx hc1 hc2 h h'
          go_wp2_with (go_at_call 260; refine (cmpI64_any x y _).mono ?_; rw [he]; rintro e w' ⟨rfl, rfl⟩)
          go_round
          case rel => exact ⟨k + 1, by omega, by omega, by go_num, HL.out⟩
          case measure => simp [intOf]; omega
        · rw [lexZ_diff _ _ he] at hlx
          have hne : (cmZ (a.getD k 0) (b.getD k 0) != 0) = true := by simpa using he
          generalize a.getD k 0 = x at *
          generalize b.getD k 0 = y at *
          have HL := Lib.hid hlx
          obtain ⟨z, hz⟩ : ∃ z, cmZ x y = z := ⟨_, rfl⟩
          have HC := Lib.hid (fun w => cmpI64_any x y w)
          rw [hz] at hne HC HL
          clear hlx hc1 hc2 h h' he hz
          go_wp2_with (go_at_call 260; refine (HC.out _).mono ?_; rintro e w' ⟨rfl, rfl⟩)
          go_ret
          exact ⟨ret_i64 HL.out, rfl⟩
      · have hkb : k = b.length := by omega
        have hdb : b.drop k = [] := List.drop_of_length_le (by omega)
        rw [drop_cons hlt, hdb] at hlx
        have HL : Hid ((1 : Int) = lexZ a b) := Lib.hid hlx
        subst hkb
        clear hlx hc1 h h' hdb
        go_wp2
        go_ret
        exact ⟨ret_i64 HL.out, rfl⟩
    · have hka : k = a.length := by omega
      have hda : a.drop k = [] := List.drop_of_length_le (by omega)
      rw [hda] at hlx
      by_cases hlt' : k < b.length
      · rw [drop_cons hlt'] at hlx
        have HL : Hid ((-1 : Int) = lexZ a b) := Lib.hid hlx
        subst hka
        clear hlx h h' hda
        go_wp2
        go_ret
        exact ⟨ret_i64 HL.out, rfl⟩
      · have hdb : b.drop k = [] := List.drop_of_length_le (by omega)
        rw [hdb] at hlx
        have HL : Hid ((0 : Int) = lexZ a b) := Lib.hid hlx
        subst hka
        have hle : ¬ a.length < b.length := hlt'
        clear hlx h h' hda hdb
        go_wp2
        go_ret
        exact ⟨ret_i64 HL.out, rfl⟩

set_option maxHeartbeats 1000000 in
theorem compareForms_any (A B : Option Addr) (n m c d : Nat) (a b : List Int) (w : World) (P Q : Nat) (h : RdI w P A n a) (h' : RdI w Q B m b) (hn : n ≤ 1048576) (hm : m ≤ 1048576) :
    Calls Tryz.prog 255 #[.slice A n c, .slice B m d] w fun e w' => e = .returned (.int .i64 (cmpL a b)) ∧ w' = w.alloc (.cells #[.int .i64 (cmZ a.length b.length), .int .i64 (lexZ a b)] 3) := by
  have hl := h.len
  have hl' := h'.len
  subst hl hl'
  have HS := Lib.hid (sliceCmp_any A B a.length b.length c d a b w P Q h h' hn hm)
  have HC := Lib.hid (cmpInt_any a.length b.length w)
  have hO := or2_any w.heap.size (cmZ a.length b.length) (lexZ a b) (w.alloc (.cells #[.int .i64 (cmZ a.length b.length), .int .i64 (lexZ a b)] 3)) (by simp) (by simp)
  have HO := Lib.hid hO
  unfold cmpL
  generalize cmZ a.length b.length = z1 at *
  generalize lexZ a b = z2 at *
  clear h h' hO
  generalize (if z1 = 0 then z2 else z1) = z at *
  go_enter Tryz.func255, Tryz.ntmps255
  go_wp2_with (first | (go_at_call 257; refine HC.out.mono ?_; rintro e w' ⟨rfl, rfl⟩) | (go_at_call 258; refine HS.out.mono ?_; rintro e w' ⟨rfl, rfl⟩) | (go_at_call 256; refine HO.out.mono ?_; rintro e w' ⟨rfl, rfl⟩))
  go_ret
  exact ⟨rfl, rfl⟩

theorem befB_no1 {a b : List Int} (h : validB a = false) : befB a b = false := by simp [befB, h]
theorem befB_no2 {a b : List Int} (h : validB b = false) : befB a b = false := by simp [befB, h]
theorem befB_yes {a b : List Int} (h : validB a = true) (h' : validB b = true) : befB a b = decide (cmpL a b < 0) := by simp [befB, h, h']
theorem ret_bool' {a b : Bool} (h : a = b) : Ending.returned (.bool a) = .returned (.bool b) := by rw [h]

set_option maxHeartbeats 1000000 in
theorem formBefore_impl (A B : Option Addr) (n m c d : Nat) (a b : List Int) (w : World) (h : RdI w w.heap.size A n a) (h' : RdI w w.heap.size B m b) (ht : Arit w) (hnc : n ≤ c) (hmd : m ≤ d) :
    Calls Tryz.prog 254 #[.slice A n c, .slice B m d] w fun e w' => e = .returned (.bool (befB a b)) ∧ Below w.heap.size w w' := by
  have hl := h.len
  have hl' := h'.len
  subst hl hl'
  have HVA := Lib.hid (validForm_impl A a.length c a w h ht hnc)
  have HVB := Lib.hid (validForm_impl B b.length d b w h' ht hmd)
  cases hv : validB a with
  | false =>
    rw [befB_no1 hv]
    rw [hv] at HVA
    clear h h' ht
    go_enter Tryz.func254, Tryz.ntmps254
    go_wp2_with (go_at_call 92; refine HVA.out.mono ?_; rintro e w' ⟨rfl, rfl⟩)
    go_ret
    exact ⟨rfl, Below.refl _ _⟩
  | true =>
    rw [hv] at HVA
    cases hv' : validB b with
    | false =>
      rw [befB_no2 hv']
      rw [hv'] at HVB
      clear h h' ht
      go_enter Tryz.func254, Tryz.ntmps254
      go_wp2_with (fail)
      refine HVA.out.mono ?_
      rintro e w' ⟨rfl, rfl⟩
      go_wp2_with (fail)
      refine HVB.out.mono ?_
      rintro e w' ⟨rfl, rfl⟩
      go_wp2
      go_ret
      exact ⟨rfl, Below.refl _ _⟩
    | true =>
      rw [befB_yes hv hv']
      rw [hv'] at HVB
      have l1 := valid_len hv
      have l2 := valid_len hv'
      have HC := Lib.hid (compareForms_any A B a.length b.length c d a b w _ _ h h' (by omega) (by omega))
      have HB := Lib.hid ((Below.refl w.heap.size w).alloc (Nat.le_refl _) (.cells #[.int .i64 (cmZ a.length b.length), .int .i64 (lexZ a b)] 3))
      generalize (Obj.cells #[Value.int .i64 (cmZ a.length b.length), .int .i64 (lexZ a b)] 3) = o at *
      generalize cmpL a b = z at *
      clear h h' ht l1 l2
      go_enter Tryz.func254, Tryz.ntmps254
      go_wp2_with (fail)
      refine HVA.out.mono ?_
      rintro e w' ⟨rfl, rfl⟩
      go_wp2_with (fail)
      refine HVB.out.mono ?_
      rintro e w' ⟨rfl, rfl⟩
      go_wp2_with (fail)
      refine HC.out.mono ?_
      rintro e w' ⟨rfl, rfl⟩
      go_wp2
      go_ret
      exact ⟨rfl, HB.out⟩

set_option maxHeartbeats 2000000 in
theorem sformBefore_any (A B : Option Addr) (c d : Nat) (a b : List Int) (w : World) (h : RdI w w.heap.size A a.length a) (h' : RdI w w.heap.size B b.length b) (hn : a.length ≤ 1048576) (hm : b.length ≤ 1048576) :
    Calls Tryz.prog 51 #[.slice A a.length c, .slice B b.length d] w fun e w' => e = .returned (.bool (decide (cmpL a b < 0))) ∧ Below w.heap.size w w' := by
  by_cases hlen : a.length = b.length
  · have hc : cmpL a b = lexZ a b := by
      unfold cmpL
      rcases cmZ_cases a.length b.length with ⟨h, _⟩ | ⟨h, _⟩ | ⟨_, e⟩
      · omega
      · omega
      · rw [if_pos e]
    rw [hc]
    have hd : ((a.length : Int) != (b.length : Int)) = false := by simp; omega
    have H := Lib.hid hlen; clear hlen hc
    go_enter Tryz.func51, Tryz.ntmps51
    go_wp2
    go_loopw [5] (fun i wr => ∃ k : Nat, k ≤ a.length ∧ i = .int .i64 k ∧ lexZ (a.drop k) (b.drop k) = lexZ a b ∧ Below w.heap.size w wr) (fun i _ => a.length - (intOf i).toNat)
    case atStart => exact ⟨0, Nat.zero_le _, rfl, by simp, Below.refl _ _⟩
    case round =>
      obtain ⟨k, hk, rfl, hlx, hb⟩ := hrel
      clear hd
      by_cases hlt : k < a.length
      · have hlt' : k < b.length := by have := H.out; omega
        obtain ⟨b1, off1, rfl, hb1, hc1⟩ := h.2 (by omega)
        obtain ⟨b2, off2, rfl, hb2, hc2⟩ := h'.2 (by omega)
        have hca := (hb.cell (p := ⟨b1, off1 + k, none⟩) hb1).trans (hc1 k hlt)
        have hcb := (hb.cell (p := ⟨b2, off2 + k, none⟩) hb2).trans (hc2 k hlt')
        rw [drop_cons hlt, drop_cons hlt'] at hlx
        have HB := Lib.hid hb
        by_cases he : cmZ (a.getD k 0) (b.getD k 0) = 0
        · rw [lexZ_same _ _ he] at hlx
          have HL := Lib.hid hlx
          have hxy : a.getD k 0 = b.getD k 0 := by
            rcases cmZ_cases (a.getD k 0) (b.getD k 0) with ⟨_, e⟩ | ⟨_, e⟩ | ⟨e, _⟩
            · omega
            · omega
            · exact e
          rw [← hxy] at hcb
          generalize a.getD k 0 = x at hca hcb
          have hneq : (x != x) = false := by simp
          clear hlx hc1 hc2 h h' hb he hxy
          go_wp2
          go_quiet (fail)
          go_wp2
          go_roundw
          case rel => exact ⟨k + 1, by omega, by go_num, HL.out, below_drewN HB.out _⟩
          case measure => simp [intOf]; omega
        · rw [lexZ_diff _ _ he] at hlx
          have hlt2 := cmZ_lt he
          rw [hlx] at hlt2
          have hne := cmZ_ne he
          have HL := Lib.hid hlt2
          generalize a.getD k 0 = x at *
          generalize b.getD k 0 = y at *
          clear hlx hc1 hc2 h h' hb he hlt2
          go_wp2
          go_quiet (fail)
          go_wp2
          go_quiet (fail)
          go_wp2
          go_ret
          exact ⟨ret_bool' HL.out, below_drewN (below_drewN HB.out _) _⟩
      · have hka : k = a.length := by omega
        have hda : a.drop k = [] := List.drop_of_length_le (by omega)
        have hdb : b.drop k = [] := List.drop_of_length_le (by have := H.out; omega)
        rw [hda, hdb] at hlx
        have HL : Hid (false = decide (lexZ a b < 0)) := Lib.hid (by rw [← hlx]; rfl)
        have HB := Lib.hid hb
        subst hka
        clear hlx h h' hda hdb hb
        go_wp2
        go_ret
        exact ⟨ret_bool' HL.out, HB.out⟩
  · have hd : ((a.length : Int) != (b.length : Int)) = true := by simp; omega
    have hc : decide (a.length < b.length) = decide (cmpL a b < 0) := by
      unfold cmpL
      rcases cmZ_cases a.length b.length with ⟨h, e⟩ | ⟨h, e⟩ | ⟨h, _⟩
      · rw [e]; simp; omega
      · rw [e]; simp; omega
      · omega
    have HC := Lib.hid hc
    clear hc hlen h h'
    go_enter Tryz.func51, Tryz.ntmps51
    go_wp2
    go_ret
    exact ⟨ret_bool' (by rw [← HC.out]), Below.refl _ _⟩

set_option maxHeartbeats 1000000 in
theorem sFormBefore_any (A B : Option Addr) (n m c d : Nat) (a b : List Int) (w : World) (h : RdI w w.heap.size A n a) (h' : RdI w w.heap.size B m b) :
    Calls Tryz.prog 16 #[.slice A n c, .slice B m d] w fun e w' => e = .returned (.bool (befB a b)) ∧ Below w.heap.size w w' := by
  have hl := h.len
  have hl' := h'.len
  subst hl hl'
  have HVA := Lib.hid (sValidForm_any A a.length c a w h)
  have HVB := Lib.hid (sValidForm_any B b.length d b w h')
  cases hv : validB a with
  | false =>
    rw [befB_no1 hv]
    rw [hv] at HVA
    clear h h'
    go_enter Tryz.func16, Tryz.ntmps16
    go_wp2_with (go_at_call 44; refine HVA.out.mono ?_; rintro e w' ⟨rfl, rfl⟩)
    go_ret
    exact ⟨rfl, Below.refl _ _⟩
  | true =>
    rw [hv] at HVA
    cases hv' : validB b with
    | false =>
      rw [befB_no2 hv']
      rw [hv'] at HVB
      clear h h'
      go_enter Tryz.func16, Tryz.ntmps16
      go_wp2_with (fail)
      refine HVA.out.mono ?_
      rintro e w' ⟨rfl, rfl⟩
      go_wp2_with (fail)
      refine HVB.out.mono ?_
      rintro e w' ⟨rfl, rfl⟩
      go_wp2
      go_ret
      exact ⟨rfl, Below.refl _ _⟩
    | true =>
      rw [befB_yes hv hv']
      rw [hv'] at HVB
      have l1 := valid_len hv
      have l2 := valid_len hv'
      have HC := Lib.hid (sformBefore_any A B c d a b w h h' (by omega) (by omega))
      generalize decide (cmpL a b < 0) = z at *
      clear h h' l1 l2
      go_enter Tryz.func16, Tryz.ntmps16
      go_wp2_with (fail)
      refine HVA.out.mono ?_
      rintro e w' ⟨rfl, rfl⟩
      go_wp2_with (fail)
      refine HVB.out.mono ?_
      rintro e w' ⟨rfl, rfl⟩
      go_wp2_with (fail)
      refine HC.out.mono ?_
      rintro e w1 ⟨rfl, hb1⟩
      have HB1 := Lib.hid hb1
      clear hb1
      go_wp2
      go_ret
      exact ⟨rfl, HB1.out⟩
end Go.Proofs.YtjhagklpnpabeaaGreatDoor
