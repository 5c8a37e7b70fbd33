/- The order of formulas: of the program and of the model. A sequent is valid: ValidSeq of the program and of the model. The laws' helpers at sequents, and the marks at rows of slices. Two sequents compared: SameSeq of the program and of the model. A sequent that came in, opened. A function mapped over a sequent: mappedSeq with slices.Clone (copyOfSeq) and with DualOf; DualSeq of the program. DualSeq of the model. The model's copies of rows and sequents. -/
import Derived.Test.YtjdmcpaolhnejaaDoorQValid
import Derived.Test.YtjdmcpaolhnejaaDoorQBytes
import Derived.Test.YtjdmcpaolhnejaaDoorQMath
import Derived.Deep.Matrix
import Derived.Deep.RegionWith
import Derived.Deep.DeepCutAuto
import Derived.Deep.RegionLaw
import Derived.Deep.AppendLies
namespace Go.Proofs.YtjdmcpaolhnejaaDoor
set_option linter.unusedSimpArgs false
set_option linter.unusedVariables false
section
open Go.RowKit

/-- cmp.Compare. -/
def cmZ (x y : Int) : Int := if x < y then -1 else if y < x then 1 else 0
/-- slices.Compare. -/
def lexZ : List Int → List Int → Int
  | [], [] => 0
  | [], _ :: _ => -1
  | _ :: _, [] => 1
  | x :: xs, y :: ys => if cmZ x y = 0 then lexZ xs ys else cmZ x y
/-- The order: by the number of symbols, then by the first different one. -/
def cmpL (a b : List Int) : Int := if cmZ a.length b.length = 0 then lexZ a b else cmZ a.length b.length
/-- FormBefore. -/
def befB (a b : List Int) : Bool := validB a && validB b && decide (cmpL a b < 0)

theorem cmZ_cases (x y : Int) : (x < y ∧ cmZ x y = -1) ∨ (y < x ∧ cmZ x y = 1) ∨ (x = y ∧ cmZ x y = 0) := by
  unfold cmZ
  by_cases h : x < y
  · rw [if_pos h]; exact .inl ⟨h, rfl⟩
  · by_cases h' : y < x
    · rw [if_neg h, if_pos h']; exact .inr (.inl ⟨h', rfl⟩)
    · rw [if_neg h, if_neg h']; exact .inr (.inr ⟨by omega, rfl⟩)
theorem lexZ_bd : ∀ a b : List Int, -1 ≤ lexZ a b ∧ lexZ a b ≤ 1
  | [], [] => by simp [lexZ]
  | [], _ :: _ => by simp [lexZ]
  | _ :: _, [] => by simp [lexZ]
  | x :: xs, y :: ys => by
    unfold lexZ
    split
    · exact lexZ_bd xs ys
    · rcases cmZ_cases x y with h | h | h <;> omega
theorem lexZ_same {x y : Int} (xs ys : List Int) (h : cmZ x y = 0) : lexZ (x :: xs) (y :: ys) = lexZ xs ys := by simp [lexZ, h]
theorem lexZ_diff {x y : Int} (xs ys : List Int) (h : ¬ cmZ x y = 0) : lexZ (x :: xs) (y :: ys) = cmZ x y := by simp [lexZ, h]

theorem cmZ_lt {x y : Int} (h : ¬ cmZ x y = 0) : decide (x < y) = decide (cmZ x y < 0) := by
  rcases cmZ_cases x y with ⟨e, e'⟩ | ⟨e, e'⟩ | ⟨e, e'⟩
  · rw [e', decide_eq_true e]; rfl
  · rw [e', decide_eq_false (by omega)]; rfl
  · exact absurd e' h
theorem cmZ_ne {x y : Int} (h : ¬ cmZ x y = 0) : (x != y) = true := by
  have hne : x ≠ y := by
    rcases cmZ_cases x y with ⟨e, e'⟩ | ⟨e, e'⟩ | ⟨e, e'⟩
    · omega
    · omega
    · exact absurd e' h
  simpa using hne

set_option maxHeartbeats 400000 in
theorem cmpInt_any (x y : Int) (w : World) : Calls Tryd.prog 61 #[.int .i64 x, .int .i64 y] w fun e w' => e = .returned (.int .i64 (cmZ x y)) ∧ w = w' := by
  rcases cmZ_cases x y with ⟨h, e⟩ | ⟨h, e⟩ | ⟨h, e⟩ <;> rw [e]
  · have h1 : decide (x < y) = true := decide_eq_true h
    have hx : (x != x) = false := by simp
    have hy : (y != y) = false := by simp
    clear e
    go_enter Tryd.func61, Tryd.ntmps61
    go_wp2
    go_ret
    exact ⟨rfl, rfl⟩
  · have h1 : decide (x < y) = false := decide_eq_false (by omega)
    have h2 : decide (y < x) = true := decide_eq_true h
    have hx : (x != x) = false := by simp
    have hy : (y != y) = false := by simp
    clear e
    go_enter Tryd.func61, Tryd.ntmps61
    go_wp2
    go_ret
    exact ⟨rfl, rfl⟩
  · subst h
    have hx : (x != x) = false := by simp
    clear e
    go_enter Tryd.func61, Tryd.ntmps61
    go_wp2
    go_ret
    exact ⟨rfl, rfl⟩
set_option maxHeartbeats 400000 in
theorem cmpI64_any (x y : Int) (w : World) : Calls Tryd.prog 92 #[.int .i64 x, .int .i64 y] w fun e w' => e = .returned (.int .i64 (cmZ x y)) ∧ w = w' := by
  rcases cmZ_cases x y with ⟨h, e⟩ | ⟨h, e⟩ | ⟨h, e⟩ <;> rw [e]
  · have h1 : decide (x < y) = true := decide_eq_true h
    have hx : (x != x) = false := by simp
    have hy : (y != y) = false := by simp
    clear e
    go_enter Tryd.func92, Tryd.ntmps92
    go_wp2
    go_ret
    exact ⟨rfl, rfl⟩
  · have h1 : decide (x < y) = false := decide_eq_false (by omega)
    have h2 : decide (y < x) = true := decide_eq_true h
    have hx : (x != x) = false := by simp
    have hy : (y != y) = false := by simp
    clear e
    go_enter Tryd.func92, Tryd.ntmps92
    go_wp2
    go_ret
    exact ⟨rfl, rfl⟩
  · subst h
    have hx : (x != x) = false := by simp
    clear e
    go_enter Tryd.func92, Tryd.ntmps92
    go_wp2
    go_ret
    exact ⟨rfl, rfl⟩

set_option maxHeartbeats 1000000 in
theorem or2_any (g : Nat) (x y : Int) (w : World) (hx : w.cell? ⟨g, 0, none⟩ = some (.int .i64 x)) (hy : w.cell? ⟨g, 1, none⟩ = some (.int .i64 y)) :
    Calls Tryd.prog 60 #[.slice (some ⟨g, 0, none⟩) 2 2] w fun e w' => e = .returned (.int .i64 (if x = 0 then y else x)) ∧ w = w' := by
  by_cases h : x = 0
  · subst h
    rw [if_pos rfl]
    by_cases h' : y = 0
    · subst h'
      go_enter Tryd.func60, Tryd.ntmps60
      go_wp2
      refine wp_loop_rounds 3 ?_
      rw [rounds_succ]
      go_wp2_with (fail)
      rw [rounds_succ]
      go_wp2_with (fail)
      rw [rounds_succ]
      go_wp2
      go_ret
      exact ⟨rfl, rfl⟩
    · have hn : (y != 0) = true := by simpa using h'
      clear h'
      go_enter Tryd.func60, Tryd.ntmps60
      go_wp2
      refine wp_loop_rounds 3 ?_
      rw [rounds_succ]
      go_wp2_with (fail)
      rw [rounds_succ]
      go_wp2
      go_ret
      exact ⟨rfl, rfl⟩
  · rw [if_neg h]
    have hn : (x != 0) = true := by simpa using h
    clear h
    go_enter Tryd.func60, Tryd.ntmps60
    go_wp2
    refine wp_loop_rounds 3 ?_
    rw [rounds_succ]
    go_wp2
    go_ret
    exact ⟨rfl, rfl⟩

set_option maxHeartbeats 2000000 in
theorem sliceCmp_any (A B : Option Addr) (n m c d : Nat) (a b : List Int) (w : World) (P Q : Nat) (h : RdI w P A n a) (h' : RdI w Q B m b) (hn : n ≤ 1048576) (hm : m ≤ 1048576) :
    Calls Tryd.prog 62 #[.slice A n c, .slice B m d] w fun e w' => e = .returned (.int .i64 (lexZ a b)) ∧ w = w' := by
  have hl := h.len
  have hl' := h'.len
  subst hl hl'
  go_enter Tryd.func62, Tryd.ntmps62
  go_wp2
  go_loop [11] (fun i => ∃ k : Nat, k ≤ a.length ∧ k ≤ b.length ∧ i = .int .i64 k ∧ lexZ (a.drop k) (b.drop k) = lexZ a b) (fun i => a.length - (intOf i).toNat)
  case atStart => exact ⟨0, Nat.zero_le _, Nat.zero_le _, rfl, by simp⟩
  case round =>
    obtain ⟨k, hk, hk', rfl, hlx⟩ := hrel
    by_cases hlt : k < a.length
    · obtain ⟨b1, off1, rfl, hb1, hc1⟩ := h.2 (by omega)
      have hca := hc1 k hlt
      by_cases hlt' : k < b.length
      · obtain ⟨b2, off2, rfl, hb2, hc2⟩ := h'.2 (by omega)
        have hcb := hc2 k hlt'
        rw [drop_cons hlt, drop_cons hlt'] at hlx
        have hd : decide ((b.length : Int) ≤ (k : Int)) = false := decide_eq_false (by omega)
        have hd' : decide (b.length ≤ k) = false := decide_eq_false (by omega)
        by_cases he : cmZ (a.getD k 0) (b.getD k 0) = 0
        · rw [lexZ_same _ _ he] at hlx
          have HL := Lib.hid hlx
          generalize a.getD k 0 = x at *
          generalize b.getD k 0 = y at *
          clear hlx hc1 hc2 h h'
          go_wp2_with (go_at_call 92; refine (cmpI64_any x y _).mono ?_; rw [he]; rintro e w' ⟨rfl, rfl⟩)
          go_round
          case rel => exact ⟨k + 1, by omega, by omega, by go_num, HL.out⟩
          case measure => simp [intOf]; omega
        · rw [lexZ_diff _ _ he] at hlx
          have hne : (cmZ (a.getD k 0) (b.getD k 0) != 0) = true := by simpa using he
          generalize a.getD k 0 = x at *
          generalize b.getD k 0 = y at *
          have HL := Lib.hid hlx
          obtain ⟨z, hz⟩ : ∃ z, cmZ x y = z := ⟨_, rfl⟩
          have HC := Lib.hid (fun w => cmpI64_any x y w)
          rw [hz] at hne HC HL
          clear hlx hc1 hc2 h h' he hz
          go_wp2_with (go_at_call 92; refine (HC.out _).mono ?_; rintro e w' ⟨rfl, rfl⟩)
          go_ret
          exact ⟨ret_i64 HL.out, rfl⟩
      · have hkb : k = b.length := by omega
        have hdb : b.drop k = [] := List.drop_of_length_le (by omega)
        rw [drop_cons hlt, hdb] at hlx
        have HL : Hid ((1 : Int) = lexZ a b) := Lib.hid hlx
        subst hkb
        clear hlx hc1 h h' hdb
        go_wp2
        go_ret
        exact ⟨ret_i64 HL.out, rfl⟩
    · have hka : k = a.length := by omega
      have hda : a.drop k = [] := List.drop_of_length_le (by omega)
      rw [hda] at hlx
      by_cases hlt' : k < b.length
      · rw [drop_cons hlt'] at hlx
        have HL : Hid ((-1 : Int) = lexZ a b) := Lib.hid hlx
        subst hka
        clear hlx h h' hda
        go_wp2
        go_ret
        exact ⟨ret_i64 HL.out, rfl⟩
      · have hdb : b.drop k = [] := List.drop_of_length_le (by omega)
        rw [hdb] at hlx
        have HL : Hid ((0 : Int) = lexZ a b) := Lib.hid hlx
        subst hka
        have hle : ¬ a.length < b.length := hlt'
        clear hlx h h' hda hdb
        go_wp2
        go_ret
        exact ⟨ret_i64 HL.out, rfl⟩

set_option maxHeartbeats 1000000 in
theorem compareForms_any (A B : Option Addr) (n m c d : Nat) (a b : List Int) (w : World) (P Q : Nat) (h : RdI w P A n a) (h' : RdI w Q B m b) (hn : n ≤ 1048576) (hm : m ≤ 1048576) :
    Calls Tryd.prog 33 #[.slice A n c, .slice B m d] w fun e w' => e = .returned (.int .i64 (cmpL a b)) ∧ w' = w.alloc (.cells #[.int .i64 (cmZ a.length b.length), .int .i64 (lexZ a b)] 3) := by
  have hl := h.len
  have hl' := h'.len
  subst hl hl'
  have HS := Lib.hid (sliceCmp_any A B a.length b.length c d a b w P Q h h' hn hm)
  have HC := Lib.hid (cmpInt_any a.length b.length w)
  have hO := or2_any w.heap.size (cmZ a.length b.length) (lexZ a b) (w.alloc (.cells #[.int .i64 (cmZ a.length b.length), .int .i64 (lexZ a b)] 3)) (by simp) (by simp)
  have HO := Lib.hid hO
  unfold cmpL
  generalize cmZ a.length b.length = z1 at *
  generalize lexZ a b = z2 at *
  clear h h' hO
  generalize (if z1 = 0 then z2 else z1) = z at *
  go_enter Tryd.func33, Tryd.ntmps33
  go_wp2_with (first | (go_at_call 61; refine HC.out.mono ?_; rintro e w' ⟨rfl, rfl⟩) | (go_at_call 62; refine HS.out.mono ?_; rintro e w' ⟨rfl, rfl⟩) | (go_at_call 60; refine HO.out.mono ?_; rintro e w' ⟨rfl, rfl⟩))
  go_ret
  exact ⟨rfl, rfl⟩

theorem befB_no1 {a b : List Int} (h : validB a = false) : befB a b = false := by simp [befB, h]
theorem befB_no2 {a b : List Int} (h : validB b = false) : befB a b = false := by simp [befB, h]
theorem befB_yes {a b : List Int} (h : validB a = true) (h' : validB b = true) : befB a b = decide (cmpL a b < 0) := by simp [befB, h, h']
theorem ret_bool' {a b : Bool} (h : a = b) : Ending.returned (.bool a) = .returned (.bool b) := by rw [h]

set_option maxHeartbeats 1000000 in
theorem formBefore_impl (A B : Option Addr) (n m c d : Nat) (a b : List Int) (w : World) (h : RdI w w.heap.size A n a) (h' : RdI w w.heap.size B m b) (ht : Arit w) (hnc : n ≤ c) (hmd : m ≤ d) :
    Calls Tryd.prog 18 #[.slice A n c, .slice B m d] w fun e w' => e = .returned (.bool (befB a b)) ∧ Below w.heap.size w w' := by
  have hl := h.len
  have hl' := h'.len
  subst hl hl'
  have HVA := Lib.hid (validForm_impl A a.length c a w h ht hnc)
  have HVB := Lib.hid (validForm_impl B b.length d b w h' ht hmd)
  cases hv : validB a with
  | false =>
    rw [befB_no1 hv]
    rw [hv] at HVA
    clear h h' ht
    go_enter Tryd.func18, Tryd.ntmps18
    go_wp2_with (go_at_call 30; refine HVA.out.mono ?_; rintro e w' ⟨rfl, rfl⟩)
    go_ret
    exact ⟨rfl, Below.refl _ _⟩
  | true =>
    rw [hv] at HVA
    cases hv' : validB b with
    | false =>
      rw [befB_no2 hv']
      rw [hv'] at HVB
      clear h h' ht
      go_enter Tryd.func18, Tryd.ntmps18
      go_wp2_with (fail)
      refine HVA.out.mono ?_
      rintro e w' ⟨rfl, rfl⟩
      go_wp2_with (fail)
      refine HVB.out.mono ?_
      rintro e w' ⟨rfl, rfl⟩
      go_wp2
      go_ret
      exact ⟨rfl, Below.refl _ _⟩
    | true =>
      rw [befB_yes hv hv']
      rw [hv'] at HVB
      have l1 := valid_len hv
      have l2 := valid_len hv'
      have HC := Lib.hid (compareForms_any A B a.length b.length c d a b w _ _ h h' (by omega) (by omega))
      have HB := Lib.hid ((Below.refl w.heap.size w).alloc (Nat.le_refl _) (.cells #[.int .i64 (cmZ a.length b.length), .int .i64 (lexZ a b)] 3))
      generalize (Obj.cells #[Value.int .i64 (cmZ a.length b.length), .int .i64 (lexZ a b)] 3) = o at *
      generalize cmpL a b = z at *
      clear h h' ht l1 l2
      go_enter Tryd.func18, Tryd.ntmps18
      go_wp2_with (fail)
      refine HVA.out.mono ?_
      rintro e w' ⟨rfl, rfl⟩
      go_wp2_with (fail)
      refine HVB.out.mono ?_
      rintro e w' ⟨rfl, rfl⟩
      go_wp2_with (fail)
      refine HC.out.mono ?_
      rintro e w' ⟨rfl, rfl⟩
      go_wp2
      go_ret
      exact ⟨rfl, HB.out⟩

set_option maxHeartbeats 2000000 in
theorem sformBefore_any (A B : Option Addr) (c d : Nat) (a b : List Int) (w : World) (h : RdI w w.heap.size A a.length a) (h' : RdI w w.heap.size B b.length b) (hn : a.length ≤ 1048576) (hm : b.length ≤ 1048576) :
    Calls Tryd.prog 55 #[.slice A a.length c, .slice B b.length d] w fun e w' => e = .returned (.bool (decide (cmpL a b < 0))) ∧ Below w.heap.size w w' := by
  by_cases hlen : a.length = b.length
  · have hc : cmpL a b = lexZ a b := by
      unfold cmpL
      rcases cmZ_cases a.length b.length with ⟨h, _⟩ | ⟨h, _⟩ | ⟨_, e⟩
      · omega
      · omega
      · rw [if_pos e]
    rw [hc]
    have hd : ((a.length : Int) != (b.length : Int)) = false := by simp; omega
    have H := Lib.hid hlen; clear hlen hc
    go_enter Tryd.func55, Tryd.ntmps55
    go_wp2
    go_loopw [5] (fun i wr => ∃ k : Nat, k ≤ a.length ∧ i = .int .i64 k ∧ lexZ (a.drop k) (b.drop k) = lexZ a b ∧ Below w.heap.size w wr) (fun i _ => a.length - (intOf i).toNat)
    case atStart => exact ⟨0, Nat.zero_le _, rfl, by simp, Below.refl _ _⟩
    case round =>
      obtain ⟨k, hk, rfl, hlx, hb⟩ := hrel
      clear hd
      by_cases hlt : k < a.length
      · have hlt' : k < b.length := by have := H.out; omega
        obtain ⟨b1, off1, rfl, hb1, hc1⟩ := h.2 (by omega)
        obtain ⟨b2, off2, rfl, hb2, hc2⟩ := h'.2 (by omega)
        have hca := (hb.cell (p := ⟨b1, off1 + k, none⟩) hb1).trans (hc1 k hlt)
        have hcb := (hb.cell (p := ⟨b2, off2 + k, none⟩) hb2).trans (hc2 k hlt')
        rw [drop_cons hlt, drop_cons hlt'] at hlx
        have HB := Lib.hid hb
        by_cases he : cmZ (a.getD k 0) (b.getD k 0) = 0
        · rw [lexZ_same _ _ he] at hlx
          have HL := Lib.hid hlx
          have hxy : a.getD k 0 = b.getD k 0 := by
            rcases cmZ_cases (a.getD k 0) (b.getD k 0) with ⟨_, e⟩ | ⟨_, e⟩ | ⟨e, _⟩
            · omega
            · omega
            · exact e
          rw [← hxy] at hcb
          generalize a.getD k 0 = x at hca hcb
          have hneq : (x != x) = false := by simp
          clear hlx hc1 hc2 h h' hb he hxy
          go_wp2
          go_quiet (fail)
          go_wp2
          go_roundw
          case rel => exact ⟨k + 1, by omega, by go_num, HL.out, below_drewN HB.out _⟩
          case measure => simp [intOf]; omega
        · rw [lexZ_diff _ _ he] at hlx
          have hlt2 := cmZ_lt he
          rw [hlx] at hlt2
          have hne := cmZ_ne he
          have HL := Lib.hid hlt2
          generalize a.getD k 0 = x at *
          generalize b.getD k 0 = y at *
          clear hlx hc1 hc2 h h' hb he hlt2
          go_wp2
          go_quiet (fail)
          go_wp2
          go_quiet (fail)
          go_wp2
          go_ret
          exact ⟨ret_bool' HL.out, below_drewN (below_drewN HB.out _) _⟩
      · have hka : k = a.length := by omega
        have hda : a.drop k = [] := List.drop_of_length_le (by omega)
        have hdb : b.drop k = [] := List.drop_of_length_le (by have := H.out; omega)
        rw [hda, hdb] at hlx
        have HL : Hid (false = decide (lexZ a b < 0)) := Lib.hid (by rw [← hlx]; rfl)
        have HB := Lib.hid hb
        subst hka
        clear hlx h h' hda hdb hb
        go_wp2
        go_ret
        exact ⟨ret_bool' HL.out, HB.out⟩
  · have hd : ((a.length : Int) != (b.length : Int)) = true := by simp; omega
    have hc : decide (a.length < b.length) = decide (cmpL a b < 0) := by
      unfold cmpL
      rcases cmZ_cases a.length b.length with ⟨h, e⟩ | ⟨h, e⟩ | ⟨h, _⟩
      · rw [e]; simp; omega
      · rw [e]; simp; omega
      · omega
    have HC := Lib.hid hc
    clear hc hlen h h'
    go_enter Tryd.func55, Tryd.ntmps55
    go_wp2
    go_ret
    exact ⟨ret_bool' (by rw [← HC.out]), Below.refl _ _⟩

end
section
open Go.ChangeAt Go.ChangeShapes Go.RowKit Go.WideShapes

theorem box_below (w : World) (v : Value) (t : TypeId) : Below w.heap.size w (w.alloc (.cells #[v] t)) := (Below.refl _ _).alloc (Nat.le_refl _) _

theorem undrew {w w' : World} (h : Below w.drew.heap.size w.drew w') : Below w.heap.size w w' := ⟨h.os, h.tape, h.output, h.size, h.block⟩
/-- The marks that a row of slices bears. -/
def mrkQ (k : Int) : List (List Int) → List (List Int)
  | [] => []
  | q :: qs => markL k q.length :: mrkQ (k + q.length) qs
theorem mrkQ_len : ∀ (k : Int) (qs : List (List Int)), (mrkQ k qs).length = qs.length
  | _, [] => rfl
  | k, q :: qs => by simp [mrkQ, mrkQ_len]
theorem mrkQ_app : ∀ (k : Int) (xs ys : List (List Int)), mrkQ k (xs ++ ys) = mrkQ k xs ++ mrkQ (k + total xs) ys
  | k, [], ys => by simp [mrkQ, total]
  | k, x :: xs, ys => by
    have e : k + (x.length : Int) + (total xs : Nat) = k + (total (x :: xs) : Nat) := by simp [total]; omega
    rw [List.cons_append, mrkQ, mrkQ, mrkQ_app, e]; rfl
theorem mrkQ_at (k : Int) {qs : List (List Int)} {j : Nat} (h : j < qs.length) : (mrkQ k qs).getD j [] = markL (k + total (qs.take j)) (qs.getD j []).length := by
  have e : qs = qs.take j ++ (qs.getD j [] :: qs.drop (j + 1)) := by
    have e3 : qs.getD j [] = qs[j] := by simp [List.getD, h]
    rw [e3, List.getElem_cons_drop]
    exact (List.take_append_drop _ _).symm
  have hl : (mrkQ k (qs.take j)).length = j := by rw [mrkQ_len, List.length_take]; omega
  conv => lhs; rw [e, mrkQ_app]
  rw [List.getD_eq_getElem?_getD, List.getElem?_append_right (by omega), hl, Nat.sub_self]
  rfl
/-- How far the marking of a row has come. -/
def mrq (qs : List (List Int)) (k : Int) (j : Nat) : List (List Int) := mrkQ k (qs.take j) ++ qs.drop j
theorem mrq_zero (qs : List (List Int)) (k : Int) : mrq qs k 0 = qs := by simp [mrq, mrkQ]
theorem mrq_all (qs : List (List Int)) (k : Int) : mrq qs k qs.length = mrkQ k qs := by simp [mrq]
theorem mrq_len (qs : List (List Int)) (k : Int) {j : Nat} (h : j ≤ qs.length) : (mrq qs k j).length = qs.length := by
  unfold mrq; rw [List.length_append, mrkQ_len, List.length_take, List.length_drop]; omega
theorem mrq_get (qs : List (List Int)) (k : Int) {j : Nat} (h : j < qs.length) : (mrq qs k j).getD j [] = qs.getD j [] := by
  have hl : (mrkQ k (qs.take j)).length = j := by rw [mrkQ_len, List.length_take]; omega
  unfold mrq
  rw [List.getD_eq_getElem?_getD, List.getElem?_append_right (by omega), hl, Nat.sub_self, List.getElem?_drop]
  simp [List.getD]
theorem mrq_step (qs : List (List Int)) (k : Int) {j : Nat} (h : j < qs.length) : (mrq qs k j).set j (markL (k + total (qs.take j)) (qs.getD j []).length) = mrq qs k (j + 1) := by
  have hl : (mrkQ k (qs.take j)).length = j := by rw [mrkQ_len, List.length_take]; omega
  unfold mrq
  rw [List.set_append_right _ _ (by omega), hl, Nat.sub_self, List.drop_eq_getElem_cons h, List.set_cons_zero, List.take_succ_eq_append_getElem h, mrkQ_app, List.append_assoc]
  have e3 : qs.getD j [] = qs[j] := by simp [List.getD, h]
  rw [e3]
  rfl

set_option maxHeartbeats 1000000 in
theorem markSS_any (A : Option Addr) (n c : Nat) (hs : Nat → Option Addr × Nat) (qs : List (List Int)) (k : Int) (w : World) (lo hi : Nat) (h : OwnQ w lo hi (.slice A n c) hs qs) (hn : qs.length = n) (hn1 : n ≤ 1048576) (ht : total qs ≤ 1048576) (hk0 : 0 ≤ k) (hk1 : k ≤ 536870912) :
    Calls Tryd.prog 12 #[.slice A n c, .int .i64 k] w fun e w' => e = .returned (.int .i64 (k + total qs)) ∧ OwnQ w' lo hi (.slice A n c) hs (mrkQ k qs) ∧ Kept lo hi w w' := by
  subst hn
  go_enter Tryd.func12, Tryd.ntmps12
  go_wp2
  go_loopw [1, 5] (fun v i wr => ∃ j : Nat, j ≤ qs.length ∧ i = .int .i64 j ∧ v = .int .i64 (k + total (qs.take j)) ∧ OwnQ wr lo hi (.slice A qs.length c) hs (mrq qs k j) ∧ Kept lo hi w wr) (fun _ i _ => qs.length - (intOf i).toNat)
  case atStart => exact ⟨0, Nat.zero_le _, rfl, by simp [total], by rw [mrq_zero]; exact h, Kept.refl _ _ _⟩
  case round =>
    obtain ⟨j, hj, rfl, rfl, hown, hkp⟩ := hrel
    clear h
    by_cases hlt : j < qs.length
    · have hml := mrq_len qs k hj
      have hstep := mrq_step qs k hlt
      have hget := mrq_get qs k hlt
      have htt := total_take hlt
      have htl := total_le hlt
      obtain ⟨g, cap, hv', hlo, hgl⟩ := hown.outer.form (by omega)
      have hA : A = some ⟨g, 0, none⟩ ∧ c = cap := by rw [hml] at hv'; injection hv' with a b c'; exact ⟨a, c'⟩
      obtain ⟨rfl, rfl⟩ := hA
      obtain ⟨_, hcell⟩ := hown.at hml hlt
      have hin := hown.inner j (by rw [hml]; exact hlt)
      rw [hget] at hin
      have hvv : hv hs (mrq qs k j) j = .slice (hs j).1 (qs.getD j []).length (hs j).2 := by unfold hv; rw [hget]
      have hput := fun (w' : World) (a : _) (b : _) => hown.put (w' := w') (q := markL (k + total (qs.take j)) (qs.getD j []).length) (by rw [hml]; exact hlt) (by rw [hget, markL_len]) a b
      rw [hstep] at hput
      have hgr : ∀ b, (hv hs (mrq qs k j) j).ownBlock = some b → lo ≤ b ∧ b < hi := fun b e => ⟨(hin.lt b e).1, hown.top j b (by rw [hml]; exact hlt) e⟩
      rw [hvv] at hin hcell hput hgr
      rw [markL_len] at hput
      have HM := Lib.hid (mark_any (hs j).1 (qs.getD j []).length (hs j).2 (qs.getD j []) (k + total (qs.take j)) wr lo hin (by omega) (by omega) (by omega))
      have HP := Lib.hid hput; have HG := Lib.hid hgr; have HK := Lib.hid hkp
      have HT : Hid (k + (total (qs.take (j + 1)) : Nat) = k + total (qs.take j) + (qs.getD j []).length) := Lib.hid (by rw [htt]; omega)
      clear hin hput hgr hkp hown hstep hget hvv htt hml hv'
      generalize (qs.getD j []).length = M at *
      generalize total (qs.take j) = T at *
      go_wp2_with (fail)
      refine HM.out.mono ?_
      rintro e w2 ⟨rfl, own2, gr2⟩
      have HO2 := Lib.hid (HP.out w2 own2 gr2)
      have HK2 := Lib.hid (HK.out.trans (Kept.of_grown gr2 HG.out))
      clear own2 gr2
      go_wp2
      go_roundw
      case rel => exact ⟨j + 1, by omega, by go_num, by rw [HT.out], HO2.out, HK2.out⟩
      case measure => simp [intOf]; omega
    · have hkl : j = qs.length := by omega
      subst hkl
      rw [mrq_all] at hown
      rw [total_all qs (Nat.le_refl _)]
      have HS := Lib.hid hown; have HK := Lib.hid hkp
      clear hown hkp
      go_wp2
      go_ret
      exact ⟨rfl, HS.out, HK.out⟩

set_option maxHeartbeats 1000000 in
theorem heldSS_any (A : Option Addr) (n c : Nat) (qs : List (List Int)) (k : Int) (w : World) (h : RdQ w w.heap.size A n (mrkQ k qs)) (hn1 : n ≤ 1048576) (ht : total qs ≤ 1048576) (hk0 : 0 ≤ k) (hk1 : k ≤ 536870912) :
    Calls Tryd.prog 13 #[.slice A n c, .int .i64 k] w fun e w' => e = .returned (.int .i64 (k + total qs)) ∧ w = w' := by
  have hl := h.len
  rw [mrkQ_len] at hl
  subst hl
  go_enter Tryd.func13, Tryd.ntmps13
  go_wp2
  go_loop [1, 5] (fun v i => ∃ j : Nat, j ≤ qs.length ∧ i = .int .i64 j ∧ v = .int .i64 (k + total (qs.take j))) (fun _ i => qs.length - (intOf i).toNat)
  case atStart => exact ⟨0, Nat.zero_le _, rfl, by simp [total]⟩
  case round =>
    obtain ⟨j, hj, rfl, rfl⟩ := hrel
    by_cases hlt : j < qs.length
    · obtain ⟨b, off, rfl, hbb, hcells⟩ := h.2 (by omega)
      obtain ⟨A', c', hcell, _, hrd⟩ := hcells j hlt
      rw [mrkQ_at k hlt, markL_len] at hcell hrd
      have htt := total_take hlt
      have htl := total_le hlt
      have HM := Lib.hid (held_any A' (qs.getD j []).length c' (k + total (qs.take j)) w hrd (by omega) (by omega) (by omega))
      have HT : Hid (k + (total (qs.take (j + 1)) : Nat) = k + total (qs.take j) + (qs.getD j []).length) := Lib.hid (by rw [htt]; omega)
      clear hcells h hrd htt
      generalize (qs.getD j []).length = M at *
      generalize total (qs.take j) = T at *
      have hd : decide (k + (T : Int) + (M : Int) < 0) = false := decide_eq_false (by omega)
      go_wp2_with (fail)
      refine HM.out.mono ?_
      rintro e w' ⟨rfl, rfl⟩
      go_wp2
      go_round
      case rel => exact ⟨j + 1, by omega, by go_num, by rw [HT.out]⟩
      case measure => simp [intOf]; omega
    · have hkl : j = qs.length := by omega
      subst hkl
      rw [total_all qs (Nat.le_refl _)]
      clear h
      go_wp2
      go_ret
      exact ⟨rfl, rfl⟩
end
section
open Go.ChangeShapes Go.WideShapes Go.ChangeAt Go.RowKit

theorem array_one {α : Type} {cs : Array α} (h : cs.size = 1) : ∃ c0, cs = #[c0] := by
  obtain ⟨l⟩ := cs
  match l, h with
  | [c0], _ => exact ⟨c0, rfl⟩

/-- A struct of one field of one cell, opened. -/
theorem open_agg1 {H : Type} {enc : TypeId × Value → H} {P : Program} {w : World} {base : Nat} {spare : Nat → Bool} {held : Bool} {r : Reach} {b0 : Nat} {t : TypeId} {f0 : Field} {v : Value} {d : DataW H} {p : List MemPlace} (hs : P.underlying t = some (.struct #[f0]))
    (ho : f0.offset = 0) (hk : P.cellsOf f0.type = 1) (hC : P.cellsOf t = 1) (hv : Value.okWide P w r b0 t v) (h : DataW.Trod enc P w base spare held t v d p) :
    ∃ (v0 : Value) (y0 : DataW H × List MemPlace) (n : Nat), v = .agg #[v0] ∧ DataW.trod enc P w base spare held n f0.type [v0] = some y0 := by
  obtain ⟨cs, rfl, hsz⟩ := okWide_struct hs hv
  obtain ⟨c0, rfl⟩ := array_one (hsz.trans hC)
  obtain ⟨fuel, hf⟩ := h
  obtain ⟨xs, n, _, _, _, hlen, hx⟩ := DataW.trod_struct hs hf
  match xs, hlen with
  | [y0], _ => exact ⟨c0, y0, n, rfl, by simpa [Value.cells, ho, hk] using hx 0 f0 rfl⟩

theorem spot_of {w : World} {b off : Nat} {s : Option Nat} {v : Value} (h : w.cell? ((⟨b, off, s⟩ : Addr).add 0) = some v) : s = none := by
  simpa [Addr.add] using World.cell?_spot h

/-- A slice of slices of 64-bit integers that came in reads as a list of lists. -/
theorem open_rows {H : Type} {enc : TypeId × Value → H} {W : World} {fuel : Nat} {v : Value} {x : DataW H × List MemPlace}
    (h : DataW.trod enc Tryd.prog W 0 (fun _ => true) true fuel 23 [v] = some x) :
    ∃ a n c qs, v = .slice a n c ∧ RdQ W W.heap.size a n qs ∧ n ≤ c ∧ n ≤ maxLen ∧ (∀ q ∈ qs, q.length ≤ maxLen) ∧ ∀ q ∈ qs, ∀ z ∈ q, (Lit.int .i64 z).wf = true := by
  rcases Go.Deep.open_int_rows Tryd.underlying23 Tryd.underlying22 Tryd.underlying2 (by kernel_rfl) (by kernel_rfl) h with ⟨hcs, _⟩ | ⟨a, len, cap, A, L, C, Z, hcs, _, hl, hm, _, hr⟩
  · obtain rfl : v = .slice none 0 0 := by simpa using hcs
    exact ⟨none, 0, 0, [], rfl, RdQ.nil _ _ _, Nat.le_refl _, Nat.zero_le _, by simp, by simp⟩
  · obtain rfl : v = .slice (some a) len cap := by simpa using hcs
    have hlen : ∀ j, j < len → ((Z j).take (L j)).length = L j := fun j hj => by
      obtain ⟨_, h1, _, h3, _⟩ := hr j (by omega)
      rw [List.length_take]; omega
    have hget : ∀ j, j < len → ((List.range len).map fun r => (Z r).take (L r)).getD j [] = (Z j).take (L j) := fun j hj => by simp [List.getD, hj]
    refine ⟨some a, len, cap, (List.range len).map fun r => (Z r).take (L r), rfl, ⟨by simp, fun hn => ?_⟩, hl, by omega, ?_, ?_⟩
    · obtain ⟨b, off, spot⟩ := a
      have hspot : spot = none := spot_of (hr 0 (by omega)).1
      subst hspot
      refine ⟨b, off, rfl, by have := World.block_lt_of_cell? W _ (hr 0 (by omega)).1; simpa [Addr.add] using this, fun j hj => ?_⟩
      obtain ⟨h0, h1, h2, h3, h4, h5, h6⟩ := hr j (by omega)
      rw [hget j hj, hlen j hj]
      refine ⟨A j, C j, ?_, h1, hlen j hj, fun hpos => ?_⟩
      · by_cases e : j = 0
        · subst e; simpa [Addr.add] using h0
        · simpa [Addr.add, e] using h0
      · cases hA : A j with
        | none => have := h5 hA; omega
        | some a' =>
          obtain ⟨b', off', spot'⟩ := a'
          obtain ⟨_, hc⟩ := h6 _ hA
          have hspot : spot' = none := spot_of (hc 0 (by omega))
          subst hspot
          refine ⟨b', off', rfl, by have := World.block_lt_of_cell? W _ (hc 0 (by omega)); simpa [Addr.add] using this, fun c hcl => ?_⟩
          have h7 := hc c (by omega)
          have e : ((Z j).take (L j)).getD c 0 = (Z j).getD c 0 := by simp [List.getD, hcl]
          rw [e]
          by_cases e0 : c = 0
          · subst e0; simpa [Addr.add] using h7
          · simpa [Addr.add, e0] using h7
    · intro q hq
      obtain ⟨j, hj, rfl⟩ := List.mem_map.1 hq
      have hj' := List.mem_range.1 hj
      obtain ⟨_, h1, h2, _⟩ := hr j (by omega)
      rw [hlen j hj']; omega
    · intro q hq z hz
      obtain ⟨j, hj, rfl⟩ := List.mem_map.1 hq
      have hj' := List.mem_range.1 hj
      exact (hr j (by omega)).2.2.2.2.1 z (List.mem_of_mem_take hz)

theorem mem_total {qs : List (List Int)} {q : List Int} (h : q ∈ qs) : q.length ≤ total qs := by
  induction qs with
  | nil => cases h
  | cons x xs ih =>
    have e : total (x :: xs) = x.length + total xs := by simp [total]
    rcases List.mem_cons.1 h with rfl | h
    · omega
    · have := ih h; omega
theorem sz_cases' (left : Int) (n : Nat) (qs : List (List Int)) : szR left (n + total qs) = -1 ∨ (szR left (n + total qs) = left - (n + total qs : Nat) ∧ 0 ≤ left - (n + total qs : Nat) ∧ (n : Int) ≤ left ∧ ∀ q ∈ qs, (q.length : Int) ≤ left) := by
  by_cases h : left - (n + total qs : Nat) < 0
  · exact .inl (szR_neg h)
  · exact .inr ⟨szR_pos h, by omega, by omega, fun q hq => by have := mem_total hq; omega⟩
/-- Too great, or within the laws' bound. -/
theorem sz_cases (n : Nat) (qs : List (List Int)) : szR 1048576 (n + total qs) = -1 ∨ (szR 1048576 (n + total qs) = 1048576 - (n + total qs : Nat) ∧ (0 : Int) ≤ 1048576 - (n + total qs : Nat) ∧ n ≤ 1048576 ∧ ∀ q ∈ qs, q.length ≤ 1048576) := by
  rcases sz_cases' 1048576 n qs with h | ⟨h1, h2, h3, h4⟩
  · exact .inl h
  · exact .inr ⟨h1, h2, by omega, fun q hq => by have := h4 q hq; omega⟩
theorem sz_casesL (left : Int) (hl : left ≤ 1048576) (n : Nat) (qs : List (List Int)) : szR left (n + total qs) = -1 ∨ ∃ L, szR left (n + total qs) = L ∧ 0 ≤ L ∧ L ≤ 1048576 ∧ n ≤ 1048576 ∧ total qs ≤ 1048576 := by
  by_cases h : left - (n + total qs : Nat) < 0
  · exact .inl (szR_neg h)
  · exact .inr ⟨left - (n + total qs : Nat), szR_pos h, by omega, by omega, by omega, by omega⟩
theorem kept_cell {lo hi : Nat} {w w' : World} (h : Kept lo hi w w') {p : Addr} (hp : p.block < w.heap.size) (ho : p.block < lo ∨ hi ≤ p.block) : w'.cell? p = w.cell? p := World.cell?_of_block (h.block p.block hp ho)
end
section
open Go.ChangeAt Go.ChangeShapes Go.RowKit Go.WideShapes

theorem total_small {qs : List (List Int)} (h : ∀ q ∈ qs, q.length ≤ 24) : total qs ≤ 24 * qs.length := by
  induction qs with
  | nil => simp [total]
  | cons x xs ih =>
    have h1 := h x (by simp)
    have h2 := ih fun q hq => h q (by simp [hq])
    have e : total (x :: xs) = x.length + total xs := by simp [total]
    rw [e, List.length_cons]
    omega
/-- What a function leaves that hands back a row of slices in memory of its own. -/
def GivesSS (w : World) (V : List (List Int)) (e : Ending) (w' : World) : Prop :=
  ∃ hs A c, e = .returned (.slice A V.length c) ∧ OwnQ w' w.heap.size w'.heap.size (.slice A V.length c) hs V ∧ Below w.heap.size w w'
/-- An empty row just made. -/
theorem OwnQ.made (w : World) (hs : Nat → Option Addr × Nat) : OwnQ (w.alloc (.cells #[] 22)) w.heap.size (w.alloc (.cells #[] 22)).heap.size (.slice (some ⟨w.heap.size, 0, none⟩) 0 0) hs [] where
  outer := by simpa [rowV] using World.ownsRow_made (e := 22) (base := w.heap.size) (size := 1) w #[] 0 (Nat.le_refl _) (by simp [maxLen]) rfl
  inner i hi := by simp at hi
  apart i _ hi := by simp at hi
  apart0 i hi := by simp at hi
  top0 k e := by
    obtain rfl : w.heap.size = k := by simpa [Value.ownBlock] using e
    simp
  top i _ hi := by simp at hi
end
end Go.Proofs.YtjdmcpaolhnejaaDoor
