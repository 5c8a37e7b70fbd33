/- The text of a net: the mathematics; numbers of a row behind a word. -/
import Derived.Test.YtagjlilbcldfaaaDoorLtB
import Derived.Test.YtagjlilbcldfaaaDoorQFrag
import Derived.Test.YtagjlilbcldfaaaDoorQLineB
import Derived.Test.YtagjlilbcldfaaaDoorBaseC
namespace Go.Proofs.YtagjlilbcldfaaaDoor
set_option linter.unusedSimpArgs false
set_option linter.unusedVariables false
open Go.ChangeAt Go.ChangeShapes Go.RowKit Go.WideShapes

def wireB : ByteArray := ⟨#[119, 105, 114, 101, 32]⟩
def conclB : ByteArray := ⟨#[99, 111, 110, 99, 108]⟩
/-- The line of a wire, of a link, of the conclusions. -/
noncomputable def wlN (f : List Int) : List UInt8 := (wireB.data.toList ++ (mkB (textL f)).data.toList) ++ [10]
noncomputable def llN (l : Lk) : List UInt8 := (ltT l.k l.a l.b l.c).data.toList ++ [10]
noncomputable def clN (cs : List Int) : List UInt8 := (cs.foldl spN conclB).data.toList ++ [10]
noncomputable def wlsN (ws : List (List Int)) : List UInt8 := (ws.map wlN).flatten
noncomputable def llsN (ls : List Lk) : List UInt8 := (ls.map llN).flatten
noncomputable def ntL (N : Nt) : List UInt8 := (wlsN N.w ++ llsN N.l) ++ clN N.c
noncomputable def ntT (N : Nt) : ByteArray := if valN N = true then ⟨(ntL N).toArray⟩ else ⟨#[]⟩
theorem ntT_no {N : Nt} (h : valN N = false) : ntT N = ⟨#[]⟩ := by unfold ntT; rw [h]; rfl
theorem ntT_yes {N : Nt} (h : valN N = true) : ntT N = ⟨(ntL N).toArray⟩ := by unfold ntT; rw [if_pos h]
theorem ba_len (b : ByteArray) : b.data.toList.length = b.size := by cases b; simp [ByteArray.size]
theorem wlN_len (f : List Int) : (wlN f).length ≤ 77 := by
  have h1 := textL_len f
  have h2 := mkB_size (textL f)
  unfold wlN
  rw [List.length_append, List.length_append]
  have e := ba_len (mkB (textL f))
  have e2 : wireB.data.toList.length = 5 := rfl
  simp only [List.length_cons, List.length_nil]
  omega
theorem ltT_size (k a b c : Int) : (ltT k a b c).size ≤ 15 := by
  cases h : okL k a b c with
  | false => rw [ltT_no h]; exact Nat.zero_le _
  | true =>
    obtain ⟨_, ha, hb, hc, _⟩ := okL_yes h
    have l0 := lwB_len k.toNat
    have l1 := spN_len (T := lwB k.toNat) ha
    have l2 := spN_len (T := spN (lwB k.toNat) a) hb
    have l3 := spN_len (T := spN (spN (lwB k.toNat) a) b) hc
    by_cases h12 : k = 1 ∨ k = 2
    · rw [ltT_two h h12]; omega
    · rw [ltT_three h h12]; omega
theorem llN_len (l : Lk) : (llN l).length ≤ 16 := by
  have h1 := ltT_size l.k l.a l.b l.c
  unfold llN
  rw [List.length_append]
  have e := ba_len (ltT l.k l.a l.b l.c)
  simp only [List.length_cons, List.length_nil]
  omega
theorem flat_len {α β : Type} {g : α → List β} {m : Nat} (h : ∀ x, (g x).length ≤ m) : ∀ xs : List α, ((xs.map g).flatten).length ≤ m * xs.length
  | [] => by simp
  | x :: xs => by
    have := h x; have ih := flat_len h xs
    rw [List.map_cons, List.flatten_cons, List.length_append, List.length_cons, Nat.mul_add]
    omega
theorem wlsN_len (ws : List (List Int)) : (wlsN ws).length ≤ 77 * ws.length := flat_len wlN_len ws
theorem llsN_len (ls : List Lk) : (llsN ls).length ≤ 16 * ls.length := flat_len llN_len ls
theorem flat_take {α β : Type} {d : α} {g : α → List β} {xs : List α} {k : Nat} (h : k < xs.length) : ((xs.take (k + 1)).map g).flatten = ((xs.take k).map g).flatten ++ g (xs.getD k d) := by
  rw [List.take_succ_eq_append_getElem h, List.map_append, List.flatten_append]
  simp [List.getD, h]
theorem wlsN_take {ws : List (List Int)} {k : Nat} (h : k < ws.length) : wlsN (ws.take (k + 1)) = wlsN (ws.take k) ++ wlN (ws.getD k []) := flat_take h
theorem llsN_take {ls : List Lk} {k : Nat} (h : k < ls.length) : llsN (ls.take (k + 1)) = llsN (ls.take k) ++ llN (ls.getD k Lk.nil) := flat_take h
theorem fold_len {xs : List Int} {T : ByteArray} (hT : T.size ≤ 100) (hm : ∀ x ∈ xs, inM x = true) {n : Nat} (hx : xs.length = n) : ∀ k, k ≤ n → ((xs.take k).foldl spN T).size ≤ 100 + 3 * k := fun k => by
  induction k with
  | zero => intro _; simpa using hT
  | succ k ih =>
    intro hk
    have h1 := ih (by omega)
    rw [List.take_succ_eq_append_getElem (by omega), List.foldl_append]
    have h2 := spN_len (T := (xs.take k).foldl spN T) (x := xs[k]'(by omega)) (hm _ (List.getElem_mem _))
    simp only [List.foldl_cons, List.foldl_nil]
    omega
theorem fold_step {xs : List Int} {T : ByteArray} {k : Nat} (h : k < xs.length) : (xs.take (k + 1)).foldl spN T = spN ((xs.take k).foldl spN T) (xs.getD k 0) := by
  rw [List.take_succ_eq_append_getElem h, List.foldl_append]
  simp [List.getD, h]
/-- The wires of a valid net are below 48. -/
theorem valN_inM {N : Nt} (hv : valN N = true) : ∀ x ∈ N.c, inM x = true := fun x hx => by
  obtain ⟨h0, h1, h2⟩ := inW_yes ((List.all_eq_true.1 (valN_concl hv)) x hx)
  have := (valN_size hv).1
  unfold inM
  exact decide_eq_true (by omega)
set_option maxHeartbeats 1000000 in
/-- numberedLine over a row that reads as a list. -/
theorem numberedR_any (T : ByteArray) (A : Option Addr) (n c : Nat) (xs : List Int) (w : World) (h : RdI w w.heap.size A n xs) (hn : n ≤ 48) (hT : T.size ≤ 100) (hm : ∀ x ∈ xs, inM x = true) :
    Calls Tryd.prog 28 #[.string T, .slice A n c] w fun e w' => e = .returned (.string (xs.foldl spN T)) ∧ w = w' := by
  have hx := h.len
  have HS := Lib.hid (fold_len (T := T) hT hm hx)
  have HC := Lib.hid h; have HM := Lib.hid hm
  clear h hm
  go_enter Tryd.func28, Tryd.ntmps28
  go_wp2
  go_loopw [0, 9] (fun t i wr => ∃ k : Nat, k ≤ n ∧ i = .int .i64 k ∧ t = .string ((xs.take k).foldl spN T) ∧ wr = w) (fun _ i _ => n - (intOf i).toNat)
  case atStart => exact ⟨0, Nat.zero_le _, rfl, (by first | rfl | trivial), (by first | rfl | trivial)⟩
  case round =>
    obtain ⟨k, hk, rfl, rfl, rfl⟩ := hrel
    by_cases hlt : k < n
    · obtain ⟨b, off, rfl, hbb, hcells⟩ := HC.out.2 (by omega)
      have hcell := hcells k hlt
      have hsz := HS.out k (by omega)
      have hst := fold_step (T := T) (show k < xs.length by omega)
      have hin := HM.out (xs.getD k 0) (by simp [List.getD, show k < xs.length by omega])
      generalize xs.getD k 0 = x at *
      obtain ⟨h0, h1⟩ := inM_yes hin
      have HF := Lib.hid (fun w => fmtN_any x h0 (by omega) w)
      have hd := decN_len h0 (show x < 100 by omega)
      generalize (xs.take k).foldl spN T = U at *
      have e32 : (⟨#[32]⟩ : ByteArray).size = 1 := rfl
      have ha1 : ∀ w : World, (Op.stringOp .add ⟨#[32]⟩ (decN x)).run Tryd.prog w = .ok (.string (⟨#[32]⟩ ++ decN x)) w := fun w => run_string_add_sum _ _ _ (by omega)
      have ha2 : ∀ w : World, (Op.stringOp .add U (⟨#[32]⟩ ++ decN x)).run Tryd.prog w = .ok (.string (spN U x)) w := fun w => run_string_add_sum _ _ _ (by rw [ByteArray.size_append]; omega)
      have HST := Lib.hid hst
      have hi1 : (k : Int) < (n : Int) := by omega
      generalize (⟨#[32]⟩ : ByteArray) ++ decN x = V at *
      generalize spN U x = R at *
      clear hsz hst hin h0 h1 hd hcells hbb
      generalize decN x = D at *
      go_wp2_with (fail)
      refine (HF.out _).mono ?_
      rintro e w' ⟨rfl, rfl⟩
      go_wp2
      go_roundw
      case rel => exact ⟨k + 1, by omega, by go_num, by rw [HST.out], (by first | rfl | trivial)⟩
      case measure => simp [intOf]; omega
    · have hkl : k = n := by omega
      subst hkl
      have HE : Hid ((xs.take k).foldl spN T = xs.foldl spN T) := Lib.hid (by rw [List.take_of_length_le (by omega)])
      rw [HE.out]
      go_wp2
      go_ret
      exact ⟨rfl, rfl⟩
end Go.Proofs.YtagjlilbcldfaaaDoor
