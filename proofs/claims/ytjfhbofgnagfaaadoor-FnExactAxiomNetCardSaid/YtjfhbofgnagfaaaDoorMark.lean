/- The laws' marks: writing numbers into a slice of the call's own, and finding them again. What a function that hands back a list leaves. -/
import Derived.Test.YtjfhbofgnagfaaaDoorHelp
import Derived.Deep.Onto
namespace Go.Proofs.YtjfhbofgnagfaaaDoor
open Go.RowKit

/-- The numbers k, k+1, .. -/
def markL (k : Int) (n : Nat) : List Int := (List.range n).map fun i => k + (i : Nat)
theorem markL_len (k : Int) (n : Nat) : (markL k n).length = n := by simp [markL]
theorem markL_at (k : Int) (n i : Nat) (h : i < n) : (markL k n).getD i 0 = k + i := by simp [markL, List.getD, h]

/-- How far the marking has come. -/
def mrk (zs : List Int) (k : Int) (j : Nat) : List Value := (markL k j ++ zs.drop j).map (Value.int .i64)
theorem mrk_zero (zs : List Int) (k : Int) : zs.map (Value.int .i64) = mrk zs k 0 := by simp [mrk, markL]
theorem mrk_all (zs : List Int) (k : Int) : mrk zs k zs.length = (markL k zs.length).map (Value.int .i64) := by simp [mrk]
theorem mrk_len (zs : List Int) (k : Int) (j : Nat) (h : j ≤ zs.length) : (mrk zs k j).length = zs.length := by simp [mrk, markL]; omega
theorem mrk_step (zs : List Int) (k : Int) (j : Nat) (h : j < zs.length) : (mrk zs k j).set j (.int .i64 (k + j)) = mrk zs k (j + 1) := by
  unfold mrk
  have e1 : (markL k j ++ zs.drop j).map (Value.int .i64) = (markL k j).map (Value.int .i64) ++ (zs.drop j).map (Value.int .i64) := List.map_append
  rw [e1, List.set_append_right _ _ (by simp [markL])]
  have e2 : j - ((markL k j).map (Value.int .i64)).length = 0 := by simp [markL]
  rw [e2, drop_cons h, List.map_cons, List.set_cons_zero]
  have e3 : markL k (j + 1) = markL k j ++ [k + (j : Nat)] := by simp [markL, List.range_succ]
  rw [e3, List.map_append, List.map_append, List.append_assoc]
  rfl

/-- What the marking leaves. -/
def Marked (w : World) (base : Nat) (v : Value) (n : Nat) (k : Int) (e : Ending) (w' : World) : Prop :=
  e = .returned (.int .i64 (k + n)) ∧ w'.ownsRow base 2 1 v n ((markL k n).map (Value.int .i64)) ∧ w.grownBy w' v.ownBlock

theorem grownBy_trans {a b c : World} {r : Option Nat} (h : a.grownBy b r) (h' : b.grownBy c r) : a.grownBy c r :=
  ⟨h'.os.trans h.os, h'.tape.trans h.tape, h'.output.trans h.output, Nat.le_trans h.size h'.size, fun k hk hr => (h'.block k (Nat.lt_of_lt_of_le hk h.size) hr).trans (h.block k hk hr)⟩

set_option maxHeartbeats 1000000 in
theorem mark_any (A : Option Addr) (n c : Nat) (zs : List Int) (k : Int) (w : World) (base : Nat) (h : w.ownsRow base 2 1 (.slice A n c) n (zs.map (Value.int .i64))) (hn : n ≤ 1048576) (hk0 : 0 ≤ k) (hk1 : k ≤ 1073741824) :
    Calls Tryd.prog 43 #[.slice A n c, .int .i64 k] w (Marked w base (.slice A n c) n k) := by
  have hl : zs.length = n := by have := h.1; simpa using this
  subst hl
  go_enter Tryd.func43, Tryd.ntmps43
  go_wp2
  go_loopw [1, 5] (fun v i wr => ∃ j : Nat, j ≤ zs.length ∧ i = .int .i64 j ∧ v = .int .i64 (k + j) ∧ wr.ownsRow base 2 1 (.slice A zs.length c) zs.length (mrk zs k j) ∧ w.grownBy wr (Value.slice A zs.length c).ownBlock)
    (fun _ i _ => zs.length - (intOf i).toNat)
  case atStart => exact ⟨0, Nat.zero_le _, rfl, by simp, by rw [← mrk_zero]; exact h, World.grownBy.refl w _⟩
  case round =>
    obtain ⟨j, hj, rfl, rfl, hown, hg⟩ := hrel
    by_cases hlt : j < zs.length
    · obtain ⟨g, cap, hv, hbg, hgl⟩ := hown.form (by omega)
      have hA : A = some ⟨g, 0, none⟩ ∧ c = cap := by injection hv with a b c'; exact ⟨a, c'⟩
      obtain ⟨rfl, rfl⟩ := hA
      have hf := hown.frozenAt j
      have ho : wr.cell? ⟨g, j, none⟩ = some ((mrk zs k j)[j]'(by rw [mrk_len zs k j hj]; exact hlt)) := by
        rw [hown.cellAt j (by omega)]; exact List.getElem?_eq_getElem _
      have hst := hown.stored j (.int .i64 (k + j))
      rw [mrk_step zs k j hlt] at hst
      have HS := Lib.hid hst.1
      have HG := Lib.hid (grownBy_trans hg hst.2)
      obtain ⟨o, hoo⟩ : ∃ o, ((mrk zs k j)[j]'(by rw [mrk_len zs k j hj]; exact hlt)) = o := ⟨_, rfl⟩
      rw [hoo] at ho
      clear hst hoo hown hg hv h
      go_wp2
      go_roundw
      case rel => exact ⟨j + 1, by omega, by go_num, by go_num, HS.out, HG.out⟩
      case measure => simp [intOf]; omega
    · have hkl : j = zs.length := by omega
      subst hkl
      rw [mrk_all] at hown
      have HS := Lib.hid hown; have HG := Lib.hid hg
      clear hown hg h
      go_wp2
      go_ret
      exact ⟨rfl, HS.out, HG.out⟩

set_option maxHeartbeats 1000000 in
theorem held_any (A : Option Addr) (n c : Nat) (k : Int) (w : World) (h : RdI w w.heap.size A n (markL k n)) (hn : n ≤ 1048576) (hk0 : 0 ≤ k) (hk1 : k ≤ 1073741824) :
    Calls Tryd.prog 44 #[.slice A n c, .int .i64 k] w fun e w' => e = .returned (.int .i64 (k + n)) ∧ w = w' := by
  go_enter Tryd.func44, Tryd.ntmps44
  go_wp2
  go_loop [1, 5] (fun v i => ∃ j : Nat, j ≤ n ∧ i = .int .i64 j ∧ v = .int .i64 (k + j)) (fun _ i => n - (intOf i).toNat)
  case atStart => exact ⟨0, Nat.zero_le _, rfl, by simp⟩
  case round =>
    obtain ⟨j, hj, rfl, rfl⟩ := hrel
    by_cases hlt : j < n
    · obtain ⟨b, off, rfl, hbb, hcells⟩ := h.2 (by omega)
      have hc := hcells j hlt
      rw [markL_at k n j hlt] at hc
      have hne : (k + (j : Int) != k + (j : Int)) = false := by simp
      clear hcells h
      go_wp2
      go_round
      case rel => exact ⟨j + 1, by omega, by go_num, by go_num⟩
      case measure => simp [intOf]; omega
    · have hkl : j = n := by omega
      subst hkl
      go_wp2
      go_ret
      exact ⟨rfl, rfl⟩

/-- The first k numbers of a list, as cells: a name that the walk does not open. -/
def pre (L : List Int) (k : Nat) : List Value := (L.take k).map (Value.int .i64)
theorem pre_zero (L : List Int) : pre L 0 = [] := by simp [pre]
theorem pre_step {L : List Int} {k : Nat} {z : Int} (h : k < L.length) (hz : L.getD k 0 = z) : pre L k ++ [.int .i64 z] = pre L (k + 1) := by
  subst hz
  unfold pre
  rw [List.take_succ_eq_append_getElem h, List.map_append]
  simp [List.getD, h]
theorem pre_all {L : List Int} {k : Nat} (h : L.length ≤ k) : pre L k = L.map (Value.int .i64) := by
  unfold pre; rw [List.take_of_length_le h]

/-- What a function leaves that hands back a list in memory of its own. -/
def Gives (w : World) (xs : List Int) (e : Ending) (w' : World) : Prop :=
  ∃ A c, e = .returned (.slice A xs.length c) ∧ w'.ownsRow w.heap.size 2 1 (.slice A xs.length c) xs.length (xs.map (Value.int .i64)) ∧ Below w.heap.size w w'
/-- .. a list and a bool. -/
def GivesB (w : World) (xs : List Int) (b : Bool) (e : Ending) (w' : World) : Prop :=
  ∃ A c, e = .returned (.tuple #[.slice A xs.length c, .bool b]) ∧ w'.ownsRow w.heap.size 2 1 (.slice A xs.length c) xs.length (xs.map (Value.int .i64)) ∧ Below w.heap.size w w'

theorem own_ne {w1 w2 : World} {b1 b2 B n1 n2 : Nat} {e1 e2 : TypeId} {v1 v2 : Value} {xs ys : List Value} (h1 : w1.ownsRow b1 e1 1 v1 n1 xs) (h2 : w2.ownsRow b2 e2 1 v2 n2 ys) (hB : w1.heap.size ≤ B) (hB2 : B ≤ b2) : v1.ownBlock = none ∨ v1.ownBlock ≠ v2.ownBlock := by
  cases hv : v1.ownBlock with
  | none => exact .inl rfl
  | some k =>
    right
    intro he
    have l1 := (h1.lt k hv).2
    have l2 := (h2.lt k he.symm).1
    omega
theorem own_ne' {w1 w2 : World} {b1 b2 B n1 n2 : Nat} {e1 e2 : TypeId} {v1 v2 : Value} {xs ys : List Value} (h1 : w1.ownsRow b1 e1 1 v1 n1 xs) (h2 : w2.ownsRow b2 e2 1 v2 n2 ys) (hB : w1.heap.size ≤ B) (hB2 : B ≤ b2) : v2.ownBlock = none ∨ v2.ownBlock ≠ v1.ownBlock := by
  cases hv : v2.ownBlock with
  | none => exact .inl rfl
  | some k =>
    right
    intro he
    have l1 := (h1.lt k he.symm).2
    have l2 := (h2.lt k hv).1
    omega
theorem below_grown {B : Nat} {a w w' : World} {base n : Nat} {e : TypeId} {v : Value} {xs : List Value} (h : Below B a w) (hg : w.grownBy w' v.ownBlock) (ho : w.ownsRow base e 1 v n xs) (hB : B ≤ base) (hs : B ≤ w.heap.size) : Below B a w' :=
  h.grown hg hs fun k hk => by have := (ho.lt k hk).1; omega
end Go.Proofs.YtjfhbofgnagfaaaDoor
