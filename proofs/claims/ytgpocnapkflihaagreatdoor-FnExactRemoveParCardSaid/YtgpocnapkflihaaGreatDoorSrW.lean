/- Two rows that grow; the answer of RemovePar; the model's l11Has. -/
import Derived.Test.YtgpocnapkflihaaGreatDoorSqN
import Derived.Test.YtgpocnapkflihaaGreatDoorSmF
import Derived.Test.YtgpocnapkflihaaGreatDoorQNetO
namespace Go.Proofs.YtgpocnapkflihaaGreatDoor
set_option linter.unusedSimpArgs false
set_option linter.unusedVariables false
open Go.ChangeAt Go.ChangeShapes Go.RowKit Go.WideShapes

/-- Two rows that grow. -/
structure TwQ (wl wx : World) (v1 v2 : Value) (L1 L2 : List Int) : Prop where
  o1 : wx.ownsRow wl.heap.size 2 1 v1 L1.length (L1.map (Value.int .i64))
  o2 : wx.ownsRow wl.heap.size 2 1 v2 L2.length (L2.map (Value.int .i64))
  ap : ∀ b, v1.ownBlock = some b → v2.ownBlock ≠ some b
  bel : Below wl.heap.size wl wx
theorem TwQ.push1 {wl wx w2 : World} {v1 v2 v' : Value} {L1 L2 : List Int} {z : Int} (s : TwQ wl wx v1 v2 L1 L2) (hown : w2.ownsRow wl.heap.size 2 1 v' (L1.length + 1) (L1.map (Value.int .i64) ++ [.int .i64 z])) (hg : (wx.alloc (.cells #[.int .i64 z] 2)).grownBy w2 v1.ownBlock)
    (hat : v'.ownBlock = v1.ownBlock ∨ v'.ownBlock = some (wx.alloc (.cells #[.int .i64 z] 2)).heap.size) : TwQ wl w2 v' v2 (L1 ++ [z]) L2 where
  o1 := by rw [List.length_append, List.map_append]; exact hown
  o2 := own_same (own_below s.o2 ((Below.refl _ _).alloc (Nat.le_refl _) _) (Nat.le_refl _)) fun q e => hg.block q (by have := (s.o2.lt q e).2; simp; omega) (fun e2 => s.ap q e2.symm e)
  ap b e e2 := by
    rcases hat with q | q
    · exact s.ap b (q.symm.trans e) e2
    · rw [q] at e
      injection e with e
      have := (s.o2.lt b e2).2
      simp at e; omega
  bel := (s.bel.alloc s.bel.size _).grown hg (Nat.le_trans s.bel.size (by simp)) fun q e => (s.o1.lt q e).1
theorem TwQ.push2 {wl wx w2 : World} {v1 v2 v' : Value} {L1 L2 : List Int} {z : Int} (s : TwQ wl wx v1 v2 L1 L2) (hown : w2.ownsRow wl.heap.size 2 1 v' (L2.length + 1) (L2.map (Value.int .i64) ++ [.int .i64 z])) (hg : (wx.alloc (.cells #[.int .i64 z] 2)).grownBy w2 v2.ownBlock)
    (hat : v'.ownBlock = v2.ownBlock ∨ v'.ownBlock = some (wx.alloc (.cells #[.int .i64 z] 2)).heap.size) : TwQ wl w2 v1 v' L1 (L2 ++ [z]) where
  o2 := by rw [List.length_append, List.map_append]; exact hown
  o1 := own_same (own_below s.o1 ((Below.refl _ _).alloc (Nat.le_refl _) _) (Nat.le_refl _)) fun q e => hg.block q (by have := (s.o1.lt q e).2; simp; omega) (fun e2 => s.ap q e e2.symm)
  ap b e e2 := by
    rcases hat with q | q
    · exact s.ap b e (q.symm.trans e2)
    · rw [q] at e2
      injection e2 with e2
      have := (s.o1.lt b e).2
      simp at e2; omega
  bel := (s.bel.alloc s.bel.size _).grown hg (Nat.le_trans s.bel.size (by simp)) fun q e => (s.o2.lt q e).1
theorem TwQ.pushTwo {wl wx w2 : World} {v1 v2 v' : Value} {L1 L2 : List Int} {y z : Int} (s : TwQ wl wx v1 v2 L1 L2) (hown : w2.ownsRow wl.heap.size 2 1 v' (L2.length + 2) (L2.map (Value.int .i64) ++ [.int .i64 y, .int .i64 z])) (hg : (wx.alloc (.cells #[.int .i64 y, .int .i64 z] 2)).grownBy w2 v2.ownBlock)
    (hat : v'.ownBlock = v2.ownBlock ∨ v'.ownBlock = some (wx.alloc (.cells #[.int .i64 y, .int .i64 z] 2)).heap.size) : TwQ wl w2 v1 v' L1 (L2 ++ [y, z]) where
  o2 := by rw [List.length_append, List.map_append]; exact hown
  o1 := own_same (own_below s.o1 ((Below.refl _ _).alloc (Nat.le_refl _) _) (Nat.le_refl _)) fun q e => hg.block q (by have := (s.o1.lt q e).2; simp; omega) (fun e2 => s.ap q e e2.symm)
  ap b e e2 := by
    rcases hat with q | q
    · exact s.ap b e (q.symm.trans e2)
    · rw [q] at e2
      injection e2 with e2
      have := (s.o1.lt b e).2
      simp at e2; omega
  bel := (s.bel.alloc s.bel.size _).grown hg (Nat.le_trans s.bel.size (by simp)) fun q e => (s.o2.lt q e).1
theorem TwQ.below {wl wx u : World} {v1 v2 : Value} {L1 L2 : List Int} (s : TwQ wl wx v1 v2 L1 L2) (hb : Below wx.heap.size wx u) : TwQ wl u v1 v2 L1 L2 := ⟨own_below s.o1 hb (Nat.le_refl _), own_below s.o2 hb (Nat.le_refl _), s.ap, s.bel.trans (hb.mono s.bel.size)⟩
theorem TwQ.start2 (w : World) : TwQ w ((w.alloc (.cells #[] 2)).alloc (.cells #[] 2)) (.slice (some ⟨w.heap.size, 0, none⟩) 0 0) (.slice (some ⟨w.heap.size + 1, 0, none⟩) 0 0) [] [] where
  o1 := empty_own ((Below.refl _ _).alloc (by simp) _)
  o2 := by
    have h := empty_own (w := w.alloc (.cells #[] 2)) (t := 2) (size := 1) (Below.refl _ _)
    rw [World.size_alloc] at h
    exact h.mono (by omega)
  ap b e e2 := by
    injection e with e; injection e2 with e2
    have e3 : w.heap.size = b := e
    have e4 : w.heap.size + 1 = b := e2
    omega
  bel := ((Below.refl _ _).alloc (Nat.le_refl _) _).alloc (by simp) _
/-- The answer. -/
def opB (N : Nt) (i : Int) : Bool := valN N && (inW N.l.length i && tpB N i.toNat)
def opV (N : Nt) (i : Int) : Nt := if opB N i = true then opN N i.toNat else Nt.nil
theorem opV_small (N : Nt) (i : Int) : SmallN (opV N i) := by
  unfold opV
  cases h : opB N i with
  | false => rw [if_neg (by decide)]; exact ⟨by simp [Nt.nil], by simp [Nt.nil, total], by simp [Nt.nil], by simp [Nt.nil]⟩
  | true =>
    rw [if_pos rfl]
    unfold opB at h
    rw [Bool.and_eq_true] at h
    refine cut_small h.1 _ ?_
    have h1 := opC_len N i.toNat N.c
    have h2 := valN_conc_le h.1
    have h3 := (valN_size h.1).1
    omega
theorem memAtQ {p : List Int} {v : Int} (h : v ∈ p) : ∃ i, i < p.length ∧ p.getD i 0 = v := by
  obtain ⟨i, hi, e⟩ := List.getElem_of_mem h
  exact ⟨i, hi, by simp [List.getD, hi, e]⟩
set_option maxRecDepth 100000 in
set_option maxHeartbeats 1000000 in
theorem sHasQ_any (A : Option Addr) (n c : Nat) (p : List Int) (x : Int) (w : World) (hl : n ≤ 1048576) (r : RdI w w.heap.size A n p) :
    Calls Tryz.prog 82 #[.slice A n c, .int .i64 x] w fun e w' => e = .returned (.bool (decide (x ∈ p))) ∧ w' = w := by
  have RS := Lib.hid r
  have hlen := r.1
  have HLN := Lib.hid hlen
  clear r hlen
  go_enter Tryz.func82, Tryz.ntmps82
  go_wp2
  go_loopw [5] (fun i wr => ∃ k : Nat, k ≤ n ∧ i = .int .i64 k ∧ (∀ m, m < k → ¬ p.getD m 0 = x) ∧ wr = w) (fun i _ => n - (intOf i).toNat)
  case atStart => exact ⟨0, Nat.zero_le _, rfl, fun m hm => absurd hm (by omega), rfl⟩
  case round =>
    obtain ⟨k, hk, rfl, hpl, rfl⟩ := hrel
    have HP := Lib.hid hpl
    clear hpl
    by_cases hlt : k < n
    · obtain ⟨b, off, hA, hbb, hcells⟩ := RS.out.2 (show 0 < n by omega)
      have x0 := hcells k hlt
      have HM := Lib.hid (getL_mem (d := 0) (show k < p.length by have := HLN.out; omega))
      have HPP : Hid (¬ p.getD k 0 = x → ∀ m, m < k + 1 → ¬ p.getD m 0 = x) := Lib.hid fun e m hm => by
        by_cases e2 : m < k
        · exact HP.out m e2
        · obtain rfl : m = k := by omega
          exact e
      generalize p.getD k 0 = z at *
      subst hA
      clear hcells
      by_cases hz : z = x
      · have hd : (z == x) = true := by simp [hz]
        have HE : Hid (true = decide (x ∈ p)) := Lib.hid (decide_eq_true (by rw [← hz]; exact HM.out)).symm
        clear hz
        go_wp2
        go_ret
        exact ⟨ret_bool HE.out, rfl⟩
      · have hd : (z == x) = false := by simp [hz]
        have HQ := Lib.hid (HPP.out hz)
        clear hz
        go_wp2
        go_roundw
        case rel => exact ⟨k + 1, by omega, by go_num, HQ.out, by first | rfl | trivial⟩
        case measure => simp [intOf]; omega
    · have hkl : k = n := by omega
      subst hkl
      have HE : Hid (false = decide (x ∈ p)) := Lib.hid (decide_eq_false fun hm => by
        obtain ⟨i, hi, e⟩ := memAtQ hm
        exact HP.out i (by have := HLN.out; omega) e).symm
      go_wp2
      go_ret
      exact ⟨ret_bool HE.out, rfl⟩
end Go.Proofs.YtgpocnapkflihaaGreatDoor
