/- Marks of a row, with the blocks that they reach. -/
import Derived.Test.YtjfhbofgnagfaaaDoorNetA
namespace Go.Proofs.YtjfhbofgnagfaaaDoor
open Go.ChangeAt Go.ChangeShapes Go.RowKit Go.WideShapes

/-- All blocks but those of S are kept. -/
structure KeptS (S : Nat → Prop) (w w' : World) : Prop where
  os : w'.os = w.os
  tape : w'.tape = w.tape
  output : w'.output = w.output
  size : w.heap.size ≤ w'.heap.size
  block : ∀ k, k < w.heap.size → ¬ S k → w'.heap[k]? = w.heap[k]?
theorem KeptS.refl (S : Nat → Prop) (w : World) : KeptS S w w := ⟨rfl, rfl, rfl, Nat.le_refl _, fun _ _ _ => rfl⟩
theorem KeptS.trans {S : Nat → Prop} {a b c : World} (h : KeptS S a b) (k : KeptS S b c) : KeptS S a c :=
  ⟨k.os.trans h.os, k.tape.trans h.tape, k.output.trans h.output, Nat.le_trans h.size k.size, fun i hi hr => (k.block i (Nat.lt_of_lt_of_le hi h.size) hr).trans (h.block i hi hr)⟩
theorem KeptS.of_grown {S : Nat → Prop} {w w' : World} {r : Option Nat} (h : w.grownBy w' r) (hr : ∀ k, r = some k → S k) : KeptS S w w' :=
  ⟨h.os, h.tape, h.output, h.size, fun k hk ho => h.block k hk (fun e => ho (hr k e.symm))⟩
theorem KeptS.of_below {S : Nat → Prop} {w w' : World} (h : Below w.heap.size w w') : KeptS S w w' := ⟨h.os, h.tape, h.output, h.size, fun k hk _ => h.block k hk⟩
theorem KeptS.kept {S : Nat → Prop} {w w' : World} {lo hi : Nat} (h : KeptS S w w') (hS : ∀ k, S k → lo ≤ k ∧ k < hi) : Kept lo hi w w' :=
  ⟨h.os, h.tape, h.output, h.size, fun k hk ho => h.block k hk (fun e => by have := hS k e; omega)⟩
theorem KeptS.mono {S T : Nat → Prop} {w w' : World} (h : KeptS S w w') (hS : ∀ k, S k → T k) : KeptS T w w' := ⟨h.os, h.tape, h.output, h.size, fun k hk ho => h.block k hk (fun e => ho (hS k e))⟩

set_option maxHeartbeats 1000000 in
theorem markSS_s (A : Option Addr) (n c : Nat) (hs : Nat → Option Addr × Nat) (qs : List (List Int)) (k : Int) (w : World) (lo hi : Nat) (h : OwnQ w lo hi (.slice A n c) hs qs) (hn : qs.length = n) (hn1 : n ≤ 1048576) (ht : total qs ≤ 1048576) (hk0 : 0 ≤ k) (hk1 : k ≤ 536870912) (S : Nat → Prop) (hS : ∀ i b, i < qs.length → (hv hs qs i).ownBlock = some b → S b) :
    Calls Tryd.prog 86 #[.slice A n c, .int .i64 k] w fun e w' => e = .returned (.int .i64 (k + total qs)) ∧ OwnQ w' lo hi (.slice A n c) hs (mrkQ k qs) ∧ KeptS S w w' := by
  subst hn
  go_enter Tryd.func86, Tryd.ntmps86
  go_wp2
  go_loopw [1, 5] (fun v i wr => ∃ j : Nat, j ≤ qs.length ∧ i = .int .i64 j ∧ v = .int .i64 (k + total (qs.take j)) ∧ OwnQ wr lo hi (.slice A qs.length c) hs (mrq qs k j) ∧ KeptS S w wr) (fun _ i _ => qs.length - (intOf i).toNat)
  case atStart => exact ⟨0, Nat.zero_le _, rfl, by simp [total], by rw [mrq_zero]; exact h, KeptS.refl _ _⟩
  case round =>
    obtain ⟨j, hj, rfl, rfl, hown, hkp⟩ := hrel
    clear h
    by_cases hlt : j < qs.length
    · have hml := mrq_len qs k hj
      have hstep := mrq_step qs k hlt
      have hget := mrq_get qs k hlt
      have htt := total_take hlt
      have htl := total_le hlt
      obtain ⟨g, cap, hv', hlo, hgl⟩ := hown.outer.form (by omega)
      have hA : A = some ⟨g, 0, none⟩ ∧ c = cap := by rw [hml] at hv'; injection hv' with a b c'; exact ⟨a, c'⟩
      obtain ⟨rfl, rfl⟩ := hA
      obtain ⟨_, hcell⟩ := hown.at hml hlt
      have hin := hown.inner j (by rw [hml]; exact hlt)
      rw [hget] at hin
      have hvv : hv hs (mrq qs k j) j = .slice (hs j).1 (qs.getD j []).length (hs j).2 := by unfold hv; rw [hget]
      have hvq : hv hs qs j = .slice (hs j).1 (qs.getD j []).length (hs j).2 := rfl
      have hput := fun (w' : World) (a : _) (b : _) => hown.put (w' := w') (q := markL (k + total (qs.take j)) (qs.getD j []).length) (by rw [hml]; exact hlt) (by rw [hget, markL_len]) a b
      rw [hstep] at hput
      have hgr : ∀ b, (hv hs (mrq qs k j) j).ownBlock = some b → S b := fun b e => hS j b hlt (by rw [hvq]; rw [hvv] at e; exact e)
      rw [hvv] at hin hcell hput hgr
      rw [markL_len] at hput
      have HM := Lib.hid (mark_any (hs j).1 (qs.getD j []).length (hs j).2 (qs.getD j []) (k + total (qs.take j)) wr lo hin (by omega) (by omega) (by omega))
      have HP := Lib.hid hput; have HG := Lib.hid hgr; have HK := Lib.hid hkp
      have HT : Hid (k + (total (qs.take (j + 1)) : Nat) = k + total (qs.take j) + (qs.getD j []).length) := Lib.hid (by rw [htt]; omega)
      clear hin hput hgr hkp hown hstep hget hvv htt hml hv' hvq
      generalize (qs.getD j []).length = M at *
      generalize total (qs.take j) = T at *
      go_wp2_with (fail)
      refine HM.out.mono ?_
      rintro e w2 ⟨rfl, own2, gr2⟩
      have HO2 := Lib.hid (HP.out w2 own2 gr2)
      have HK2 := Lib.hid (HK.out.trans (KeptS.of_grown gr2 HG.out))
      clear own2 gr2
      go_wp2
      go_roundw
      case rel => exact ⟨j + 1, by omega, by go_num, by rw [HT.out], HO2.out, HK2.out⟩
      case measure => simp [intOf]; omega
    · have hkl : j = qs.length := by omega
      subst hkl
      rw [mrq_all] at hown
      rw [total_all qs (Nat.le_refl _)]
      have HS := Lib.hid hown; have HK := Lib.hid hkp
      clear hown hkp
      go_wp2
      go_ret
      exact ⟨rfl, HS.out, HK.out⟩
end Go.Proofs.YtjfhbofgnagfaaaDoor
