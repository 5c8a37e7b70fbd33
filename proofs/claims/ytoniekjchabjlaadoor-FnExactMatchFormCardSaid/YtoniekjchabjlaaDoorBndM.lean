/- The laws' mark of a row that lies in an array's block. -/
import Derived.Test.YtoniekjchabjlaaDoorBndL
import Derived.Test.YtoniekjchabjlaaDoorExa
namespace Go.Proofs.YtoniekjchabjlaaDoor
open Go.ChangeAt Go.ChangeShapes Go.RowKit Go.WideShapes

set_option maxHeartbeats 1000000 in
theorem markT_any (A : Option Addr) (n c : Nat) (hs : Nat → Option Addr × Nat) (qs : List (List Int)) (k : Int) (w : World) (lo hi : Nat) (h : OwnT w lo hi (.slice A n c) hs qs) (hn : qs.length = n) (hn1 : n ≤ 1048576) (ht : total qs ≤ 1048576) (hk0 : 0 ≤ k) (hk1 : k ≤ 536870912) :
    Calls Tryd.prog 32 #[.slice A n c, .int .i64 k] w fun e w' => e = .returned (.int .i64 (k + total qs)) ∧ OwnT w' lo hi (.slice A n c) hs (mrkQ k qs) ∧ Kept lo hi w w' := by
  subst hn
  go_enter Tryd.func32, Tryd.ntmps32
  go_wp2
  go_loopw [1, 5] (fun v i wr => ∃ j : Nat, j ≤ qs.length ∧ i = .int .i64 j ∧ v = .int .i64 (k + total (qs.take j)) ∧ OwnT wr lo hi (.slice A qs.length c) hs (mrq qs k j) ∧ Kept lo hi w wr) (fun _ i _ => qs.length - (intOf i).toNat)
  case atStart => exact ⟨0, Nat.zero_le _, rfl, by simp [total], by rw [mrq_zero]; exact h, Kept.refl _ _ _⟩
  case round =>
    obtain ⟨j, hj, rfl, rfl, hown, hkp⟩ := hrel
    clear h
    by_cases hlt : j < qs.length
    · have hml := mrq_len qs k hj
      have hstep := mrq_step qs k hlt
      have hget := mrq_get qs k hlt
      have htt := total_take hlt
      have htl := total_le hlt
      obtain ⟨g, cap, hv', hlo, hgl⟩ := hown.outer.form (by omega)
      have hA : A = some ⟨g, 0, none⟩ ∧ c = cap := by rw [hml] at hv'; injection hv' with a b c'; exact ⟨a, c'⟩
      obtain ⟨rfl, rfl⟩ := hA
      obtain ⟨_, hcell⟩ := hown.at hml hlt
      have hin := hown.parts.inner j (by rw [hml]; exact hlt)
      rw [hget] at hin
      have hvv : hv hs (mrq qs k j) j = .slice (hs j).1 (qs.getD j []).length (hs j).2 := by unfold hv; rw [hget]
      have hput := fun (w' : World) (a : _) (b : _) => hown.put (w' := w') (q := markL (k + total (qs.take j)) (qs.getD j []).length) (by rw [hml]; exact hlt) (by rw [hget, markL_len]) a b
      rw [hstep] at hput
      have hgr : ∀ b, (hv hs (mrq qs k j) j).ownBlock = some b → lo ≤ b ∧ b < hi := fun b e => ⟨(hin.lt b e).1, hown.parts.top j b (by rw [hml]; exact hlt) e⟩
      rw [hvv] at hin hcell hput hgr
      rw [markL_len] at hput
      have HM := Lib.hid (mark_any (hs j).1 (qs.getD j []).length (hs j).2 (qs.getD j []) (k + total (qs.take j)) wr lo hin (by omega) (by omega) (by omega))
      have HP := Lib.hid hput; have HG := Lib.hid hgr; have HK := Lib.hid hkp
      have HT : Hid (k + (total (qs.take (j + 1)) : Nat) = k + total (qs.take j) + (qs.getD j []).length) := Lib.hid (by rw [htt]; omega)
      clear hin hput hgr hkp hown hstep hget hvv htt hml hv'
      generalize (qs.getD j []).length = M at *
      generalize total (qs.take j) = T at *
      go_wp2_with (fail)
      refine HM.out.mono ?_
      rintro e w2 ⟨rfl, own2, gr2⟩
      have HO2 := Lib.hid (HP.out w2 own2 gr2)
      have HK2 := Lib.hid (HK.out.trans (Kept.of_grown gr2 HG.out))
      clear own2 gr2
      go_wp2
      go_roundw
      case rel => exact ⟨j + 1, by omega, by go_num, by rw [HT.out], HO2.out, HK2.out⟩
      case measure => simp [intOf]; omega
    · have hkl : j = qs.length := by omega
      subst hkl
      rw [mrq_all] at hown
      rw [total_all qs (Nat.le_refl _)]
      have HS := Lib.hid hown; have HK := Lib.hid hkp
      clear hown hkp
      go_wp2
      go_ret
      exact ⟨rfl, HS.out, HK.out⟩

end Go.Proofs.YtoniekjchabjlaaDoor
