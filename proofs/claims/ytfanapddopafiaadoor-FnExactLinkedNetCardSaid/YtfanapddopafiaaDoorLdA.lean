/- The program's leavesAmong: the wires of the leaves. -/
import Derived.Test.YtfanapddopafiaaDoorLdM
import Derived.Test.YtfanapddopafiaaDoorQNetK
import Derived.Deep.AppendLies
namespace Go.Proofs.YtfanapddopafiaaDoor
set_option linter.unusedSimpArgs false
set_option linter.unusedVariables false
open Go.ChangeAt Go.ChangeShapes Go.RowKit Go.WideShapes

set_option maxRecDepth 100000 in
set_option maxHeartbeats 500000 in
theorem leavesAmong_any (A : Option Addr) (n c : Nat) (ws : List (List Int)) (w : World) (h : RdQ w w.heap.size A n ws) (hn : n ≤ 1000) (hp : ∀ k, k < ws.length → 0 < (ws.getD k []).length) :
    Calls Tryd.prog 63 #[.slice A n c] w (Gives w (lfW ws)) := by
  have hl := h.len
  subst hl
  obtain ⟨i0, hi0, hz0, hz1, hz2⟩ := info_parts info_i64
  have HI := Lib.hid hi0; have HZ0 := Lib.hid hz0; have HZ1 := Lib.hid hz1; have HZ2 := Lib.hid hz2
  have HR := Lib.hid (fun (wx : World) (hx : Below w.heap.size w wx) => show RdQ wx wx.heap.size A ws.length ws from (h.below hx).more hx.size)
  have HP := Lib.hid hp
  clear h hp hi0 hz0 hz1 hz2
  go_enter Tryd.func63, Tryd.ntmps63
  go_wp2
  go_loopw [3, 8] (fun v i wr => ∃ k : Nat, k ≤ ws.length ∧ i = .int .i64 k ∧ wr.ownsRow w.heap.size 2 1 v (lfU ws k).length ((lfU ws k).map (Value.int .i64)) ∧ Below w.heap.size w wr) (fun _ i _ => ws.length - (intOf i).toNat)
  case atStart => exact ⟨0, Nat.zero_le _, rfl, ⟨by simp [lfU, fltU], .inl ⟨rfl, rfl⟩⟩, Below.refl _ _⟩
  case round =>
    obtain ⟨k, hk, rfl, hown, hB⟩ := hrel
    by_cases hlt : k < ws.length
    · obtain ⟨b, off, hA, hbb, hcells⟩ := (HR.out _ hB).2 (by omega)
      obtain ⟨A', c', hcell, hcc, hrd⟩ := hcells k hlt
      obtain ⟨bq, offq, hA', hbq, hcq⟩ := hrd.2 (HP.out k hlt)
      have hsym := hcq 0 (HP.out k hlt)
      rw [Nat.add_zero] at hsym
      have hpk := HP.out k hlt
      have HYE := Lib.hid (fun e => fltU_yes (p := hdB ws) (g := fun i => (i : Int)) (k := k) e)
      have HNO := Lib.hid (fun e => fltU_no (p := hdB ws) (g := fun i => (i : Int)) (k := k) e)
      have hln := fltU_len (hdB ws) (fun i => (i : Int)) k
      have HO := Lib.hid hown; have HB := Lib.hid hB
      have hD : Hid (hdB ws k = leafB ((ws.getD k []).getD 0 0)) := Lib.hid rfl
      obtain ⟨z, hz⟩ : ∃ z, (ws.getD k []).getD 0 0 = z := ⟨_, rfl⟩
      rw [hz] at hsym hD
      obtain ⟨nl, hnl⟩ : ∃ nl, (ws.getD k []).length = nl := ⟨_, rfl⟩
      rw [hnl] at hcell hpk
      have hl1 : (0 : Int) < (nl : Int) := by omega
      subst hA'
      have hsz := hB.size
      clear hown hB hcells hrd hcq hz hnl
      rw [hA]
      clear hA
      cases hlf : leafB z with
      | true =>
        have HSU := Lib.hid (show lfU ws (k + 1) = lfU ws k ++ [(k : Int)] from HYE.out (hD.out.trans hlf))
        have hlu : (lfU ws k).length ≤ k := hln
        have HIL := Lib.hid (fun wx => isLeaf_any z wx)
        rw [hlf] at HIL
        obtain ⟨H2, hH2⟩ : ∃ q, wr.heap.size = q := ⟨_, rfl⟩
        have HH2 := Lib.hid hH2
        have HLO := Lib.hid hsz
        clear hlf hH2 hsz
        go_wp2_with (fail)
        refine (HIL.out _).mono ?_
        rintro e w3 ⟨rfl, rfl⟩
        go_wp2_with (at_builtin; refine wpList_append_lies _ rfl _ _ 24 rfl w.heap.size 2 i0 (.int .i64 0) 1 8 Tryd.underlying24 HI.out HZ0.out HZ1.out HZ2.out rfl (by decide) _ _ _ rfl (HO.out.alloc _) ⟨wr.heap.size, 0, none⟩ 1 1 [.int .i64 k] rfl rfl (cell_one_new _ _ _) (by simp [Value.oneCell']) (by decide) (by simp only [maxLen]; omega) (by omega) (Nat.le_trans HLO.out (by simp)) (H2 + 1) (by simp [HH2.out]) ?_)
        intro g4 cap4 w4 hown4 hgrow4 hat4 hlt4
        have HB4 := Lib.hid ((HB.out.alloc HB.out.size (.cells #[.int .i64 k] 2)).grown hgrow4 (by simp; have := HLO.out; omega) (fun q hq => (HO.out.lt q hq).1))
        have HLS := Lib.hid (show (lfU ws (k + 1)).length = (lfU ws k).length + 1 by rw [HSU.out, List.length_append]; rfl)
        have O4 : Hid (w4.ownsRow w.heap.size 2 1 (.slice (some ⟨g4, 0, none⟩) ((lfU ws k).length + 1) cap4) (lfU ws (k + 1)).length ((lfU ws (k + 1)).map (Value.int .i64))) := Lib.hid (by rw [HLS.out, HSU.out, List.map_append]; exact hown4)
        clear hown4 hgrow4 hat4 hlt4
        go_wp2
        go_roundw
        case rel => exact ⟨k + 1, by omega, by go_num, O4.out, HB4.out⟩
        case measure => simp [intOf]; omega
      | false =>
        have HSU := Lib.hid (show lfU ws (k + 1) = lfU ws k from HNO.out (hD.out.trans hlf))
        have HIL := Lib.hid (fun wx => isLeaf_any z wx)
        rw [hlf] at HIL
        clear hlf
        go_wp2_with (fail)
        refine (HIL.out _).mono ?_
        rintro e w3 ⟨rfl, rfl⟩
        go_wp2
        go_roundw
        case rel => exact ⟨k + 1, by omega, by go_num, (by rw [HSU.out]; exact HO.out), HB.out⟩
        case measure => simp [intOf]; omega
    · have hkl : k = ws.length := by omega
      subst hkl
      have HG := Lib.hid (gives_of hown rfl (show lfU ws ws.length = lfW ws from rfl) (Nat.le_refl _) hB)
      clear hown hB
      go_wp2
      go_ret
      exact HG.out
end Go.Proofs.YtfanapddopafiaaDoor
