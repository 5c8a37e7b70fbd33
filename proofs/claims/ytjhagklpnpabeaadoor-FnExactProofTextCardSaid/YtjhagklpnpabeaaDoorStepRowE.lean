/- eqStepS: two rows of the same steps. -/
import Derived.Test.YtjhagklpnpabeaaDoorStepRowT
import Derived.Deep.RegionWith
namespace Go.Proofs.YtjhagklpnpabeaaDoor
open Go.ChangeAt Go.ChangeShapes Go.RowKit Go.WideShapes

set_option maxHeartbeats 4000000 in
theorem eqStepS_any (A A2 : Option Addr) (n c c2 : Nat) (ss : List Stp) (w : World) (h : RdP w w.heap.size A n ss) (h' : RdP w w.heap.size A2 n ss) (hn : n ≤ 1048576) (hq : ∀ q ∈ fsP ss, q.length ≤ 1048576) :
    Calls Tryd.prog 20 #[.slice A n c, .slice A2 n c2] w fun e w' => e = .returned (.bool true) ∧ Below w.heap.size w w' := by
  have hl := h.len
  have hnn : (n != n) = false := by simp
  have HR := Lib.hid h; have HR2 := Lib.hid h'; have HQ := Lib.hid hq
  clear h h' hq
  go_enter Tryd.func20, Tryd.ntmps20
  go_wp2
  go_loopw [5] (fun i wr => ∃ k : Nat, k ≤ n ∧ i = .int .i64 k ∧ Below w.heap.size w wr) (fun i _ => n - (intOf i).toNat)
  case atStart => exact ⟨0, Nat.zero_le _, rfl, Below.refl _ _⟩
  case round =>
    obtain ⟨k, hk, rfl, hB⟩ := hrel
    have HB := Lib.hid hB
    by_cases hlt : k < n
    · obtain ⟨b, off, rfl, hbb, hcells⟩ := HR.out.2 (by omega)
      obtain ⟨b2, off2, rfl, hbb2, hcells2⟩ := HR2.out.2 (by omega)
      obtain ⟨A', c', hat⟩ := hcells k hlt
      obtain ⟨A3, c3, hat2⟩ := hcells2 k hlt
      have hm := HQ.out _ (getD_mem (show k < (fsP ss).length by rw [fsP_len]; omega))
      rw [fsP_getD ss k (by omega)] at hm
      obtain ⟨x0, x1, x2, x3, x4, x5, hx6, hx7⟩ := hat.keep (fun _ hp => hB.cell hp) hbb
      obtain ⟨y0, y1, y2, y3, y4, y5, hy6, hy7⟩ := hat2.keep (fun _ hp => hB.cell hp) hbb2
      have HE := Lib.hid (eqStep_any (ss.getD k Stp.nil).r (ss.getD k Stp.nil).a (ss.getD k Stp.nil).b (ss.getD k Stp.nil).i (ss.getD k Stp.nil).j A' A3 (ss.getD k Stp.nil).f.length c' c3 (ss.getD k Stp.nil).f wr.drew (hx7.more hB.size) (hy7.more hB.size) hm)
      have hi1 : (k : Int) < (n : Int) := by omega
      clear hcells hcells2 hat hat2 hB hx7 hy7 HQ
      generalize (ss.getD k Stp.nil).f.length = M at *
      generalize (ss.getD k Stp.nil).r = sr at *; generalize (ss.getD k Stp.nil).a = sa at *; generalize (ss.getD k Stp.nil).b = sb at *; generalize (ss.getD k Stp.nil).i = si at *; generalize (ss.getD k Stp.nil).j = sj at *
      go_wp2_with (fail)
      go_region_with (go_at_call 15; refine HE.out.mono ?_; rintro e wf ⟨rfl, bf'⟩; have bf := undrew bf'; clear bf')
      all_goals go_wp2
      all_goals
        go_roundw
        case rel => exact ⟨k + 1, by omega, by go_num, HB.out.trans (bf.mono HB.out.size)⟩
        case measure => simp [intOf]; omega
    · have hkl : k = n := by omega
      subst hkl
      clear hB
      go_wp2
      go_ret
      exact ⟨rfl, HB.out⟩
end Go.Proofs.YtjhagklpnpabeaaDoor
