/- What more is wanted behind the base. -/
import Derived.Test.YtlcapifgpcimpaaDoorNetX
import Derived.Test.YtlcapifgpcimpaaDoorNetY
import Derived.Test.YtlcapifgpcimpaaDoorPgD
import Derived.Test.YtlcapifgpcimpaaDoorPgE
import Derived.Test.YtlcapifgpcimpaaDoorPgF
import Derived.Test.YtlcapifgpcimpaaDoorQCopyS
import Derived.Test.YtlcapifgpcimpaaDoorQDual
import Derived.Test.YtlcapifgpcimpaaDoorQEqD
import Derived.Test.YtlcapifgpcimpaaDoorQMath
import Derived.Test.YtlcapifgpcimpaaDoorQNetC
import Derived.Test.YtlcapifgpcimpaaDoorQNetK
import Derived.Test.YtlcapifgpcimpaaDoorQNetV
import Derived.Test.YtlcapifgpcimpaaDoorQPgC
import Derived.Test.YtlcapifgpcimpaaDoorQPgG
import Derived.Test.YtlcapifgpcimpaaDoorQPgJ
import Derived.Test.YtlcapifgpcimpaaDoorQPgM
import Derived.Test.YtlcapifgpcimpaaDoorQSubA
import Derived.Test.YtlcapifgpcimpaaDoorQValid
import Derived.Test.YtlcapifgpcimpaaDoorRowH
import Derived.Test.YtlcapifgpcimpaaDoorSeqV
import Derived.WalkKit
import Derived.Lib.Hide
import Derived.WalkSpells
import Derived.WalkLawsBesides
import Derived.BigQuiet
import Derived.Deep.QuietTactic
import Derived.Deep.AppendLies
import Derived.Deep.Draws
import Derived.Laws.OwnMore
import Derived.WalkSmall
import Derived.Deep.Onto
import Derived.Lib.LaidTab
import Derived.Deep.LoopGhost
import Derived.WalkMore
import Derived.Lib.AppendZerosOnto
import Derived.Lib.SliceRun
import Derived.Lib.Walk
import Derived.Deep.Matrix
import Derived.Deep.DeepCutAuto
import Derived.StillTailTactics
import Derived.ProofKit
import Derived.OpenShut
import Derived.ChangeOld
import Derived.ChangeVars
import Derived.Deep.DeepHandedRow
import Derived.Stop.LaidErr
import Derived.Deep.RegionLaw
import Derived.Deep.RegionWith
import Derived.Deep.RegionHeld3
import Derived.Maps.AppendAt
import Derived.BigRegion
import Derived.Laws.ResultCell
import Derived.Deep.RegionHeldLaw
import Derived.Laws.Tables
import Derived.Laws.CopyOwn
import Derived.Deep.Cut
import Derived.Laws.AppendOwnNone
import Derived.ChangeKeysEq
import Derived.Laws.StructEq
import Derived.Deep.Slices
namespace Go.Proofs.YtlcapifgpcimpaaDoor
set_option linter.unusedSimpArgs false
set_option linter.unusedVariables false
section
open Go.ChangeAt Go.ChangeShapes Go.RowKit Go.WideShapes

theorem contains_any (A : Option Addr) (n c : Nat) (L : List Int) (x : Int) (w : World) (h : RdI w w.heap.size A n L) (hn : n ≤ 1048576) :
    Calls Tryd.prog 110 #[.slice A n c, .int .i64 x] w fun e w' => ∃ k : Int, e = .returned (.int .i64 k) ∧ w = w' ∧ (x ∈ L → 0 ≤ k) ∧ (x ∉ L → k = -1) := by
  have hl := h.len
  subst hl
  have H := Lib.hid h
  clear h
  go_enter Tryd.func110, Tryd.ntmps110
  go_wp2
  go_loopw [8] (fun i wr => ∃ k : Nat, k ≤ L.length ∧ i = .int .i64 k ∧ (∀ j, j < k → L.getD j 0 ≠ x) ∧ w = wr) (fun i _ => L.length - (intOf i).toNat)
  case atStart => exact ⟨0, Nat.zero_le _, rfl, fun j hj => absurd hj (by omega), rfl⟩
  case round =>
    obtain ⟨k, hk, rfl, hno, rfl⟩ := hrel
    have HNO := Lib.hid hno
    clear hno
    by_cases hlt : k < L.length
    · have hd : decide ((k : Int) < (L.length : Int)) = true := decide_eq_true (by omega)
      obtain ⟨b, off, rfl, hbb, hcells⟩ := H.out.2 (by omega)
      have hc := hcells k hlt
      have HME : Hid (L.getD k 0 ∈ L) := Lib.hid (by simp [List.getD, hlt])
      have HG : Hid (∀ y, L.getD k 0 = y → L.getD k 0 = y) := Lib.hid (fun _ h => h)
      generalize hy : L.getD k 0 = y at *
      have HY := Lib.hid hy
      clear hcells hy
      by_cases hxy : x = y
      · have he : (x == y) = true := by simpa using hxy
        have HX := Lib.hid hxy
        clear hxy
        go_wp2
        go_ret
        exact ⟨_, rfl, rfl, fun _ => by omega, fun hn => absurd (HX.out ▸ HME.out) hn⟩
      · have he : (x == y) = false := by simpa using hxy
        have HX := Lib.hid hxy
        clear hxy
        go_wp2
        go_roundw
        case rel => exact ⟨k + 1, by omega, by go_num, fun j hj => by
          rcases Nat.lt_or_ge j k with h1 | h1
          · exact HNO.out j h1
          · obtain rfl : j = k := by omega
            rw [HY.out]; exact fun e => HX.out e.symm, trivial⟩
        case measure => simp [intOf]; omega
    · have hkl : k = L.length := by omega
      subst hkl
      go_wp2
      go_ret
      exact ⟨_, rfl, rfl, fun hm => by
        obtain ⟨j, hj, e⟩ := List.mem_iff_getElem.1 hm
        exact absurd (by simp [List.getD, hj, e]) (HNO.out j hj), fun _ => rfl⟩
theorem containsI_any (A : Option Addr) (n c : Nat) (L : List Int) (x : Int) (w : World) (h : RdI w w.heap.size A n L) (hn : n ≤ 1048576) :
    Calls Tryd.prog 82 #[.slice A n c, .int .i64 x] w fun e w' => e = .returned (.bool (decide (x ∈ L))) ∧ w = w' := by
  have HI := Lib.hid (contains_any A n c L x w h hn)
  clear h
  go_enter Tryd.func82, Tryd.ntmps82
  go_wp2_with (fail)
  refine HI.out.mono ?_
  rintro e w' ⟨k, rfl, rfl, hin, hout⟩
  by_cases hm : x ∈ L
  · have hd : decide (0 ≤ k) = true := decide_eq_true (hin hm)
    have HE : Hid (decide (x ∈ L) = true) := Lib.hid (decide_eq_true hm)
    clear hin hout hm
    go_wp2
    go_ret
    exact ⟨ret_bool HE.out.symm, rfl⟩
  · have hd : decide (0 ≤ k) = false := decide_eq_false (by have := hout hm; omega)
    have HE : Hid (decide (x ∈ L) = false) := Lib.hid (decide_eq_false hm)
    clear hin hout hm
    go_wp2
    go_ret
    exact ⟨ret_bool HE.out.symm, rfl⟩
end
end Go.Proofs.YtlcapifgpcimpaaDoor
