/- What more is wanted behind the base. -/
import Derived.Test.YtagjlilbcldfaaaDoorNetX
import Derived.Test.YtagjlilbcldfaaaDoorNetY
import Derived.Test.YtagjlilbcldfaaaDoorPgD
import Derived.Test.YtagjlilbcldfaaaDoorPgE
import Derived.Test.YtagjlilbcldfaaaDoorPgF
import Derived.Test.YtagjlilbcldfaaaDoorQDual
import Derived.Test.YtagjlilbcldfaaaDoorQFrag
import Derived.Test.YtagjlilbcldfaaaDoorQLineB
import Derived.Test.YtagjlilbcldfaaaDoorQMath
import Derived.Test.YtagjlilbcldfaaaDoorQNetC
import Derived.Test.YtagjlilbcldfaaaDoorQPgC
import Derived.Test.YtagjlilbcldfaaaDoorQPgG
import Derived.Test.YtagjlilbcldfaaaDoorQPgM
import Derived.Test.YtagjlilbcldfaaaDoorQReadA
import Derived.Test.YtagjlilbcldfaaaDoorQSeqV
import Derived.Test.YtagjlilbcldfaaaDoorQStepH
import Derived.Test.YtagjlilbcldfaaaDoorQSubA
import Derived.Test.YtagjlilbcldfaaaDoorQText
import Derived.Test.YtagjlilbcldfaaaDoorQValid
import Derived.Test.YtagjlilbcldfaaaDoorReadP
import Derived.Test.YtagjlilbcldfaaaDoorRowH
import Derived.Test.YtagjlilbcldfaaaDoorSeqI
import Derived.WalkKit
import Derived.Lib.Hide
import Derived.WalkSpells
import Derived.WalkLawsBesides
import Derived.BigQuiet
import Derived.Deep.QuietTactic
import Derived.Deep.AppendLies
import Derived.Deep.Draws
import Derived.Laws.OwnMore
import Derived.Lib.LaidTab
import Derived.WalkSmall
import Derived.Deep.LoopGhost
import Derived.WalkMore
import Derived.Deep.Onto
import Derived.Lib.AppendZerosOnto
import Derived.Lib.SliceRun
import Derived.Lib.Walk
import Derived.Deep.Matrix
import Derived.Laws.Runes
import Derived.Laws.IdiomStrings
import Derived.Deep.DeepCutAuto
import Derived.StillTailTactics
import Derived.ProofKit
import Derived.OpenShut
import Derived.ChangeOld
import Derived.ChangeVars
import Derived.Deep.DeepHandedRow
import Derived.Stop.LaidErr
import Derived.Deep.RegionLaw
import Derived.Deep.RegionWith
import Derived.Deep.RegionHeld3
import Derived.Maps.AppendAt
import Derived.BigRegion
import Derived.Laws.ResultCell
import Derived.Deep.RegionHeldLaw
import Derived.Laws.Tables
import Derived.Laws.CopyOwn
import Derived.Deep.Cut
import Derived.Laws.AppendOwnNone
import Derived.Laws.StructEq
import Derived.Stop.Asserts
import Derived.Lib.Join
import Derived.Laws.RangeString
import Derived.Laws.RangeAny
import Derived.Lib.OthersKept
import Derived.Lib.DecodeN
import Derived.Lib.QuoteLoop
import Derived.Lib.SpaceUEq
import Derived.Lib.AtoiErrMem
namespace Go.Proofs.YtagjlilbcldfaaaDoor
set_option linter.unusedSimpArgs false
set_option linter.unusedVariables false
section
open Go.ChangeAt Go.ChangeShapes Go.RowKit Go.WideShapes

/-- Words joined by spaces. -/
noncomputable def jn (T : List ByteArray) : ByteArray := ⟨(Lib.join (T.map (·.data.toList)) [32]).toArray⟩
end
section
open Go.ChangeAt Go.ChangeShapes Go.RowKit Go.WideShapes

def No32 (x : ByteArray) : Prop := (32 : UInt8) ∉ x.data.toList
theorem splG_run {s : ByteArray} {fr m : Nat} (hm : m ≤ s.size) : ∀ (d k : Nat), k + d = m → (∀ j, k ≤ j → j < m → ¬ s.data.toList[j]? = some 32) → splG s (s.size - k) fr = splG s (s.size - m) fr
  | 0, k, h, _ => by rw [show k = m by omega]
  | d + 1, k, h, hn => by
    rw [splG_no (by omega) (hn k (Nat.le_refl _) (by omega))]
    exact splG_run hm d (k + 1) (by omega) fun j h1 h2 => hn j (by omega) h2
theorem size_list (s : ByteArray) : s.size = s.data.toList.length := Array.length_toList.symm
theorem mid_no {p x r : List UInt8} (hx : (32 : UInt8) ∉ x) {j : Nat} (h1 : p.length ≤ j) (h2 : j < p.length + x.length) : ¬ (p ++ (x ++ r))[j]? = some 32 := by
  intro e
  rw [List.getElem?_append_right h1, List.getElem?_append_left (by omega)] at e
  exact hx (List.mem_of_getElem? e)
theorem extract_mid {s : ByteArray} {p x r : List UInt8} (h : s.data.toList = p ++ (x ++ r)) : s.extract p.length (p.length + x.length) = ⟨x.toArray⟩ := ba_ext (by
  simp only [ByteArray.data_extract]
  simp [List.extract_eq_take_drop, h])
theorem splG_words (s : ByteArray) : ∀ (ws : List ByteArray) (p : List UInt8) (x : ByteArray), No32 x → (∀ y ∈ ws, No32 y) → s.data.toList = p ++ Lib.join ((x :: ws).map (·.data.toList)) [32] → splG s (s.size - p.length) p.length = x :: ws
  | [], p, x, hx, _, h => by
    have h' : s.data.toList = p ++ (x.data.toList ++ []) := by rw [h]; simp [Lib.join_one]
    have hz : s.size = p.length + x.data.toList.length := by rw [size_list, h']; simp
    rw [splG_run (Nat.le_refl _) x.data.toList.length p.length hz.symm fun j h1 h2 => by rw [h']; exact mid_no hx h1 (by omega), splG_end, hz, extract_mid h']
  | y :: ws, p, x, hx, hw, h => by
    have h' : s.data.toList = p ++ (x.data.toList ++ (32 :: Lib.join ((y :: ws).map (·.data.toList)) [32])) := by
      rw [h, List.map_cons, List.map_cons, Lib.join_cons, Lib.join_cons]
      simp [Lib.joinTail]
    have hz : s.size = p.length + (x.data.toList.length + (1 + (Lib.join ((y :: ws).map (·.data.toList)) [32]).length)) := by rw [size_list, h']; simp; omega
    have hm : p.length + x.data.toList.length < s.size := by omega
    have h32 : s.data.toList[p.length + x.data.toList.length]? = some 32 := by
      rw [h', List.getElem?_append_right (by omega), List.getElem?_append_right (by omega)]
      simp
    rw [splG_run (by omega) x.data.toList.length p.length rfl fun j h1 h2 => by rw [h']; exact mid_no hx h1 h2, splG_yes hm h32, extract_mid h']
    have ih := splG_words s ws (p ++ (x.data.toList ++ [32])) y (hw y (by simp)) (fun z hz => hw z (by simp [hz])) (by rw [h']; simp)
    have el : (p ++ (x.data.toList ++ [32])).length = p.length + x.data.toList.length + 1 := by simp; omega
    rw [el] at ih
    rw [ih]
theorem spl_jn {T : List ByteArray} (hT : T ≠ []) (h : ∀ x ∈ T, No32 x) : spl (jn T) = T := by
  cases T with
  | nil => exact absurd rfl hT
  | cons x ws =>
    have := splG_words (jn (x :: ws)) ws [] x (h x (by simp)) (fun y hy => h y (by simp [hy])) (by simp [jn])
    exact this
theorem get_list {s : ByteArray} {j : Nat} (h : j < s.size) : s.data.toList[j]? = some (s.get! j) := by
  have e : s.get! j = s[j]'h := get_at s j h
  rw [e]
  have h' : j < s.data.toList.length := by rw [← size_list]; exact h
  rw [List.getElem?_eq_getElem h']
  rfl
theorem noSp_of {s : ByteArray} {k : Nat} (hk : k ≤ s.size) (h : ∀ j, j < k → ¬ s.data.toList[j]? = some 32) : NoSp s k := ⟨hk, fun j hj e => h j hj (by
  rw [get_list (show j < s.size by omega), show s.get! j = 32 from UInt8.toNat_inj.1 e])⟩
theorem cw_one {x : ByteArray} (hx : No32 x) : cwA x = x ∧ cwB x = ⟨#[]⟩ :=
  cw_none (noSp_of (Nat.le_refl _) fun _ _ e => hx (List.mem_of_getElem? e))
theorem cw_more {x y : ByteArray} {T : List ByteArray} (hx : No32 x) : cwA (jn (x :: y :: T)) = x ∧ cwB (jn (x :: y :: T)) = jn (y :: T) := by
  have h' : (jn (x :: y :: T)).data.toList = [] ++ (x.data.toList ++ (32 :: (jn (y :: T)).data.toList)) := by
    show Lib.join _ _ = _
    rw [List.map_cons, List.map_cons, Lib.join_cons]
    simp [jn, Lib.joinTail, Lib.join_cons]
  have hz : (jn (x :: y :: T)).size = x.data.toList.length + (1 + (jn (y :: T)).data.toList.length) := by rw [size_list, h']; simp; omega
  have hk : x.data.toList.length < (jn (x :: y :: T)).size := by omega
  have h32 : (jn (x :: y :: T)).data.toList[x.data.toList.length]? = some 32 := by rw [h']; simp
  have hg : (jn (x :: y :: T)).get! x.data.toList.length = 32 := Option.some.inj ((get_list hk).symm.trans h32)
  have hn : NoSp (jn (x :: y :: T)) x.data.toList.length := noSp_of (by omega) fun j hj => by rw [h']; exact mid_no hx (Nat.zero_le _) (by simpa using hj)
  obtain ⟨ea, eb⟩ := cw_at hk (by rw [hg]; rfl) hn
  have e1 := extract_mid (p := []) h'
  have h2 : (jn (x :: y :: T)).data.toList = (x.data.toList ++ [32]) ++ ((jn (y :: T)).data.toList ++ []) := by rw [h']; simp
  have e2 := extract_mid h2
  have el : (x.data.toList ++ [32]).length = x.data.toList.length + 1 := by simp
  rw [el, show x.data.toList.length + 1 + (jn (y :: T)).data.toList.length = (jn (x :: y :: T)).size by omega] at e2
  simp only [List.length_nil, Nat.zero_add] at e1
  rw [ea, eb, e1, e2]
  exact ⟨rfl, rfl⟩
end
end Go.Proofs.YtagjlilbcldfaaaDoor
