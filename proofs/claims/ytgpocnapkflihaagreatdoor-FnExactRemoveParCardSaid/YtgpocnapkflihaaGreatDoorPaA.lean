/- The parsing of a net in memory: its box; isFired, partOf, add, unite. -/
import Derived.Test.YtgpocnapkflihaaGreatDoorPaM
import Derived.Test.YtgpocnapkflihaaGreatDoorLxP
import Derived.Maps.AppendAt
import Derived.Deep.RegionHeldLaw
import Derived.Deep.DeepCutAuto
import Derived.BigQuiet
namespace Go.Proofs.YtgpocnapkflihaaGreatDoor
set_option linter.unusedSimpArgs false
set_option linter.unusedVariables false
open Go.ChangeAt Go.ChangeShapes Go.RowKit Go.WideShapes

/-- The cells of a parsing. -/
def pzA (X Y Z : Value) (T : List Int) (c : Int) (F : Value) : Array Value := (X :: Y :: Z :: (T.map (Value.int .i64) ++ [.int .i64 c, F])).toArray
section
variable {X Y Z F : Value} {T : List Int} {c : Int}
theorem pzA_tab {k : Nat} (hT : T.length = 48) (hk : k < 48) : (pzA X Y Z T c F)[3 + k]? = some (.int .i64 (T.getD k 0)) := by
  have e : 3 + k = k + 1 + 1 + 1 := by omega
  have hk2 : k < T.length := by omega
  simp [pzA, e, List.getElem?_append, hT, hk, hk2, List.getD]
theorem pzA_cnt (hT : T.length = 48) : (pzA X Y Z T c F)[51]? = some (.int .i64 c) := by simp [pzA, List.getElem?_append, hT]
theorem pzA_row (hT : T.length = 48) : (pzA X Y Z T c F)[52]? = some F := by simp [pzA, List.getElem?_append, hT]
theorem pzA_setT {k : Nat} (hT : T.length = 48) (hk : k < 48) (v : Int) : (pzA X Y Z T c F).setIfInBounds (3 + k) (.int .i64 v) = pzA X Y Z (T.set k v) c F := by
  have e : 3 + k = k + 1 + 1 + 1 := by omega
  unfold pzA
  rw [List.setIfInBounds_toArray, e]
  simp only [List.set_cons_succ]
  rw [List.set_append_left _ _ (by rw [List.length_map]; omega), List.map_set]
theorem pzA_setC (hT : T.length = 48) (v : Int) : (pzA X Y Z T c F).setIfInBounds 51 (.int .i64 v) = pzA X Y Z T v F := by
  unfold pzA
  rw [List.setIfInBounds_toArray, show 51 = 48 + 1 + 1 + 1 by omega]
  simp only [List.set_cons_succ]
  rw [List.set_append_right _ _ (by rw [List.length_map]; omega), List.length_map, hT]
  simp
theorem pzA_setF (hT : T.length = 48) (v : Value) : (pzA X Y Z T c F).setIfInBounds 52 v = pzA X Y Z T c v := by
  unfold pzA
  rw [List.setIfInBounds_toArray, show 52 = 49 + 1 + 1 + 1 by omega]
  simp only [List.set_cons_succ]
  rw [List.set_append_right _ _ (by rw [List.length_map]; omega), List.length_map, hT]
  simp
end
section
variable {w w' : World} {g : Nat} {X Y Z F : Value} {T : List Int} {c : Int}
end
theorem kept_set (w : World) (g i : Nat) (v : Value) : KeptS (fun k => k = g) w (w.setCell ⟨g, i, none⟩ v) :=
  KeptS.mk rfl rfl rfl ((Below.refl g w).setCell (p := ⟨g, i, none⟩) (Nat.le_refl _) _).size fun p _ hp => Below.heap_setCell _ _ _ _ hp
/-- isFired, at a table that lies at some place. -/
theorem isFired_any (g o : Nat) (v : Int) (k : Nat) (w : World) (x0 : w.cell? ⟨g, o + k, none⟩ = some (.int .i64 v)) (hk : k < 48) :
    Calls Tryz.prog 92 #[.pointer (some ⟨g, o, none⟩), .int .i64 k] w fun e w' => e = .returned (.bool (v != -1)) ∧ w = w' := by
  have hi : (k : Int) < 48 := by omega
  clear hk
  go_enter Tryz.func92, Tryz.ntmps92
  go_wp2
  go_ret
  exact ⟨rfl, rfl⟩
theorem uniQ_same {Q : Nat → Int} {a b : Nat} (h : Q a = Q b) : uniQ Q a b = Q := by
  funext k
  unfold uniQ
  rw [h, Int.max_self, Int.min_self]
  split
  · omega
  · rfl
theorem quiet_sm {P : Program} {f : FuncId} {args : Array Value} {w : World} {n : Nat} {v : Value} (h : Calls P f args (w.drewN n) fun e w' => e = .returned v ∧ w.drewN n = w') :
    Calls P f args (w.drewN n) fun e w'' => e = .returned v ∧ ∃ m, w'' = w.drewN m := h.mono fun _ _ ⟨he, hm⟩ => ⟨he, n, hm.symm⟩
end Go.Proofs.YtgpocnapkflihaaGreatDoor
