/- IsPoint of model and program. -/
import Derived.Test.YtlcapifgpcimpaaDoorEgM
namespace Go.Proofs.YtlcapifgpcimpaaDoor
set_option linter.unusedSimpArgs false
set_option linter.unusedVariables false
open Go.ChangeAt Go.ChangeShapes Go.RowKit Go.WideShapes

def ptB (G : Gr) : Bool := decide (G.n = 1) && decide (G.e.length = 0)
theorem sIsPoint_any (h : GH) (G : Gr) (w : World) :
    Calls Tryd.prog 43 #[.agg #[.int .i64 G.n, .slice h.A G.e.length h.c]] w fun e w' => e = .returned (.bool (ptB G)) ∧ Below w.heap.size w w' := by
  obtain ⟨A, c⟩ := h
  obtain ⟨nd, es⟩ := G
  unfold ptB
  dsimp only
  have HB : Hid (Below w.heap.size w (w.alloc (.cells #[.int .i64 nd, .slice A es.length c] 30))) := Lib.hid ((Below.refl _ _).alloc (Nat.le_refl _) _)
  generalize es.length = n at *
  by_cases h1 : nd = 1
  · by_cases h2 : n = 0
    · have d1 : (nd == 1) = true := by simp [h1]
      have d2 : ((n : Int) == 0) = true := by simp [h2]
      have HE : Hid (true = (decide (nd = 1) && decide (n = 0))) := Lib.hid (by simp [h1, h2])
      clear h1 h2
      go_enter Tryd.func43, Tryd.ntmps43
      go_wp2
      go_ret
      exact ⟨ret_bool HE.out, HB.out⟩
    · have d1 : (nd == 1) = true := by simp [h1]
      have d2 : ((n : Int) == 0) = false := by simp [h2]
      have HE : Hid (false = (decide (nd = 1) && decide (n = 0))) := Lib.hid (by simp [h1, h2])
      clear h1 h2
      go_enter Tryd.func43, Tryd.ntmps43
      go_wp2
      go_ret
      exact ⟨ret_bool HE.out, HB.out⟩
  · have d1 : (nd == 1) = false := by simp [h1]
    have HE : Hid (false = (decide (nd = 1) && decide (n = 0))) := Lib.hid (by simp [h1])
    clear h1
    go_enter Tryd.func43, Tryd.ntmps43
    go_wp2
    go_ret
    exact ⟨ret_bool HE.out, HB.out⟩
theorem isPoint_impl (h : GH) (G : Gr) (w : World) :
    Calls Tryd.prog 45 #[.agg #[.int .i64 G.n, .slice h.A G.e.length h.c]] w fun e w' => e = .returned (.bool (ptB G)) ∧ Below w.heap.size w w' := by
  obtain ⟨A, c⟩ := h
  obtain ⟨nd, es⟩ := G
  unfold ptB
  dsimp only
  have HB : Hid (Below w.heap.size w (w.alloc (.cells #[.int .i64 nd, .slice A es.length c] 30))) := Lib.hid ((Below.refl _ _).alloc (Nat.le_refl _) _)
  generalize es.length = n at *
  by_cases h1 : nd = 1
  · by_cases h2 : n = 0
    · have d1 : (nd == 1) = true := by simp [h1]
      have d2 : ((n : Int) == 0) = true := by simp [h2]
      have HE : Hid (true = (decide (nd = 1) && decide (n = 0))) := Lib.hid (by simp [h1, h2])
      clear h1 h2
      go_enter Tryd.func45, Tryd.ntmps45
      go_wp2
      go_ret
      exact ⟨ret_bool HE.out, HB.out⟩
    · have d1 : (nd == 1) = true := by simp [h1]
      have d2 : ((n : Int) == 0) = false := by simp [h2]
      have HE : Hid (false = (decide (nd = 1) && decide (n = 0))) := Lib.hid (by simp [h1, h2])
      clear h1 h2
      go_enter Tryd.func45, Tryd.ntmps45
      go_wp2
      go_ret
      exact ⟨ret_bool HE.out, HB.out⟩
  · have d1 : (nd == 1) = false := by simp [h1]
    have HE : Hid (false = (decide (nd = 1) && decide (n = 0))) := Lib.hid (by simp [h1])
    clear h1
    go_enter Tryd.func45, Tryd.ntmps45
    go_wp2
    go_ret
    exact ⟨ret_bool HE.out, HB.out⟩
end Go.Proofs.YtlcapifgpcimpaaDoor
