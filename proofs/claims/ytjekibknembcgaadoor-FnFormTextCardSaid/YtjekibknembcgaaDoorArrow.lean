/- ArrowOf: of the program and of the model. -/
import Derived.Test.YtjekibknembcgaaDoorJoinS
import Derived.Test.YtjekibknembcgaaDoorDual
namespace Go.Proofs.YtjekibknembcgaaDoor
open Go.RowKit

/-- ArrowOf. -/
def arrowL (a b : List Int) : List Int := joinL 12 (dualL a) b
def arrowB (a b : List Int) : Bool := joinB 12 (dualL a) b
theorem arrowL_len (a b : List Int) : (arrowL a b).length ≤ 24 := joinL_len _ _ _

set_option maxHeartbeats 1000000 in
theorem arrowOf_impl (A : Option Addr) (n c : Nat) (a : List Int) (B : Option Addr) (m d : Nat) (b : List Int) (w : World) (h : RdI w w.heap.size A n a) (h' : RdI w w.heap.size B m b) (ht : Arit w) (hu : Dual w) (hnc : n ≤ c) (hmd : m ≤ d) :
    Calls Tryd.prog 29 #[.slice A n c, .slice B m d] w (GivesB w (arrowL a b) (arrowB a b)) := by
  unfold arrowL arrowB
  have hG := dualOf_impl A n c a w h ht hu hnc
  generalize dualL a = D at *
  go_enter Tryd.func29, Tryd.ntmps29
  go_wp2_with (fail)
  refine hG.mono ?_
  rintro e w1 ⟨A1, c1, rfl, o1, bel1⟩
  have k1 := (own_cap o1).1
  have x1 := RdI.of_own o1
  have y1 := (h'.below bel1).more bel1.size
  have t1 := ht.below bel1 ht.lt
  have B1 := Lib.hid bel1
  clear hG o1 bel1
  have hJ := joined_impl 12 A1 D.length c1 D B m d b w1 x1 y1 t1 k1 hmd
  generalize joinL 12 D b = J at *
  generalize joinB 12 D b = Jb at *
  go_wp2_with (fail)
  refine hJ.mono ?_
  rintro e w2 ⟨A2, c2, rfl, o2, bel2⟩
  have HO := Lib.hid (own_more o2 B1.out.size)
  have HB := Lib.hid (B1.out.trans (bel2.mono B1.out.size))
  clear o2 bel2 hJ
  go_wp2
  go_ret2
  exact ⟨_, _, rfl, HO.out, HB.out⟩

set_option maxHeartbeats 1000000 in
theorem sArrowOf_any (A : Option Addr) (n c : Nat) (a : List Int) (B : Option Addr) (m d : Nat) (b : List Int) (w : World) (h : RdI w w.heap.size A n a) (h' : RdI w w.heap.size B m b) :
    Calls Tryd.prog 47 #[.slice A n c, .slice B m d] w (GivesB w (arrowL a b) (arrowB a b)) := by
  unfold arrowL arrowB
  have hG := sDualOf_any A n c a w h
  generalize dualL a = D at *
  go_enter Tryd.func47, Tryd.ntmps47
  go_wp2_with (fail)
  refine hG.mono ?_
  rintro e w1 ⟨A1, c1, rfl, o1, bel1⟩
  have x1 := RdI.of_own o1
  have y1 := (h'.below bel1).more bel1.size
  have B1 := Lib.hid bel1
  clear hG o1 bel1
  have hJ := sJoined_any 12 A1 D.length c1 D B m d b w1 x1 y1
  generalize joinL 12 D b = J at *
  generalize joinB 12 D b = Jb at *
  go_wp2_with (fail)
  refine hJ.mono ?_
  rintro e w2 ⟨A2, c2, rfl, o2, bel2⟩
  have HO := Lib.hid (own_more o2 B1.out.size)
  have HB := Lib.hid (B1.out.trans (bel2.mono B1.out.size))
  clear o2 bel2 hJ
  go_wp2
  go_ret2
  exact ⟨_, _, rfl, HO.out, HB.out⟩
end Go.Proofs.YtjekibknembcgaaDoor
