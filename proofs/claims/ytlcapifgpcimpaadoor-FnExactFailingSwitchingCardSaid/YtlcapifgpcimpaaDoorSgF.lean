/- slices.Clone and slices.IndexFunc at arcs; the closure that leaves arcs out. -/
import Derived.Test.YtlcapifgpcimpaaDoorSgM
import Derived.Test.YtlcapifgpcimpaaDoorBaseK
import Derived.Deep.RegionHeldLaw
import Derived.Deep.DeepCutAuto
import Derived.BigQuiet
namespace Go.Proofs.YtlcapifgpcimpaaDoor
set_option linter.unusedSimpArgs false
set_option linter.unusedVariables false
open Go.ChangeAt Go.ChangeShapes Go.RowKit Go.WideShapes

/-- The arc's wire is among the row's numbers. -/
def outB (X : List Int) (a : Ac) : Bool := decide (a.w ∈ X)
/-- What the closure wants: its box with the row of numbers. -/
structure OutS (w : World) (bx : Nat) (A : Option Addr) (c : Nat) (X : List Int) : Prop where
  lt : bx < w.heap.size
  box : w.cell? ⟨bx, 0, none⟩ = some (.slice A X.length c)
  rd : RdI w w.heap.size A X.length X
theorem OutS.below {w w' : World} {bx c : Nat} {A : Option Addr} {X : List Int} (h : OutS w bx A c X) (hb : Below w.heap.size w w') : OutS w' bx A c X :=
  ⟨Nat.lt_of_lt_of_le h.lt hb.size, (hb.cell (p := ⟨bx, 0, none⟩) h.lt).trans h.box, (h.rd.below hb).more hb.size⟩
set_option maxRecDepth 100000 in
set_option maxHeartbeats 1000000 in
theorem leftOut_any (bx : Nat) (A : Option Addr) (c : Nat) (X : List Int) (a : Ac) (w : World) (h : OutS w bx A c X) (hX : X.length ≤ 1048576) :
    Calls Tryd.prog 81 #[.agg #[.int .i64 a.w, .int .i64 a.f, .int .i64 a.t], .pointer (some ⟨bx, 0, none⟩)] w fun e w' => e = .returned (.bool (outB X a)) ∧ Below w.heap.size w w' := by
  obtain ⟨aw, af, at'⟩ := a
  obtain ⟨w1, hw1⟩ : ∃ u, u = w.alloc (.cells #[.int .i64 aw, .int .i64 af, .int .i64 at'] 59) := ⟨_, rfl⟩
  have hb : Below w.heap.size w w1 := by rw [hw1]; exact (Below.refl _ _).alloc (Nat.le_refl _) _
  have hg : w1.heap[w.heap.size]? = some (.cells #[.int .i64 aw, .int .i64 af, .int .i64 at'] 59 (0, 0)) := by rw [hw1]; exact heap_alloc_new _ _
  have h1 := h.below hb
  have hbox := h1.box
  have x0 := cell_of_row _ _ 0 _ _ (0, 0) hg
  have HC := Lib.hid (containsI_any A X.length c X aw w1 h1.rd hX)
  have HB := Lib.hid hb
  have HE : Hid (decide (aw ∈ X) = outB X ⟨aw, af, at'⟩) := Lib.hid rfl
  simp only [List.getElem?_toArray, List.getElem?_cons_zero] at x0
  clear hb hg h1 h
  dsimp only
  go_enter Tryd.func81, Tryd.ntmps81
  go_upto_region 1 with (fail)
  rw [← hw1]
  clear hw1
  go_wp2_with (fail)
  refine HC.out.mono ?_
  rintro e w2 ⟨rfl, rfl⟩
  go_wp2
  go_ret
  exact ⟨ret_bool HE.out, HB.out⟩

set_option maxRecDepth 100000 in
set_option maxHeartbeats 1000000 in
theorem indexArc_any (bx : Nat) (A : Option Addr) (c : Nat) (X : List Int) (hX : X.length ≤ 1048576) (B : Option Addr) (d : Nat) (ar : List Ac) (w : World) (h : OutS w bx A c X) (r : RdA w w.heap.size B ar.length ar) (hl : ar.length ≤ 1048576) :
    Calls Tryd.prog 111 #[.slice B ar.length d, .func (.func 81) #[] #[.pointer (some ⟨bx, 0, none⟩)]] w fun e w' =>
      ((e = .returned (.int .i64 (-1)) ∧ (∀ m, m < ar.length → outB X (ar.getD m Ac.nil) = false)) ∨ ∃ k : Nat, e = .returned (.int .i64 k) ∧ k < ar.length ∧ (∀ m, m < k → outB X (ar.getD m Ac.nil) = false) ∧ outB X (ar.getD k Ac.nil) = true) ∧ Below w.heap.size w w' := by
  have HC := Lib.hid (fun (wx : World) (hx : Below w.heap.size w wx) (a : Ac) => leftOut_any bx A c X a wx (h.below hx) hX)
  have HR := Lib.hid (fun (wx : World) (hx : Below w.heap.size w wx) => show RdA wx wx.heap.size B ar.length ar from (r.below hx).more hx.size)
  clear r h
  go_enter Tryd.func111, Tryd.ntmps111
  go_wp2
  go_loopw [8] (fun i wr => ∃ k : Nat, k ≤ ar.length ∧ i = .int .i64 k ∧ (∀ m, m < k → outB X (ar.getD m Ac.nil) = false) ∧ Below w.heap.size w wr) (fun i _ => ar.length - (intOf i).toNat)
  case atStart => exact ⟨0, Nat.zero_le _, rfl, fun m hm => absurd hm (by omega), Below.refl _ _⟩
  case round =>
    obtain ⟨k, hk, rfl, hpl, hB⟩ := hrel
    have HB := Lib.hid hB
    have HPL := Lib.hid hpl
    by_cases hlt : k < ar.length
    · obtain ⟨b, off, hA, hbb, hcells⟩ := (HR.out _ hB).at (show 0 < ar.length by omega)
      obtain ⟨x0, x1, x2⟩ := hcells k hlt
      have hc := HC.out _ hB (ar.getD k Ac.nil)
      obtain ⟨p, hp⟩ : ∃ p, outB X (ar.getD k Ac.nil) = p := ⟨_, rfl⟩
      have HP := Lib.hid hp
      rw [hp] at hc
      have HCC := Lib.hid hc
      clear hcells hB hpl hp hc
      obtain ⟨⟨aw, af, at'⟩, ha⟩ : ∃ a, ar.getD k Ac.nil = a := ⟨_, rfl⟩
      rw [ha] at x0 x1 x2 HCC
      dsimp only at x0 x1 x2 HCC
      clear ha
      subst hA
      cases p with
      | true =>
        go_wp2_with (fail)
        refine HCC.out.mono ?_
        rintro e w1 ⟨rfl, bel⟩
        have HB1 := Lib.hid (HB.out.trans (bel.mono HB.out.size))
        clear bel x0 x1 x2
        go_wp2
        go_ret
        exact ⟨.inr ⟨k, rfl, hlt, HPL.out, HP.out⟩, HB1.out⟩
      | false =>
        go_wp2_with (fail)
        refine HCC.out.mono ?_
        rintro e w1 ⟨rfl, bel⟩
        have HB1 := Lib.hid (HB.out.trans (bel.mono HB.out.size))
        clear bel x0 x1 x2
        go_wp2
        go_roundw
        case rel => exact ⟨k + 1, by omega, by go_num, fun m hm => by by_cases e : m = k; (subst e; exact HP.out); exact HPL.out m (by omega), HB1.out⟩
        case measure => simp [intOf]; omega
    · have hkl : k = ar.length := by omega
      subst hkl
      clear hB hpl
      go_wp2
      go_ret
      exact ⟨.inl ⟨rfl, HPL.out⟩, HB.out⟩
end Go.Proofs.YtlcapifgpcimpaaDoor
