/- ProofText of the program: is every step plain? slices.ContainsFunc with the closure. -/
import Derived.Test.YtjhagklpnpabeaaDoorProofS
import Derived.Test.YtjhagklpnpabeaaDoorStepI
namespace Go.Proofs.YtjhagklpnpabeaaDoor
open Go.ChangeAt Go.ChangeShapes Go.RowKit Go.WideShapes

/-- The closure: a step that is not plain. -/
theorem notPlain_any (r a b i j : Int) (A : Option Addr) (n c : Nat) (f : List Int) (w : World) (h : RdI w w.heap.size A n f) (hnc : n ≤ c) (ht : Arit w) :
    Calls Tryd.prog 47 #[Value.agg #[Value.int .i64 r, Value.int .i64 a, Value.int .i64 b, Value.int .i64 i, Value.int .i64 j, Value.slice A n c]] w fun e w' => e = .returned (.bool (!plainB r a b i j f)) ∧ Below w.heap.size w w' := by
  obtain ⟨w1, hw1⟩ : ∃ w1, w1 = w.alloc (.cells #[Value.int .i64 r, Value.int .i64 a, Value.int .i64 b, Value.int .i64 i, Value.int .i64 j, Value.slice A n c] 35) := ⟨_, rfl⟩
  have hb1 := box_any w (.cells #[Value.int .i64 r, Value.int .i64 a, Value.int .i64 b, Value.int .i64 i, Value.int .i64 j, Value.slice A n c] 35)
  have p1 : (w.alloc (.cells #[Value.int .i64 r, Value.int .i64 a, Value.int .i64 b, Value.int .i64 i, Value.int .i64 j, Value.slice A n c] 35)).heap[w.heap.size]? = some (.cells #[Value.int .i64 r, Value.int .i64 a, Value.int .i64 b, Value.int .i64 i, Value.int .i64 j, Value.slice A n c] 35 (0, 0)) := heap_alloc_new _ _
  rw [← hw1] at hb1 p1
  have x0 : w1.cell? ⟨w.heap.size, 0, none⟩ = some (.int .i64 r) := cell_of_row _ _ 0 _ _ (0, 0) p1
  have x1 : w1.cell? ⟨w.heap.size, 1, none⟩ = some (.int .i64 a) := cell_of_row _ _ 1 _ _ (0, 0) p1
  have x2 : w1.cell? ⟨w.heap.size, 2, none⟩ = some (.int .i64 b) := cell_of_row _ _ 2 _ _ (0, 0) p1
  have x3 : w1.cell? ⟨w.heap.size, 3, none⟩ = some (.int .i64 i) := cell_of_row _ _ 3 _ _ (0, 0) p1
  have x4 : w1.cell? ⟨w.heap.size, 4, none⟩ = some (.int .i64 j) := cell_of_row _ _ 4 _ _ (0, 0) p1
  have x5 : w1.cell? ⟨w.heap.size, 5, none⟩ = some (.slice A n c) := cell_of_row _ _ 5 _ _ (0, 0) p1
  have HPS := Lib.hid (plainStep_impl r a b i j A n c f w1 ((h.below hb1).more hb1.size) hnc (ht.below hb1 ht.lt))
  have HB := Lib.hid hb1
  clear hb1 p1 h ht
  generalize plainB r a b i j f = PB at *
  go_enter Tryd.func47, Tryd.ntmps47
  go_wp2_with (fail)
  rw [← hw1]
  clear hw1
  refine HPS.out.mono ?_
  rintro e w2 ⟨rfl, bel2⟩
  have HB2 := Lib.hid (HB.out.trans (bel2.mono HB.out.size))
  clear bel2
  go_wp2
  go_ret
  exact ⟨rfl, HB2.out⟩

/-- Some step is not plain. -/
def badP (ss : List Stp) : Bool := ss.any fun s => !plP s
theorem badP_yes {ss : List Stp} {k : Nat} (hk : k < ss.length) (h : plP (ss.getD k Stp.nil) = false) : badP ss = true := List.any_eq_true.2 ⟨ss.getD k Stp.nil, by simp [List.getD, hk], by rw [h]; rfl⟩
theorem badP_no {ss : List Stp} (h : ∀ m, m < ss.length → plP (ss.getD m Stp.nil) = true) : badP ss = false := by
  unfold badP
  rw [List.any_eq_false]
  intro s hs
  obtain ⟨m, hm, rfl⟩ := List.getElem_of_mem hs
  have := h m hm
  have e : ss.getD m Stp.nil = ss[m] := by simp [List.getD, hm]
  rw [e] at this
  rw [this]; decide

set_option maxHeartbeats 4000000 in
theorem indexFunc_any (A : Option Addr) (n c : Nat) (ss : List Stp) (w : World) (h : RdP w w.heap.size A n ss) (hn : n ≤ 1048576) (ht : Arit w) :
    Calls Tryd.prog 68 #[.slice A n c, .func (.func 47) #[] #[]] w fun e w' => ∃ z : Int, e = .returned (.int .i64 z) ∧ (decide (0 ≤ z) = badP ss) ∧ Below w.heap.size w w' := by
  have hl := h.len
  have HR := Lib.hid h; have HT := Lib.hid ht
  clear h ht
  go_enter Tryd.func68, Tryd.ntmps68
  go_wp2
  go_loopw [8] (fun i wr => ∃ k : Nat, k ≤ n ∧ i = .int .i64 k ∧ (∀ m, m < k → plP (ss.getD m Stp.nil) = true) ∧ Below w.heap.size w wr) (fun i _ => n - (intOf i).toNat)
  case atStart => exact ⟨0, Nat.zero_le _, rfl, fun m hm => absurd hm (by omega), Below.refl _ _⟩
  case round =>
    obtain ⟨k, hk, rfl, hpl, hB⟩ := hrel
    have HB := Lib.hid hB
    by_cases hlt : k < n
    · obtain ⟨b, off, rfl, hbb, hcells⟩ := HR.out.2 (by omega)
      obtain ⟨A', c', hat⟩ := hcells k hlt
      obtain ⟨x0, x1, x2, x3, x4, x5, hx6, hx7⟩ := hat.keep (fun _ hp => hB.cell hp) hbb
      have HPS := Lib.hid (notPlain_any (ss.getD k Stp.nil).r (ss.getD k Stp.nil).a (ss.getD k Stp.nil).b (ss.getD k Stp.nil).i (ss.getD k Stp.nil).j A' (ss.getD k Stp.nil).f.length c' (ss.getD k Stp.nil).f wr (hx7.more hB.size) hx6 (HT.out.below hB HT.out.lt))
      have hi1 : (k : Int) < (n : Int) := by omega
      have HPL := Lib.hid hpl
      obtain ⟨p, hp⟩ : ∃ p, plP (ss.getD k Stp.nil) = p := ⟨_, rfl⟩
      have HP := Lib.hid hp
      have hp' := hp
      unfold plP at hp'
      rw [hp'] at HPS
      clear hcells hat hB hx7 hpl hp hp'
      generalize (ss.getD k Stp.nil).f.length = M at *
      generalize (ss.getD k Stp.nil).r = sr at *; generalize (ss.getD k Stp.nil).a = sa at *; generalize (ss.getD k Stp.nil).b = sb at *; generalize (ss.getD k Stp.nil).i = si at *; generalize (ss.getD k Stp.nil).j = sj at *
      cases p with
      | false =>
        have HE : Hid (decide (0 ≤ (k : Int)) = badP ss) := Lib.hid (by rw [badP_yes (show k < ss.length by omega) HP.out, decide_eq_true (by omega)])
        go_wp2_with (fail)
        refine HPS.out.mono ?_
        rintro e w1 ⟨rfl, bel⟩
        have HB1 := Lib.hid (HB.out.trans (bel.mono HB.out.size))
        clear bel x0 x1 x2 x3 x4 x5
        go_wp2
        go_ret
        exact ⟨_, rfl, HE.out, HB1.out⟩
      | true =>
        go_wp2_with (fail)
        refine HPS.out.mono ?_
        rintro e w1 ⟨rfl, bel⟩
        have HB1 := Lib.hid (HB.out.trans (bel.mono HB.out.size))
        clear bel x0 x1 x2 x3 x4 x5
        go_wp2
        go_roundw
        case rel => exact ⟨k + 1, by omega, by go_num, fun m hm => by by_cases e : m = k; subst e; exact HP.out; exact HPL.out m (by omega), HB1.out⟩
        case measure => simp [intOf]; omega
    · have hkl : k = n := by omega
      subst hkl
      have HE : Hid (decide (0 ≤ (-1 : Int)) = badP ss) := Lib.hid (by rw [badP_no (fun m hm => hpl m (by omega))]; rfl)
      clear hB hpl
      go_wp2
      go_ret
      exact ⟨_, rfl, HE.out, HB.out⟩
theorem containsFunc_any (A : Option Addr) (n c : Nat) (ss : List Stp) (w : World) (h : RdP w w.heap.size A n ss) (hn : n ≤ 1048576) (ht : Arit w) :
    Calls Tryd.prog 48 #[.slice A n c, .func (.func 47) #[] #[]] w fun e w' => e = .returned (.bool (badP ss)) ∧ Below w.heap.size w w' := by
  have HI := Lib.hid (indexFunc_any A n c ss w h hn ht)
  clear h ht
  generalize badP ss = B at *
  go_enter Tryd.func48, Tryd.ntmps48
  go_wp2_with (fail)
  refine HI.out.mono ?_
  rintro e w' ⟨z, rfl, hz, bel⟩
  have HZ := Lib.hid hz; have HB := Lib.hid bel
  clear hz bel
  go_wp2
  go_ret
  exact ⟨ret_bool HZ.out, HB.out⟩
end Go.Proofs.YtjhagklpnpabeaaDoor
