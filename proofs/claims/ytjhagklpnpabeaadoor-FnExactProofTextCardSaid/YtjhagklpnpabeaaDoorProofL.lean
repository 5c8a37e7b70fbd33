/- ProofText of the program: its lines written through the interface, and the whole. -/
import Derived.Test.YtjhagklpnpabeaaDoorProofI
import Derived.Test.YtjhagklpnpabeaaDoorLineB
import Derived.Deep.RegionWith
namespace Go.Proofs.YtjhagklpnpabeaaDoor
open Go.ChangeAt Go.ChangeShapes Go.RowKit Go.WideShapes

theorem held_below {B b : Nat} {bs : List Value} {w w' : World} (h : Held B b bs w) (hb : Below w.heap.size w w') : Held B b bs w' := by
  have k : ∀ p, Lib.BuilderAt 119 5 B b p bs w → Lib.BuilderAt 119 5 B b p bs w' := fun p h => by
    have hlt := h.lt
    obtain ⟨hB, v, hbk, hown, hne⟩ := h
    exact ⟨hB, v, (hb.block b hlt).trans hbk, own_below hown hb (Nat.le_refl _), hne⟩
  rcases h with h | h
  · exact .inl (k _ h)
  · exact .inr (k _ h)
theorem m_line (a : Addr) (w : World) : (method 299 120 (.pointer (some a)) "loop.example/g00872/impl.line").run Tryd.prog w = .ok (148, .pointer (some a)) w := by kernel_rfl
theorem n_line (a : Addr) (w : World) : (nilAhead 299 120 (.pointer (some a)) "loop.example/g00872/impl.line").run Tryd.prog w = .ok (some false) w := by kernel_rfl
theorem cells_line (T : List UInt8) (s : Stp) : (Lib.byteCells T ++ Lib.strCells (stT s.r s.a s.b s.i s.j s.f)) ++ [.int .u8 10] = Lib.byteCells (T ++ lnP s) := by
  unfold lnP
  simp [Lib.byteCells, Lib.strCells]

set_option maxRecDepth 100000 in
set_option maxHeartbeats 8000000 in
theorem lines_any (A : Option Addr) (n c b bl B : Nat) (ss : List Stp) (w : World) (h : RdP w B A n ss) (h40 : n ≤ 40) (hpl : ∀ m, m < ss.length → plP (ss.getD m Stp.nil) = true) (ht : Arit w) (hw : Words w)
    (htB : 2 < B) (hwB : 0 < B) (hcl : w.cell? ⟨bl, 0, none⟩ = some (.slice A n c)) (hfr : w.heap[b]? = some (.cells #[.pointer none, .slice none 0 0] 119 (0, 0))) (hB : B ≤ b) :
    Calls Tryd.prog 50 #[.iface 120 (.pointer (some ⟨b, 0, none⟩)), .pointer (some ⟨bl, 0, none⟩)] w fun e w' => e = .returned (.tuple #[]) ∧ (n = 0 → w' = w) ∧ Held B b (Lib.byteCells (lnsP ss)) w' ∧ Below B w w' := by
  have hl := h.len
  have hbw : b < w.heap.size := by
    rcases Nat.lt_or_ge b w.heap.size with h' | h'
    · exact h'
    · simp [Array.getElem?_eq_none h'] at hfr
  have H0 : Hid (Held B b (Lib.byteCells (lnsP (ss.take 0))) w) := Lib.hid (.inl ⟨hB, _, hfr, ⟨by simp [lnsP, Lib.byteCells], .inl ⟨rfl, by simp [lnsP, Lib.byteCells]⟩⟩, by simp [Value.ownBlock]⟩)
  have HR := Lib.hid h; have HT := Lib.hid ht; have HW := Lib.hid hw; have HPL := Lib.hid hpl
  clear h ht hw hfr hpl
  go_enter Tryd.func50, Tryd.ntmps50
  go_wp2
  go_loopw [7] (fun i wr => ∃ k : Nat, k ≤ n ∧ i = .int .i64 k ∧ (k = 0 → wr = w) ∧ Held B b (Lib.byteCells (lnsP (ss.take k))) wr ∧ Below B w wr) (fun i _ => n - (intOf i).toNat)
  case atStart => exact ⟨0, Nat.zero_le _, rfl, fun _ => rfl, H0.out, Below.refl _ _⟩
  case round =>
    obtain ⟨k, hk, rfl, hk0, hH, hBl⟩ := hrel
    have HB := Lib.hid hBl
    by_cases hlt : k < n
    · obtain ⟨bb, off, rfl, hbb, hcells⟩ := HR.out.2 (by omega)
      obtain ⟨A', c', hat⟩ := hcells k hlt
      obtain ⟨x0, x1, x2, x3, x4, x5, hx6, hx7⟩ := hat.keep (fun _ hp => hBl.cell hp) hbb
      have hsz := hBl.size
      have htk := lnsP_take (show k < ss.length by omega)
      have hln := lnsP_len (ss := ss) (k := k) (fun m hm => HPL.out m (by omega)) (by omega)
      have hp := HPL.out k (by omega)
      have hst : (stT (ss.getD k Stp.nil).r (ss.getD k Stp.nil).a (ss.getD k Stp.nil).b (ss.getD k Stp.nil).i (ss.getD k Stp.nil).j (ss.getD k Stp.nil).f).size ≤ 607 := by
        have e := lnP_len hp
        unfold lnP at e
        rw [List.length_append] at e
        have e2 : (stT (ss.getD k Stp.nil).r (ss.getD k Stp.nil).a (ss.getD k Stp.nil).b (ss.getD k Stp.nil).i (ss.getD k Stp.nil).j (ss.getD k Stp.nil).f).size = (stT (ss.getD k Stp.nil).r (ss.getD k Stp.nil).a (ss.getD k Stp.nil).b (ss.getD k Stp.nil).i (ss.getD k Stp.nil).j (ss.getD k Stp.nil).f).data.toList.length := by simp
        omega
      have hcl2 := cells_line (lnsP (ss.take k)) (ss.getD k Stp.nil)
      rw [← htk] at hcl2
      generalize ss.getD k Stp.nil = s at *
      have hb1 := box_any wr (.cells #[Value.int .i64 s.r, Value.int .i64 s.a, Value.int .i64 s.b, Value.int .i64 s.i, Value.int .i64 s.j, Value.slice A' s.f.length c'] 35)
      have p1 : (wr.alloc (.cells #[Value.int .i64 s.r, Value.int .i64 s.a, Value.int .i64 s.b, Value.int .i64 s.i, Value.int .i64 s.j, Value.slice A' s.f.length c'] 35)).heap[wr.heap.size]? = some (.cells #[Value.int .i64 s.r, Value.int .i64 s.a, Value.int .i64 s.b, Value.int .i64 s.i, Value.int .i64 s.j, Value.slice A' s.f.length c'] 35 (0, 0)) := heap_alloc_new _ _
      have hs1 : (wr.alloc (.cells #[Value.int .i64 s.r, Value.int .i64 s.a, Value.int .i64 s.b, Value.int .i64 s.i, Value.int .i64 s.j, Value.slice A' s.f.length c'] 35)).heap.size = wr.heap.size + 1 := by simp
      have hBw1 := hBl.trans (hb1.mono (show B ≤ wr.heap.size by omega))
      have H1 := Lib.hid (held_below hH hb1)
      have hrd := (hx7.more (show B ≤ wr.heap.size by omega)).below hb1
      have HC2 := Lib.hid hcl2
      have hlt2 : (Lib.byteCells (lnsP (ss.take k))).length ≤ 24280 := by rw [Lib.byteCells_length]; omega
      have hi1 : (k : Int) < (n : Int) := by omega
      go_wp2_with (fail)
      generalize (wr.alloc (.cells #[Value.int .i64 s.r, Value.int .i64 s.a, Value.int .i64 s.b, Value.int .i64 s.i, Value.int .i64 s.j, Value.slice A' s.f.length c'] 35)) = w1 at *
      have y0 : w1.cell? ⟨wr.heap.size, 0, none⟩ = some (.int .i64 s.r) := cell_of_row _ _ 0 _ _ (0, 0) p1
      have y1 : w1.cell? ⟨wr.heap.size, 1, none⟩ = some (.int .i64 s.a) := cell_of_row _ _ 1 _ _ (0, 0) p1
      have y2 : w1.cell? ⟨wr.heap.size, 2, none⟩ = some (.int .i64 s.b) := cell_of_row _ _ 2 _ _ (0, 0) p1
      have y3 : w1.cell? ⟨wr.heap.size, 3, none⟩ = some (.int .i64 s.i) := cell_of_row _ _ 3 _ _ (0, 0) p1
      have y4 : w1.cell? ⟨wr.heap.size, 4, none⟩ = some (.int .i64 s.j) := cell_of_row _ _ 4 _ _ (0, 0) p1
      have y5 : w1.cell? ⟨wr.heap.size, 5, none⟩ = some (.slice A' s.f.length c') := cell_of_row _ _ 5 _ _ (0, 0) p1
      have HST := Lib.hid (stepText_impl s.r s.a s.b s.i s.j A' s.f.length c' s.f w1.drew (hrd.more (show wr.heap.size ≤ w1.heap.size by omega)) hx6 (HT.out.below hBw1.drew htB) (HW.out.below hBw1.drew hwB))
      have HB1 := Lib.hid hBw1
      have hm := m_line ⟨b, 0, none⟩
      have hn := n_line ⟨b, 0, none⟩
      have hBs : B ≤ w1.heap.size := by omega
      clear hcells hat hBl hx7 p1 hb1 hH hk0 hcl2 htk hln hp hrd x0 x1 x2 x3 x4 x5 hBw1
      generalize stT s.r s.a s.b s.i s.j s.f = ST at *
      generalize lnsP (ss.take k) = LT at *
      go_region_with (first
        | (go_at_call 14; refine HST.out.mono ?_; rintro e w2 ⟨rfl, bel2'⟩; have bel2 := undrew bel2'; have H2 := Lib.hid (held_below H1.out bel2); have hs2 := bel2.size; have HB2 := Lib.hid (HB1.out.trans (bel2.mono hBs)); clear bel2 bel2')
        | (go_at_call 148; refine (line_any ST H2.out (by omega) (by omega)).mono ?_; rintro e w3 ⟨rfl, h3, bel3⟩; have H3 := Lib.hid h3; have HB3 := Lib.hid (HB2.out.trans bel3); clear h3 bel3))
      all_goals go_wp2
      all_goals
        go_roundw
        case rel => exact ⟨k + 1, by omega, by go_num, fun h => absurd h (by omega), by rw [← HC2.out]; exact H3.out, HB3.out⟩
        case measure => simp [intOf]; omega
    · have hkl : k = n := by omega
      subst hkl
      rw [List.take_of_length_le (by omega)] at hH
      have HH := Lib.hid hH; have HK := Lib.hid hk0
      clear hH hBl hk0
      go_wp2
      go_end0
      exact ⟨rfl, HK.out, HH.out, HB.out⟩
end Go.Proofs.YtjhagklpnpabeaaDoor
