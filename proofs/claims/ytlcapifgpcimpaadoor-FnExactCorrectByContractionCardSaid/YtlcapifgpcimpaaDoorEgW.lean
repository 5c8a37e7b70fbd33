/- ValidPairedGraph of the program. -/
import Derived.Test.YtlcapifgpcimpaaDoorEgV
import Derived.Deep.RegionHeldLaw
import Derived.Deep.DeepCutAuto
import Derived.BigQuiet
namespace Go.Proofs.YtlcapifgpcimpaaDoor
set_option linter.unusedSimpArgs false
set_option linter.unusedVariables false
open Go.ChangeAt Go.ChangeShapes Go.RowKit Go.WideShapes

theorem isNode_any (h : GH) (G : Gr) (x : Int) (w : World) :
    Calls Tryd.prog 102 #[.agg #[.int .i64 G.n, .slice h.A G.e.length h.c], .int .i64 x] w fun e w' => e = .returned (.bool (decide (0 ≤ x ∧ x ≤ G.n - 1))) ∧ Below w.heap.size w w' := by
  obtain ⟨A, c⟩ := h
  obtain ⟨nd, es⟩ := G
  dsimp only
  have HB : Hid (Below w.heap.size w (w.alloc (.cells #[.int .i64 nd, .slice A es.length c] 30))) := Lib.hid ((Below.refl _ _).alloc (Nat.le_refl _) _)
  by_cases h1 : 0 ≤ x
  · have d1 : decide (0 ≤ x) = true := decide_eq_true h1
    by_cases h2 : x < nd
    · have d2 : decide (x < nd) = true := decide_eq_true h2
      have HE : Hid (true = decide (0 ≤ x ∧ x ≤ nd - 1)) := Lib.hid (decide_eq_true (by omega)).symm
      clear h1 h2
      go_enter Tryd.func102, Tryd.ntmps102
      go_wp2
      go_ret
      exact ⟨ret_bool HE.out, HB.out⟩
    · have d2 : decide (x < nd) = false := decide_eq_false h2
      have HE : Hid (false = decide (0 ≤ x ∧ x ≤ nd - 1)) := Lib.hid (decide_eq_false (by omega)).symm
      clear h1 h2
      go_enter Tryd.func102, Tryd.ntmps102
      go_wp2
      go_ret
      exact ⟨ret_bool HE.out, HB.out⟩
  · have d1 : decide (0 ≤ x) = false := decide_eq_false h1
    have HE : Hid (false = decide (0 ≤ x ∧ x ≤ nd - 1)) := Lib.hid (decide_eq_false (by omega)).symm
    clear h1
    go_enter Tryd.func102, Tryd.ntmps102
    go_wp2
    go_ret
    exact ⟨ret_bool HE.out, HB.out⟩
/-- The cells of an array of 48 counts. -/
def cnA (f : Nat → Nat) : Array Value := ((List.range 48).map fun i => Value.int .i64 (f i : Nat)).toArray
theorem cnA_at {f : Nat → Nat} {i : Nat} (h : i < 48) : (cnA f)[i]? = some (.int .i64 (f i : Nat)) := by simp [cnA, h]
theorem cnA_ext {f g : Nat → Nat} (h : ∀ x, x < 48 → f x = g x) : cnA f = cnA g := by
  unfold cnA
  congr 1
  exact List.map_congr_left fun x hx => by rw [h x (List.mem_range.1 hx)]
theorem cnA_set {f : Nat → Nat} {i : Nat} (h : i < 48) (v : Nat) : (cnA f).setIfInBounds i (.int .i64 (v : Nat)) = cnA fun x => if x = i then v else f x := by
  unfold cnA
  rw [List.setIfInBounds_toArray]
  congr 1
  apply List.ext_getElem?
  intro j
  rw [List.getElem?_set]
  by_cases e : i = j
  · subst e
    rw [if_pos rfl]
    simp [h]
  · rw [if_neg e]
    by_cases hj : j < 48
    · simp [hj, Ne.symm e]
    · rw [List.getElem?_eq_none (by simp; omega), List.getElem?_eq_none (by simp; omega)]
def ArrE (w : World) (g : Nat) (f : Nat → Nat) : Prop := w.heap[g]? = some (.cells (cnA f) 114 (0, 0))
theorem ArrE.cell {w : World} {g : Nat} {f : Nat → Nat} (h : ArrE w g f) {i : Nat} (hi : i < 48) : w.cell? ⟨g, i, none⟩ = some (.int .i64 (f i : Nat)) := (cell_of_row _ _ i _ _ (0, 0) h).trans (cnA_at hi)
theorem ArrE.frozen {w : World} {g : Nat} {f : Nat → Nat} (h : ArrE w g f) (i : Nat) : w.frozen? ⟨g, i, none⟩ = false := frozen_of_row _ _ i _ _ h
theorem ArrE.set {w : World} {g : Nat} {f : Nat → Nat} (h : ArrE w g f) {i : Nat} (hi : i < 48) (v : Nat) : ArrE (w.setCell ⟨g, i, none⟩ (.int .i64 (v : Nat))) g fun x => if x = i then v else f x := by
  have := heap_setCell_same w g i _ _ (.int .i64 (v : Nat)) h
  rw [cnA_set hi] at this
  exact this
theorem ArrE.ext {w : World} {g : Nat} {f f' : Nat → Nat} (h : ArrE w g f) (e : ∀ x, x < 48 → f x = f' x) : ArrE w g f' := by
  unfold ArrE at h ⊢; rw [h, cnA_ext e]
/-- A pair with neither none nor two edges. -/
def badC (f : Nat → Nat) : Bool := (List.range 48).any fun x => decide (f x ≠ 0) && decide (f x ≠ 2)
theorem badC_yes {f : Nat → Nat} {k : Nat} (hk : k < 48) (h : (decide (f k ≠ 0) && decide (f k ≠ 2)) = true) : badC f = true := List.any_eq_true.2 ⟨k, List.mem_range.2 hk, h⟩
theorem badC_no {f : Nat → Nat} (h : ∀ k, k < 48 → (decide (f k ≠ 0) && decide (f k ≠ 2)) = false) : badC f = false := by
  unfold badC
  rw [List.any_eq_false]
  intro k hk
  rw [h k (List.mem_range.1 hk)]; decide
theorem incomplete_any (x : Nat) (w : World) : Calls Tryd.prog 103 #[.int .i64 (x : Nat)] w fun e w' => e = .returned (.bool (decide (x ≠ 0) && decide (x ≠ 2))) ∧ w = w' := by
  by_cases h0 : x = 0
  · have d0 : ((x : Int) != 0) = false := by simp [h0]
    have HE : Hid (false = (decide (x ≠ 0) && decide (x ≠ 2))) := Lib.hid (by simp [h0])
    clear h0
    go_enter Tryd.func103, Tryd.ntmps103
    go_wp2
    go_ret
    exact ⟨ret_bool HE.out, rfl⟩
  · have d0 : ((x : Int) != 0) = true := by simp [h0]
    by_cases h2 : x = 2
    · have d2 : ((x : Int) != 2) = false := by simp [h2]
      have HE : Hid (false = (decide (x ≠ 0) && decide (x ≠ 2))) := Lib.hid (by simp [h2])
      clear h0 h2
      go_enter Tryd.func103, Tryd.ntmps103
      go_wp2
      go_ret
      exact ⟨ret_bool HE.out, rfl⟩
    · have d2 : ((x : Int) != 2) = true := by simp; omega
      have HE : Hid (true = (decide (x ≠ 0) && decide (x ≠ 2))) := Lib.hid (by simp [h0, h2])
      clear h0 h2
      go_enter Tryd.func103, Tryd.ntmps103
      go_wp2
      go_ret
      exact ⟨ret_bool HE.out, rfl⟩
theorem indexInc_any (g : Nat) (f : Nat → Nat) (w : World) (hA : ArrE w g f) :
    Calls Tryd.prog 122 #[.slice (some ⟨g, 0, none⟩) 48 48, .func (.func 103) #[] #[]] w fun e w' => ∃ z : Int, e = .returned (.int .i64 z) ∧ (decide (0 ≤ z) = badC f) ∧ w = w' := by
  have HAA := Lib.hid hA
  clear hA
  go_enter Tryd.func122, Tryd.ntmps122
  go_wp2
  go_loopw [8] (fun i wr => ∃ k : Nat, k ≤ 48 ∧ i = .int .i64 k ∧ (∀ m, m < k → (decide (f m ≠ 0) && decide (f m ≠ 2)) = false) ∧ w = wr) (fun i _ => 48 - (intOf i).toNat)
  case atStart => exact ⟨0, Nat.zero_le _, rfl, fun m hm => absurd hm (by omega), rfl⟩
  case round =>
    obtain ⟨k, hk, rfl, hno, rfl⟩ := hrel
    by_cases hlt : k < 48
    · have x0 := HAA.out.cell hlt
      have HI := Lib.hid (incomplete_any (f k) w)
      obtain ⟨b, hb⟩ : ∃ b, (decide (f k ≠ 0) && decide (f k ≠ 2)) = b := ⟨_, rfl⟩
      rw [hb] at HI
      have HH := Lib.hid hb; have HNO := Lib.hid hno
      have hi1 : (k : Int) < 48 := by omega
      clear hb hno
      generalize hfk : f k = q at x0 HI
      clear hfk
      cases b with
      | true =>
        have HE : Hid (decide (0 ≤ (k : Int)) = badC f) := Lib.hid (by rw [badC_yes hlt HH.out, decide_eq_true (by omega)])
        go_wp2_with (fail)
        refine HI.out.mono ?_
        rintro e w1 ⟨rfl, rfl⟩
        go_wp2
        go_ret
        exact ⟨_, rfl, HE.out, rfl⟩
      | false =>
        go_wp2_with (fail)
        refine HI.out.mono ?_
        rintro e w1 ⟨rfl, rfl⟩
        go_wp2
        go_roundw
        case rel => exact ⟨k + 1, by omega, by go_num, fun m hm => by by_cases e : m = k; (subst e; exact HH.out); exact HNO.out m (by omega), by first | rfl | trivial⟩
        case measure => simp [intOf]; omega
    · have hkl : k = 48 := by omega
      subst hkl
      have HE : Hid (decide (0 ≤ (-1 : Int)) = badC f) := Lib.hid (by rw [badC_no hno]; rfl)
      clear hno
      go_wp2
      go_ret
      exact ⟨_, rfl, HE.out, rfl⟩
theorem containsInc_any (g : Nat) (f : Nat → Nat) (w : World) (hA : ArrE w g f) :
    Calls Tryd.prog 104 #[.slice (some ⟨g, 0, none⟩) 48 48, .func (.func 103) #[] #[]] w fun e w' => e = .returned (.bool (badC f)) ∧ w = w' := by
  have HI := Lib.hid (indexInc_any g f w hA)
  clear hA
  generalize badC f = B at *
  go_enter Tryd.func104, Tryd.ntmps104
  go_wp2_with (fail)
  refine HI.out.mono ?_
  rintro e w' ⟨z, rfl, hz, rfl⟩
  have HZ := Lib.hid hz
  clear hz
  go_wp2
  go_ret
  exact ⟨ret_bool HZ.out, rfl⟩
/-- How many of the first k edges are of pair x. -/
def cnE (es : List Ed) (k x : Nat) : Nat := cntP (es.take k) (x : Int)
theorem cnE_zero (es : List Ed) (x : Nat) : cnE es 0 x = 0 := by simp [cnE, cntP]
theorem cnE_succ {es : List Ed} {k : Nat} (h : k < es.length) (x : Nat) : cnE es (k + 1) x = cnE es k x + if (es.getD k Ed.nil).p = (x : Int) then 1 else 0 := by
  have e : es.take (k + 1) = es.take k ++ [es.getD k Ed.nil] := by
    rw [List.take_succ_eq_append_getElem h]
    simp [List.getD, h]
  unfold cnE
  rw [e]; unfold cntP; rw [List.countP_append, List.countP_cons, List.countP_nil]
  by_cases hp : (es.getD k Ed.nil).p = (x : Int)
  · rw [if_pos hp, if_pos (by simpa using hp)]
  · rw [if_neg hp, if_neg (by simpa using hp)]
theorem cnE_le (es : List Ed) (k x : Nat) : cnE es k x ≤ k := by
  unfold cnE cntP
  exact Nat.le_trans List.countP_le_length (by rw [List.length_take]; omega)
theorem vgB_badC {G : Gr} (h1 : 0 ≤ G.n ∧ G.n ≤ 48) (h2 : G.e.length ≤ 48) (h : ∀ j, j < G.e.length → okE G.n (G.e.getD j Ed.nil) = true) : (!badC (cnE G.e G.e.length)) = vgB G := by
  have hcn : ∀ x : Nat, cnE G.e G.e.length x = cntP G.e (x : Int) := fun x => by unfold cnE; rw [List.take_length]
  cases hv : vgB G with
  | true =>
    have := vgB_two hv
    rw [badC_no]; rfl
    intro k hk
    rw [hcn]
    by_cases e : cntP G.e (k : Int) = 0
    · simp [e]
    · have hp : 0 < cntP G.e (k : Int) := by omega
      unfold cntP at hp
      rw [List.countP_pos_iff] at hp
      obtain ⟨y, hy, hyp⟩ := hp
      have hyp : y.p = (k : Int) := by simpa using hyp
      rcases this y hy with e2 | e2
      · omega
      · rw [hyp] at e2; simp [e2]
  | false =>
    cases hb : badC (cnE G.e G.e.length) with
    | true => rfl
    | false =>
      exfalso
      have hall : ∀ k : Nat, k < 48 → cntP G.e (k : Int) = 0 ∨ cntP G.e (k : Int) = 2 := by
        intro k hk
        unfold badC at hb
        rw [List.any_eq_false] at hb
        have := hb k (List.mem_range.2 hk)
        rw [hcn] at this
        simp at this
        omega
      rw [vgB_yes h1 h2] at hv
      · cases hv
      · intro j hj
        refine ⟨h j hj, ?_⟩
        have ho := h j hj
        unfold okE at ho
        simp only [Bool.and_eq_true, decide_eq_true_eq] at ho
        have hpos : 0 < cntP G.e (G.e.getD j Ed.nil).p := by
          unfold cntP
          rw [List.countP_pos_iff]
          exact ⟨_, getE_mem hj, by simp⟩
        by_cases e : (G.e.getD j Ed.nil).p = -1
        · exact .inl e
        · right
          have := hall (G.e.getD j Ed.nil).p.toNat (by omega)
          rw [Int.toNat_of_nonneg (by omega)] at this
          omega
theorem zer48 : cnA (fun _ => 0) = #[Value.int .i64 0, Value.int .i64 0, Value.int .i64 0, Value.int .i64 0, Value.int .i64 0, Value.int .i64 0, Value.int .i64 0, Value.int .i64 0, Value.int .i64 0, Value.int .i64 0, Value.int .i64 0, Value.int .i64 0, Value.int .i64 0, Value.int .i64 0, Value.int .i64 0, Value.int .i64 0, Value.int .i64 0, Value.int .i64 0, Value.int .i64 0, Value.int .i64 0, Value.int .i64 0, Value.int .i64 0, Value.int .i64 0, Value.int .i64 0, Value.int .i64 0, Value.int .i64 0, Value.int .i64 0, Value.int .i64 0, Value.int .i64 0, Value.int .i64 0, Value.int .i64 0, Value.int .i64 0, Value.int .i64 0, Value.int .i64 0, Value.int .i64 0, Value.int .i64 0, Value.int .i64 0, Value.int .i64 0, Value.int .i64 0, Value.int .i64 0, Value.int .i64 0, Value.int .i64 0, Value.int .i64 0, Value.int .i64 0, Value.int .i64 0, Value.int .i64 0, Value.int .i64 0, Value.int .i64 0] := rfl
set_option maxRecDepth 100000 in
set_option maxHeartbeats 1000000 in
theorem validG_impl (h : GH) (G : Gr) (w : World) (r : RdG w w.heap.size h G) :
    Calls Tryd.prog 70 #[.agg #[.int .i64 G.n, .slice h.A G.e.length h.c]] w fun e w' => e = .returned (.bool (vgB G)) ∧ Below w.heap.size w w' := by
  have HN := Lib.hid (@vgB_n G); have HLL := Lib.hid (@vgB_l G); have HY := Lib.hid (@vgB_badC G)
  have HNO := Lib.hid (fun k (hk : k < G.e.length) (ho : okE G.n (G.e.getD k Ed.nil) = false) => vgB_no hk (by rw [ho]; rfl))
  have HND := Lib.hid (fun x (wx : World) => isNode_any h G x wx)
  obtain ⟨A, c⟩ := h
  obtain ⟨nd, es⟩ := G
  have r1 : RdE w w.heap.size A es.length es := r
  dsimp only at HN HLL HY HNO HND ⊢
  obtain ⟨w0, hw0⟩ : ∃ w0, w0 = w.alloc (.cells #[.int .i64 nd, .slice A es.length c] 30) := ⟨_, rfl⟩
  obtain ⟨hb, hh, hsz⟩ := box2E w (.int .i64 nd) (.slice A es.length c) 30
  rw [← hw0] at hb hh hsz
  have HB0 := Lib.hid hb
  obtain ⟨y0, y1⟩ := twE_cells hh
  by_cases hn : 0 ≤ nd
  · have dn0 : decide (nd < 0) = false := decide_eq_false (by omega)
    by_cases hn2 : nd ≤ 48
    · have dn1 : decide (48 < nd) = false := decide_eq_false (by omega)
      by_cases hln : es.length ≤ 48
      · have d1 : decide (48 < (es.length : Int)) = false := decide_eq_false (by omega)
        have HY2 := Lib.hid (HY.out ⟨hn, hn2⟩ hln)
        have HRD := Lib.hid (fun (w' : World) (hw : Below w.heap.size w w') => r1.below hw)
        obtain ⟨w2, hw2⟩ : ∃ w2, w2 = w0.alloc (.cells #[Value.int .i64 0, Value.int .i64 0, Value.int .i64 0, Value.int .i64 0, Value.int .i64 0, Value.int .i64 0, Value.int .i64 0, Value.int .i64 0, Value.int .i64 0, Value.int .i64 0, Value.int .i64 0, Value.int .i64 0, Value.int .i64 0, Value.int .i64 0, Value.int .i64 0, Value.int .i64 0, Value.int .i64 0, Value.int .i64 0, Value.int .i64 0, Value.int .i64 0, Value.int .i64 0, Value.int .i64 0, Value.int .i64 0, Value.int .i64 0, Value.int .i64 0, Value.int .i64 0, Value.int .i64 0, Value.int .i64 0, Value.int .i64 0, Value.int .i64 0, Value.int .i64 0, Value.int .i64 0, Value.int .i64 0, Value.int .i64 0, Value.int .i64 0, Value.int .i64 0, Value.int .i64 0, Value.int .i64 0, Value.int .i64 0, Value.int .i64 0, Value.int .i64 0, Value.int .i64 0, Value.int .i64 0, Value.int .i64 0, Value.int .i64 0, Value.int .i64 0, Value.int .i64 0, Value.int .i64 0] 114) := ⟨_, rfl⟩
        have hA0 : ArrE w2 (w.heap.size + 1) (cnE es 0) := by
          have e : ArrE w2 (w.heap.size + 1) (fun _ => 0) := by
            unfold ArrE
            rw [zer48, hw2, ← hsz]
            exact heap_alloc_new _ _
          exact e.ext fun x _ => (cnE_zero es x).symm
        have hbx : w2.heap[w.heap.size]? = some (.cells #[.int .i64 nd, .slice A es.length c] 30 (0, 0)) := by
          rw [hw2, Below.heap_alloc _ _ _ (by omega)]; exact hh
        have hb2 : Below w.heap.size w w2 := by rw [hw2]; exact hb.alloc (by omega) _
        have hs2 : w.heap.size + 1 + 1 ≤ w2.heap.size := by rw [hw2]; simp; omega
        have HA0 := Lib.hid hA0; have HBX := Lib.hid hbx; have HB2 := Lib.hid hb2; have HS2 := Lib.hid hs2
        clear HN HLL HY hb hh hA0 hbx hb2 hs2 r r1 HB0
        generalize vgB ⟨nd, es⟩ = VB at *
        go_enter Tryd.func70, Tryd.ntmps70
        go_wp2_with (fail)
        rw [← hw0, ← hw2]
        clear hw0 hw2
        go_loopw [24] (fun i wr => ∃ k : Nat, k ≤ es.length ∧ i = .int .i64 k ∧ (∀ j, j < k → okE nd (es.getD j Ed.nil) = true) ∧ wr.heap[w.heap.size]? = some (.cells #[.int .i64 nd, .slice A es.length c] 30 (0, 0)) ∧ ArrE wr (w.heap.size + 1) (cnE es k) ∧ w.heap.size + 1 + 1 ≤ wr.heap.size ∧ Below w.heap.size w wr) (fun i _ => es.length - (intOf i).toNat)
        case atStart => exact ⟨0, Nat.zero_le _, rfl, fun j hj => absurd hj (by omega), HBX.out, HA0.out, HS2.out, HB2.out⟩
        case round =>
          obtain ⟨k, hk, rfl, hall, hbx, har, hsw, hB⟩ := hrel
          clear HA0 HBX HB2 HS2 y0 y1
          have HAL := Lib.hid hall
          by_cases hlt : k < es.length
          · obtain ⟨b, off, hA, hbb, hcells⟩ := (HRD.out _ hB).at (by omega)
            obtain ⟨x0, x1, x2⟩ := hcells k hlt
            have HNK := Lib.hid (HNO.out k hlt)
            have HST : Hid (okE nd (es.getD k Ed.nil) = true → ∀ j, j < k + 1 → okE nd (es.getD j Ed.nil) = true) := Lib.hid fun hx j hj => by
              by_cases e : j < k
              · exact HAL.out j e
              · obtain rfl : j = k := by omega
                exact hx
            have HCS := Lib.hid (fun x => cnE_succ hlt x)
            obtain ⟨⟨ea, eb, ep⟩, hl'⟩ : ∃ l, es.getD k Ed.nil = l := ⟨_, rfl⟩
            rw [hl'] at x0 x1 x2 HNK HST HCS
            dsimp only at x0 x1 x2 HNK HST HCS
            obtain ⟨bl, hhl, hszl⟩ := box3E wr (.int .i64 ea) (.int .i64 eb) (.int .i64 ep) 52
            obtain ⟨w1, hw1⟩ : ∃ w1, w1 = wr.alloc (.cells #[.int .i64 ea, .int .i64 eb, .int .i64 ep] 52) := ⟨_, rfl⟩
            rw [← hw1] at bl hhl hszl
            have hbx1 := (bl.block w.heap.size (by omega)).trans hbx
            have har1 : ArrE w1 (w.heap.size + 1) (cnE es k) := (bl.block (w.heap.size + 1) (by omega)).trans har
            have hB1 := hB.trans (bl.mono hB.size)
            have HALL : Hid (∀ w', Below w1.heap.size w1 w' → (w'.cell? ⟨w.heap.size, 0, none⟩ = some (.int .i64 nd) ∧ w'.cell? ⟨w.heap.size, 1, none⟩ = some (.slice A es.length c)) ∧ (w'.cell? ⟨wr.heap.size, 0, none⟩ = some (.int .i64 ea) ∧ w'.cell? ⟨wr.heap.size, 1, none⟩ = some (.int .i64 eb) ∧ w'.cell? ⟨wr.heap.size, 2, none⟩ = some (.int .i64 ep)) ∧ ArrE w' (w.heap.size + 1) (cnE es k) ∧ w'.heap[w.heap.size]? = some (.cells #[.int .i64 nd, .slice A es.length c] 30 (0, 0)) ∧ w.heap.size + 1 + 1 ≤ w'.heap.size ∧ Below w.heap.size w w') := Lib.hid fun w' hw =>
              ⟨twE_cells ((hw.block _ (by omega)).trans hbx1), th_cells ((hw.block _ (by omega)).trans hhl), (hw.block _ (by omega)).trans har1, (hw.block _ (by omega)).trans hbx1, by have := hw.size; omega, hB1.trans (hw.mono hB1.size)⟩
            have BL := Lib.hid (Below.refl w1.heap.size w1)
            obtain ⟨y0, y1⟩ := twE_cells hbx
            obtain ⟨⟨v0, v1⟩, ⟨z0, z1, z2⟩, _, _, _, _⟩ := HALL.out _ BL.out
            have HIA := Lib.hid (HND.out ea); have HIB := Lib.hid (HND.out eb)
            have HOK : Hid (okE nd ⟨ea, eb, ep⟩ = (decide (0 ≤ ea ∧ ea ≤ nd - 1) && decide (0 ≤ eb ∧ eb ≤ nd - 1) && decide (-1 ≤ ep ∧ ep ≤ 47))) := Lib.hid rfl
            rw [hA] at y1
            clear hcells hB hall hl' bl hhl hszl hbx har hbx1 har1 hB1 HRD HNO HND
            obtain ⟨ba, hba⟩ : ∃ q, decide (0 ≤ ea ∧ ea ≤ nd - 1) = q := ⟨_, rfl⟩
            obtain ⟨bb, hbb'⟩ : ∃ q, decide (0 ≤ eb ∧ eb ≤ nd - 1) = q := ⟨_, rfl⟩
            rw [hba] at HOK HIA; rw [hbb'] at HOK HIB
            clear hba hbb'
            have HSZ := Lib.hid hsw
            clear hsw
            subst hA
            subst hw1
            cases ba with
            | false =>
              have HE : Hid (false = VB) := Lib.hid (HNK.out (by rw [HOK.out]; rfl)).symm
              go_wp2_with (fail)
              refine (HIA.out _).mono ?_
              rintro e w2 ⟨rfl, bel⟩
              have HBB := Lib.hid (HALL.out _ bel).2.2.2.2.2
              clear bel v0 v1 z0 z1 z2 y0 y1
              go_wp2
              go_ret
              exact ⟨ret_bool HE.out, HBB.out⟩
            | true =>
              cases bb with
              | false =>
                have HE : Hid (false = VB) := Lib.hid (HNK.out (by rw [HOK.out]; rfl)).symm
                go_wp2_with (fail)
                refine (HIA.out _).mono ?_
                rintro e w2 ⟨rfl, bel⟩
                have B2 := Lib.hid bel
                clear bel v0 v1 z0 z1 z2 y0 y1
                obtain ⟨⟨v0, v1⟩, ⟨z0, z1, z2⟩, _, _, _, _⟩ := HALL.out _ B2.out
                go_wp2_with (fail)
                refine (HIB.out _).mono ?_
                rintro e w3 ⟨rfl, bel⟩
                have HBB := Lib.hid (HALL.out _ (B2.out.trans (bel.mono B2.out.size))).2.2.2.2.2
                clear bel v0 v1 z0 z1 z2
                go_wp2
                go_ret
                exact ⟨ret_bool HE.out, HBB.out⟩
              | true =>
                by_cases hp0 : ep < -1
                · have dp0 : decide (ep < -1) = true := decide_eq_true hp0
                  have HE : Hid (false = VB) := Lib.hid (HNK.out (by rw [HOK.out, decide_eq_false (show ¬ (-1 ≤ ep ∧ ep ≤ 47) by omega)]; rfl)).symm
                  clear hp0
                  go_wp2_with (fail)
                  refine (HIA.out _).mono ?_
                  rintro e w2 ⟨rfl, bel⟩
                  have B2 := Lib.hid bel
                  clear bel v0 v1 z0 z1 z2 y0 y1
                  obtain ⟨⟨v0, v1⟩, ⟨z0, z1, z2⟩, _, _, _, _⟩ := HALL.out _ B2.out
                  go_wp2_with (fail)
                  refine (HIB.out _).mono ?_
                  rintro e w3 ⟨rfl, bel⟩
                  have HB3 := Lib.hid (B2.out.trans (bel.mono B2.out.size))
                  have HBB := Lib.hid (HALL.out _ HB3.out).2.2.2.2.2
                  clear bel v0 v1 z0 z1 z2
                  obtain ⟨⟨v0, v1⟩, ⟨z0, z1, z2⟩, _, _, _, _⟩ := HALL.out _ HB3.out
                  go_wp2
                  go_ret
                  exact ⟨ret_bool HE.out, HBB.out⟩
                have dp0 : decide (ep < -1) = false := decide_eq_false hp0
                by_cases hp1 : 48 ≤ ep
                · have dp1 : decide (48 ≤ ep) = true := decide_eq_true hp1
                  have HE : Hid (false = VB) := Lib.hid (HNK.out (by rw [HOK.out, decide_eq_false (show ¬ (-1 ≤ ep ∧ ep ≤ 47) by omega)]; rfl)).symm
                  clear hp0 hp1
                  go_wp2_with (fail)
                  refine (HIA.out _).mono ?_
                  rintro e w2 ⟨rfl, bel⟩
                  have B2 := Lib.hid bel
                  clear bel v0 v1 z0 z1 z2 y0 y1
                  obtain ⟨⟨v0, v1⟩, ⟨z0, z1, z2⟩, _, _, _, _⟩ := HALL.out _ B2.out
                  go_wp2_with (fail)
                  refine (HIB.out _).mono ?_
                  rintro e w3 ⟨rfl, bel⟩
                  have HB3 := Lib.hid (B2.out.trans (bel.mono B2.out.size))
                  have HBB := Lib.hid (HALL.out _ HB3.out).2.2.2.2.2
                  clear bel v0 v1 z0 z1 z2
                  obtain ⟨⟨v0, v1⟩, ⟨z0, z1, z2⟩, _, _, _, _⟩ := HALL.out _ HB3.out
                  go_wp2
                  go_ret
                  exact ⟨ret_bool HE.out, HBB.out⟩
                have dp1 : decide (48 ≤ ep) = false := decide_eq_false hp1
                have HS := Lib.hid (HST.out (by rw [HOK.out, decide_eq_true (show -1 ≤ ep ∧ ep ≤ 47 by omega)]; rfl))
                by_cases hm : ep = -1
                · have HC0 : Hid (∀ x, cnE es k x = cnE es (k + 1) x) := Lib.hid fun x => by rw [HCS.out x, if_neg (by omega)]; try rfl
                  have dm : (ep != -1) = false := by simp [hm]
                  clear hp0 hp1 hm
                  go_wp2_with (fail)
                  refine (HIA.out _).mono ?_
                  rintro e w2 ⟨rfl, bel⟩
                  have B2 := Lib.hid bel
                  clear bel v0 v1 z0 z1 z2 y0 y1
                  obtain ⟨⟨v0, v1⟩, ⟨z0, z1, z2⟩, _, _, _, _⟩ := HALL.out _ B2.out
                  go_wp2_with (fail)
                  refine (HIB.out _).mono ?_
                  rintro e w3 ⟨rfl, bel⟩
                  have HB3 := Lib.hid (B2.out.trans (bel.mono B2.out.size))
                  have HG3 := Lib.hid (HALL.out _ HB3.out)
                  clear bel v0 v1 z0 z1 z2
                  obtain ⟨⟨v0, v1⟩, ⟨z0, z1, z2⟩, _, _, _, _⟩ := HALL.out _ HB3.out
                  go_wp2
                  go_roundw
                  case rel => exact ⟨k + 1, by omega, by go_num, HS.out, HG3.out.2.2.2.1, HG3.out.2.2.1.ext fun x _ => HC0.out x, HG3.out.2.2.2.2.1, HG3.out.2.2.2.2.2⟩
                  case measure => simp [intOf]; omega
                · obtain ⟨pn, rfl⟩ : ∃ pn : Nat, ep = pn := ⟨ep.toNat, by omega⟩
                  have hpn : pn < 48 := by omega
                  have dm : ((pn : Int) != -1) = true := by simp <;> omega
                  have hle := cnE_le es k pn
                  have HC0 : Hid (∀ x, (if x = pn then cnE es k pn + 1 else cnE es k x) = cnE es (k + 1) x) := Lib.hid fun x => by
                    rw [HCS.out x]
                    by_cases e : x = pn
                    · subst e; simp
                    · rw [if_neg e, if_neg (by omega)]; try rfl
                  have hpi : (pn : Int) < 48 := by omega
                  clear hp0 hp1 hm
                  go_wp2_with (fail)
                  refine (HIA.out _).mono ?_
                  rintro e w2 ⟨rfl, bel⟩
                  have B2 := Lib.hid bel
                  clear bel v0 v1 z0 z1 z2 y0 y1
                  obtain ⟨⟨v0, v1⟩, ⟨z0, z1, z2⟩, _, _, _, _⟩ := HALL.out _ B2.out
                  go_wp2_with (fail)
                  refine (HIB.out _).mono ?_
                  rintro e w3 ⟨rfl, bel⟩
                  have HB3 := Lib.hid (B2.out.trans (bel.mono B2.out.size))
                  have HG3 := Lib.hid (HALL.out _ HB3.out)
                  clear bel v0 v1 z0 z1 z2
                  obtain ⟨⟨v0, v1⟩, ⟨z0, z1, z2⟩, har3, hbx3, hsz3, hbb3⟩ := HG3.out
                  have q0 := har3.cell hpn
                  have q1 := har3.frozen pn
                  obtain ⟨m, hm⟩ : ∃ m, cnE es k pn = m := ⟨_, rfl⟩
                  rw [hm] at q0 HC0 hle
                  have hA4 := har3.set hpn (m + 1)
                  have hA5 := hA4.ext (fun x _ => HC0.out x)
                  have em : ((m + 1 : Nat) : Int) = (m : Int) + 1 := by omega
                  rw [em] at hA5
                  have HA5 := Lib.hid hA5
                  have HX5 : Hid ((w3.setCell ⟨w.heap.size + 1, pn, none⟩ (.int .i64 ((m : Int) + 1))).heap[w.heap.size]? = _) := Lib.hid ((heap_setCell_other _ _ _ _ (by show w.heap.size ≠ w.heap.size + 1; omega)).trans hbx3)
                  have HS5 : Hid (w.heap.size + 1 + 1 ≤ (w3.setCell ⟨w.heap.size + 1, pn, none⟩ (.int .i64 ((m : Int) + 1))).heap.size) := Lib.hid (by simpa using hsz3)
                  have HB5 := Lib.hid (hbb3.setCell (p := ⟨w.heap.size + 1, pn, none⟩) (by show w.heap.size ≤ w.heap.size + 1; omega) (.int .i64 ((m : Int) + 1)))
                  clear har3 hbx3 hsz3 hbb3 hA4 hA5 hm em HG3
                  go_wp2
                  go_roundw
                  case rel => exact ⟨k + 1, by omega, by go_num, HS.out, HX5.out, HA5.out, HS5.out, HB5.out⟩
                  case measure => simp [intOf]; omega
          · have hkl : k = es.length := by omega
            subst hkl
            have HE := Lib.hid (HY2.out hall)
            have HC := Lib.hid (containsInc_any _ _ _ har)
            have HBB := Lib.hid hB
            clear hB hall hbx har hsw
            go_wp2_with (fail)
            refine HC.out.mono ?_
            rintro e w2 ⟨rfl, rfl⟩
            go_wp2
            go_ret
            exact ⟨ret_bool HE.out, HBB.out⟩
      · have d1 : decide (48 < (es.length : Int)) = true := decide_eq_true (by omega)
        have HE : Hid (false = vgB ⟨nd, es⟩) := Lib.hid (HLL.out hln).symm
        clear hn hn2 hln hb hh hsz r r1
        go_enter Tryd.func70, Tryd.ntmps70
        go_wp2
        rw [← hw0]
        go_ret
        exact ⟨ret_bool HE.out, HB0.out⟩
    · have dn1 : decide (48 < nd) = true := decide_eq_true (by omega)
      have HE : Hid (false = vgB ⟨nd, es⟩) := Lib.hid (HN.out (by omega)).symm
      clear hn hn2 hb hh hsz r r1
      go_enter Tryd.func70, Tryd.ntmps70
      go_wp2
      rw [← hw0]
      go_ret
      exact ⟨ret_bool HE.out, HB0.out⟩
  · have dn0 : decide (nd < 0) = true := decide_eq_true (by omega)
    have HE : Hid (false = vgB ⟨nd, es⟩) := Lib.hid (HN.out (by omega)).symm
    clear hn hb hh hsz r r1
    go_enter Tryd.func70, Tryd.ntmps70
    go_wp2
    rw [← hw0]
    go_ret
    exact ⟨ret_bool HE.out, HB0.out⟩
end Go.Proofs.YtlcapifgpcimpaaDoor
