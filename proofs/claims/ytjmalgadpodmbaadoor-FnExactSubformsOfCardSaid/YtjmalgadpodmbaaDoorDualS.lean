/- DualSeq of the model. -/
import Derived.Test.YtjmalgadpodmbaaDoorMapd
import Derived.Deep.RegionLaw
import Derived.Deep.AppendLies
namespace Go.Proofs.YtjmalgadpodmbaaDoor
open Go.ChangeShapes Go.WideShapes Go.ChangeAt Go.RowKit

theorem three_heap (w : World) (a b c : Obj) : (((w.alloc a).alloc b).alloc c).heap[w.heap.size]? = some a ∧ (((w.alloc a).alloc b).alloc c).heap[w.heap.size + 1]? = some b ∧ (((w.alloc a).alloc b).alloc c).heap[w.heap.size + 1 + 1]? = some c := by
  obtain ⟨h1, h2⟩ := two_heap w a b
  exact ⟨(Below.heap_alloc _ _ _ (by simp; omega)).trans h1, heap_two _ _ _ _, heap_three _ _ _ _⟩

/-- .. where the variable lies below the parts. -/
theorem seq_out2 {w wr : World} {V : List (List Int)} {A : Option Addr} {n c b lo b0 : Nat} {t : TypeId} {v : Value} {hs : Nat → Option Addr × Nat} (hb : Below b0 w wr) (hlo : b0 ≤ b) (hlt : b < lo) (hh : wr.heap[b]? = some (.cells #[v] t (0, 0)))
    (own : OwnQ wr lo wr.heap.size (.slice A n c) hs V) :
    (wr.setCell ⟨b, 0, none⟩ (.slice A n c)).heap[b]? = some (.cells #[.slice A n c] t (0, 0)) ∧
      OwnQ (wr.setCell ⟨b, 0, none⟩ (.slice A n c)) b0 (wr.setCell ⟨b, 0, none⟩ (.slice A n c)).heap.size (.slice A n c) hs V ∧ Below b0 w (wr.setCell ⟨b, 0, none⟩ (.slice A n c)) := by
  have e : (wr.setCell ⟨b, 0, none⟩ (.slice A n c)).heap.size = wr.heap.size := by simp
  refine ⟨cell_set hh, ?_, hb.setCell hlo _⟩
  rw [e]
  exact (own.setBelow hlt _).more (by omega) (Nat.le_refl _)

theorem set_far {w : World} {b : Nat} {u : Value} {p : Addr} (h : p.block ≠ b) : (w.setCell ⟨b, 0, none⟩ u).cell? p = w.cell? p := World.cell?_of_block (Below.heap_setCell _ _ _ _ h)
/-- The append of a new part to a row in a variable of one's own (block b): what it asks. -/
theorem push_in {w5 w6 : World} {lo k c2 c6 : Nat} {A2 A6 : Option Addr} {hs : Nat → Option Addr × Nat} {cur : List (List Int)} {dq : List Int} (own5 : OwnQ w5 lo w5.heap.size (.slice A2 k c2) hs cur) (hlen : cur.length = k) (hlo : lo ≤ w5.heap.size)
    (bel6 : Below w5.heap.size w5 w6) :
    (w6.alloc (.cells #[.slice A6 dq.length c6] 44)).ownsRow lo 44 1 (.slice A2 k c2) k (rowV hs cur) ∧
      (∀ j u, [Value.slice A6 dq.length c6][j]? = some u → (w6.alloc (.cells #[.slice A6 dq.length c6] 44)).cell? ((⟨w6.heap.size, 0, none⟩ : Addr).add j) = some u) ∧ lo ≤ (w6.alloc (.cells #[.slice A6 dq.length c6] 44)).heap.size := by
  have h := ((own5.below bel6).below (box_below w6 (.slice A6 dq.length c6) 44)).outer
  rw [hlen] at h
  have hs6 := bel6.size
  exact ⟨h, World.news_of_block (heap_alloc_new w6 (.cells #[.slice A6 dq.length c6] 44)), by simp; omega⟩
/-- .. and what it leaves, the store behind it done. -/
theorem push_out {w3 w5 w6 w7 : World} {b lo k c2 c6 g cap : Nat} {A2 A6 : Option Addr} {t : TypeId} {hs : Nat → Option Addr × Nat} {cur : List (List Int)} {dq : List Int} (own5 : OwnQ w5 lo w5.heap.size (.slice A2 k c2) hs cur) (hlen : cur.length = k) (hlo : lo ≤ w5.heap.size) (hbl : b < lo)
    (bl5 : Below b w3 w5) (hb5 : w5.heap[b]? = some (.cells #[.slice A2 k c2] t (0, 0))) (bel6 : Below w5.heap.size w5 w6) (own6 : w6.ownsRow w5.heap.size 2 1 (.slice A6 dq.length c6) dq.length (dq.map (Value.int .i64)))
    (hown7 : w7.ownsRow lo 44 1 (.slice (some ⟨g, 0, none⟩) (k + 1) cap) (k + 1) (rowV hs cur ++ [.slice A6 dq.length c6])) (hgrow7 : (w6.alloc (.cells #[.slice A6 dq.length c6] 44)).grownBy w7 (Value.slice A2 k c2).ownBlock)
    (hat7 : (Value.slice A2 k c2).ownBlock = some g ∨ g = (w6.alloc (.cells #[.slice A6 dq.length c6] 44)).heap.size) :
    (∀ p : Addr, p.block < lo → w7.cell? p = w5.cell? p) ∧ w7.frozen? ⟨b, 0, none⟩ = false ∧
      (w7.setCell ⟨b, 0, none⟩ (.slice (some ⟨g, 0, none⟩) (k + 1) cap)).heap[b]? = some (.cells #[.slice (some ⟨g, 0, none⟩) (k + 1) cap] t (0, 0)) ∧
      OwnQ (w7.setCell ⟨b, 0, none⟩ (.slice (some ⟨g, 0, none⟩) (k + 1) cap)) lo (w7.setCell ⟨b, 0, none⟩ (.slice (some ⟨g, 0, none⟩) (k + 1) cap)).heap.size (.slice (some ⟨g, 0, none⟩) (k + 1) cap) (upd hs cur.length (A6, c6)) (cur ++ [dq]) ∧
      Below b w3 (w7.setCell ⟨b, 0, none⟩ (.slice (some ⟨g, 0, none⟩) (k + 1) cap)) := by
  have hbx := box_below w6 (.slice A6 dq.length c6) 44
  have hs6 := bel6.size
  have hsx := hbx.size
  have ob : ∀ q, (Value.slice A2 k c2).ownBlock = some q → lo ≤ q := fun q e => (own5.outer.lt q e).1
  have b67 : Below lo w5 w7 := ((bel6.mono hlo).trans (hbx.mono (by omega))).grown hgrow7 (by omega) ob
  have hb7 := (b67.block b hbl).trans hb5
  have own6a := (own5.below bel6).below hbx
  subst hlen
  have hq := OwnQ.push (hi' := w7.heap.size) own6a ((own6.mono hlo).alloc (.cells #[.slice A6 dq.length c6] 44)) (fun q e => (own6.lt q e).1) hown7 hgrow7
    (fun q e => by
      obtain rfl : g = q := by simpa [Value.ownBlock] using e
      rcases hat7 with h | h
      · exact .inl h
      · exact .inr (Nat.le_of_eq h.symm)) (by omega) (Nat.le_refl _)
  have e : (w7.setCell ⟨b, 0, none⟩ (.slice (some ⟨g, 0, none⟩) (cur.length + 1) cap)).heap.size = w7.heap.size := by simp
  refine ⟨fun p hp => b67.cell hp, frozen_of_row _ _ 0 _ _ hb7, cell_set hb7, ?_, (bl5.trans (b67.mono (by omega))).setCell (Nat.le_refl _) _⟩
  rw [e]
  exact hq.setBelow hbl _

set_option maxHeartbeats 2000000 in
theorem sDualSeq_any (A : Option Addr) (n c : Nat) (qs : List (List Int)) (w : World) (h : RdQ w w.heap.size A n qs) (hn : n ≤ 1048576) (hnc : n ≤ c) :
    Calls Tryd.prog 34 #[.agg #[.slice A n c]] w (GivesSeq w (dualQ qs)) := by
  obtain ⟨i0, hi0, hz0, hz1, hz2⟩ := info_parts_s
  have hl := h.len
  subst hl
  obtain ⟨w3, hw3⟩ : ∃ w3, w3 = ((w.alloc (.cells #[Value.slice A qs.length c] 26)).alloc (.cells #[.slice none 0 0] 26)).alloc (.cells #[.slice none 0 0] 26) := ⟨_, rfl⟩
  obtain ⟨hh0, hh1, hh2⟩ := three_heap w (.cells #[Value.slice A qs.length c] 26) (.cells #[.slice none 0 0] 26) (.cells #[.slice none 0 0] 26)
  have hsz : w3.heap.size = w.heap.size + 1 + 1 + 1 := by rw [hw3]; simp
  have hb : Below w.heap.size w w3 := by
    rw [hw3]
    exact (((Below.refl _ _).alloc (Nat.le_refl _) _).alloc (by simp) _).alloc (by simp; omega) _
  rw [← hw3] at hh0 hh1 hh2
  have h3 := h.below hb
  have HI := Lib.hid hi0; have HZ0 := Lib.hid hz0; have HZ1 := Lib.hid hz1; have HZ2 := Lib.hid hz2
  have HSZ := Lib.hid hsz
  clear h hi0 hz0 hz1 hz2 hsz
  go_enter Tryd.func34, Tryd.ntmps34
  go_wp2
  rw [← hw3]
  clear hw3
  generalize hg0 : w.heap.size = b0 at *
  go_loopw [4] (fun i wr => ∃ k : Nat, k ≤ qs.length ∧ i = .int .i64 k ∧ (validQ qs = false → k = 0) ∧ ∃ hs A2 c2, wr.heap[b0 + 1 + 1]? = some (.cells #[.slice A2 k c2] 26 (0, 0)) ∧
      OwnQ wr w3.heap.size wr.heap.size (.slice A2 k c2) hs ((qs.take k).map dualL) ∧ Below (b0 + 1 + 1) w3 wr) (fun i _ => qs.length - (intOf i).toNat)
  case atStart => exact ⟨0, Nat.zero_le _, rfl, fun _ => rfl, fun _ => (none, 0), none, 0, hh2, OwnQ.nil _ _ _ _, Below.refl _ _⟩
  case round =>
    obtain ⟨k, hk, rfl, hk0, hs, A2, c2, hb2, hown, hbl⟩ := hrel
    have hbr : Below b0 w wr := hb.trans (hbl.mono (by omega))
    have hs3 : b0 + 1 + 1 + 1 ≤ wr.heap.size := by have := HSZ.out; have := hbl.size; omega
    have hc0 : wr.cell? ⟨b0, 0, none⟩ = some (.slice A qs.length c) := cell_of_row _ _ 0 _ _ (0, 0) ((hbl.block b0 (by omega)).trans hh0)
    have hc2 : wr.cell? ⟨b0 + 1 + 1, 0, none⟩ = some (.slice A2 k c2) := cell_of_row _ _ 0 _ _ (0, 0) hb2
    have hh1' := (hbl.block (b0 + 1) (by omega)).trans hh1
    have hc1 : wr.cell? ⟨b0 + 1, 0, none⟩ = some (.slice none 0 0) := cell_of_row _ _ 0 _ _ (0, 0) hh1'
    have hf1 : wr.frozen? ⟨b0 + 1, 0, none⟩ = false := frozen_of_row _ _ 0 _ _ hh1'
    have hout : ∀ V, (qs.take k).map dualL = V → k = V.length → (wr.setCell ⟨b0 + 1, 0, none⟩ (.slice A2 k c2)).heap[b0 + 1]? = some (.cells #[.slice A2 k c2] 26 (0, 0)) ∧
        OwnQ (wr.setCell ⟨b0 + 1, 0, none⟩ (.slice A2 k c2)) b0 (wr.setCell ⟨b0 + 1, 0, none⟩ (.slice A2 k c2)).heap.size (.slice A2 k c2) hs V ∧ Below b0 w (wr.setCell ⟨b0 + 1, 0, none⟩ (.slice A2 k c2)) := by
      rintro V rfl hk
      exact seq_out2 hbr (by omega) (by have := HSZ.out; omega) hh1' hown
    by_cases hlt : k < qs.length
    · have hV := sValidSeq_any A qs.length c qs wr ((h3.below (hbl.mono (by omega))).more (by omega)) hn hnc
      cases hv : validQ qs with
      | false =>
        obtain rfl := hk0 hv
        rw [hv] at hV
        have HN := Lib.hid (dualQ_no hv)
        have HV := Lib.hid hV
        have HO := Lib.hid hown
        have HBR := Lib.hid hbr
        have HSL : Hid (b0 + 1 < w3.heap.size) := Lib.hid (by have := HSZ.out; omega)
        clear hV hown hbl hbr hb2 h3 hb hout hk0
        go_wp2_with (fail)
        refine HV.out.mono ?_
        rintro e w5 ⟨rfl, bel5⟩
        have hh5 := (bel5.block (b0 + 1) (by omega)).trans hh1'
        have hc5 : w5.cell? ⟨b0 + 1, 0, none⟩ = some (.slice none 0 0) := cell_of_row _ _ 0 _ _ (0, 0) hh5
        have hf5 : w5.frozen? ⟨b0 + 1, 0, none⟩ = false := frozen_of_row _ _ 0 _ _ hh5
        have hc25 := (bel5.cell (p := ⟨b0 + 1 + 1, 0, none⟩) (by show b0 + 1 + 1 < _; omega)).trans hc2
        obtain ⟨h5, o5, b5⟩ := seq_out2 (HBR.out.trans (bel5.mono (by omega))) (by omega) HSL.out hh5 ((HO.out.below bel5).more (Nat.le_refl _) bel5.size)
        have H5 := Lib.hid h5; have O5 := Lib.hid o5; have B5 := Lib.hid b5
        clear h5 o5 b5 bel5 hh5
        go_wp2
        (try simp only [Exit.inBlock, Exit.then])
        refine bodyPost_ret (results_cell_row rfl _ _ (b0 + 1) _ _ (0, 0) _ rfl H5.out Tryd.underlying26 rfl (by kernel_rfl)) rfl ?_
        exact ⟨hs, A2, c2, by rw [HN.out]; rfl, by rw [hg0, HN.out]; exact O5.out, by rw [hg0]; exact B5.out⟩
      | true =>
        rw [hv] at hV
        have hvk := validQ_at hv hlt
        have h24 := valid_len hvk
        have hlen : ((qs.take k).map dualL).length = k := by simp; omega
        obtain ⟨b, off, rfl, hbb, hcells⟩ := (h3.below (hbl.mono (by omega))).2 (by omega)
        obtain ⟨A', c', hcell, hcc, hrd⟩ := hcells k hlt
        have hnx : (qs.take k).map dualL ++ [(qs.getD k []).map duZ] = (qs.take (k + 1)).map dualL := by
          rw [List.take_succ_eq_append_getElem hlt, List.map_append]
          have e3 : qs.getD k [] = qs[k] := by simp [List.getD, hlt]
          rw [← e3, List.map_singleton, dualL_yes hvk]
        have HNX := Lib.hid hnx; have HLEN := Lib.hid hlen
        clear hnx hlen hout
        have hl24 : ((qs.getD k []).map duZ).length = (qs.getD k []).length := by simp
        have HD := Lib.hid (fun (wx : World) (hx : RdI wx wx.heap.size A' (qs.getD k []).length (qs.getD k [])) => sdual_any A' c' (qs.getD k []) wx hx hvk)
        generalize (qs.getD k []).map duZ = dq at *
        have HRD := Lib.hid hrd
        generalize hM : (qs.getD k []).length = M at *
        subst hl24
        have HV := Lib.hid hV
        have HO := Lib.hid hown; have HB2 := Lib.hid hb2
        have HBL := Lib.hid hbl
        go_wp2_with (fail)
        refine HV.out.mono ?_
        rintro e w5 ⟨rfl, bel5⟩
        have s5 := bel5.size
        have bl5 : Below (b0 + 1 + 1) w3 w5 := HBL.out.trans (bel5.mono (by omega))
        have own5 := HO.out.below bel5
        have hb5 := (bel5.block (b0 + 1 + 1) (by omega)).trans HB2.out
        have R5 : Hid (RdI w5 w5.heap.size A' dq.length (qs.getD k [])) := Lib.hid ((HRD.out.below (bel5.mono (by omega))).more (by omega))
        have k1 : w5.cell? ⟨b0 + 1 + 1, 0, none⟩ = some (.slice A2 k c2) := cell_of_row _ _ 0 _ _ (0, 0) hb5
        have k2 : w5.cell? ⟨b0, 0, none⟩ = some (.slice (some ⟨b, off, none⟩) qs.length c) := (bel5.cell (p := ⟨b0, 0, none⟩) (by show b0 < _; omega)).trans hc0
        have k3 : w5.cell? ⟨b, off + k, none⟩ = some (.slice A' dq.length c') := (bel5.cell (p := ⟨b, off + k, none⟩) (by show b < _; omega)).trans hcell
        have HO5 := Lib.hid (own5.more (Nat.le_refl _) s5); have HB5 := Lib.hid hb5; have HBL5 := Lib.hid bl5
        clear hV hown hb2 hbl hrd HV HO HB2 HBL bel5 own5 hb5 bl5
        go_wp2_with (fail)
        go_region_law
          (first
            | (go_simp
               go_at_call 75
               refine (HD.out w5.drew R5.out).mono ?_
               rintro e w6 ⟨A6, c6, rfl, own6, bel6'⟩
               have bel6 := undrew bel6'
               obtain ⟨o6, n6, bs6⟩ := push_in (A6 := A6) (c6 := c6) (dq := dq) HO5.out HLEN.out (by have := HBL5.out.size; omega) bel6
               have O6 := Lib.hid o6
               have N6 := Lib.hid n6
               have BS6 := Lib.hid bs6
               have k1' := (bel6.cell (p := ⟨b0 + 1 + 1, 0, none⟩) (by show b0 + 1 + 1 < _; omega)).trans k1
               have hx6 := bel6.trans ((box_below w6 (.slice A6 dq.length c6) 44).mono bel6.size)
               have k1'' := (hx6.cell (p := ⟨b0 + 1 + 1, 0, none⟩) (by show b0 + 1 + 1 < _; omega)).trans k1
               have OW6 := Lib.hid own6
               have BE6 := Lib.hid bel6
               clear own6 bel6 bel6' o6 n6 bs6 hx6
               dsimp only)
            | (refine step_append_lies _ rfl _ _ _ rfl _ 44 i0 (.slice none 0 0) 1 24 Tryd.underlying24 HI.out HZ0.out HZ1.out HZ2.out rfl (by decide) _ _ _ rfl O6.out ⟨w6.heap.size, 0, none⟩ 1 1 [.slice A6 dq.length c6] rfl rfl N6.out (by simp [Value.oneCell']) (by decide) (by simp only [maxLen]; omega) (by omega) BS6.out _ rfl ?_
               intro g cap w7 hown7 hgrow7 hat7 hlt7
               obtain ⟨cl7, hf7, F1, F2, F3⟩ := push_out HO5.out HLEN.out (by have := HBL5.out.size; omega) (by have := HSZ.out; omega) HBL5.out HB5.out BE6.out OW6.out hown7 hgrow7 hat7
               have hk8 := (cl7 ⟨b0 + 1 + 1, 0, none⟩ (by have := HSZ.out; show b0 + 1 + 1 < _; omega)).trans k1
               rw [HNX.out] at F2
               have G1 := Lib.hid F1
               have G2 := Lib.hid F2
               have G3 := Lib.hid F3
               clear hown7 hgrow7 hat7 cl7 F1 F2 F3))
        all_goals
          go_wp2
          go_roundw
          case rel => exact ⟨k + 1, by omega, by go_num, fun h => Bool.noConfusion h, _, _, _, G1.out, G2.out, G3.out⟩
          case measure => simp [intOf]; omega
    · have hkl : k = qs.length := by omega
      subst hkl
      have hVV : (qs.take qs.length).map dualL = dualQ qs := by
        rw [List.take_of_length_le (Nat.le_refl _)]
        cases hv : validQ qs with
        | true => rw [dualQ_yes hv]
        | false =>
          have := hk0 hv
          have e : qs = [] := List.length_eq_zero_iff.1 this
          rw [e]; rfl
      have hll : qs.length = (dualQ qs).length := by rw [← hVV]; simp
      obtain ⟨h5, o5, b5⟩ := hout _ hVV hll
      have H5 := Lib.hid h5; have O5 := Lib.hid o5; have B5 := Lib.hid b5; have HLL := Lib.hid hll
      clear hout h5 o5 b5 hown hbl hbr hb2 h3 hVV hll hb hk0
      go_wp2
      (try simp only [Exit.inBlock, Exit.then])
      refine bodyPost_ret (results_cell_row rfl _ _ (b0 + 1) _ _ (0, 0) _ rfl H5.out Tryd.underlying26 rfl (by kernel_rfl)) rfl ?_
      exact ⟨hs, A2, c2, by rw [← HLL.out], by rw [hg0, ← HLL.out]; exact O5.out, by rw [hg0]; exact B5.out⟩
theorem total_small {qs : List (List Int)} (h : ∀ q ∈ qs, q.length ≤ 24) : total qs ≤ 24 * qs.length := by
  induction qs with
  | nil => simp [total]
  | cons x xs ih =>
    have h1 := h x (by simp)
    have h2 := ih fun q hq => h q (by simp [hq])
    have e : total (x :: xs) = x.length + total xs := by simp [total]
    rw [e, List.length_cons]
    omega
theorem dualQ_small (qs : List (List Int)) : (dualQ qs).length ≤ 1048576 ∧ total (dualQ qs) ≤ 1048576 := by
  cases hv : validQ qs with
  | false => rw [dualQ_no hv]; simp [total]
  | true =>
    have hl := validQ_len hv
    rw [dualQ_yes hv]
    have ht := total_small (qs := qs.map dualL) fun q hq => by
      obtain ⟨x, _, rfl⟩ := List.mem_map.1 hq
      exact dualL_len x
    rw [List.length_map] at ht ⊢
    omega
end Go.Proofs.YtjmalgadpodmbaaDoor
