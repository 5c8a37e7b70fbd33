/- The model's copies of rows and sequents. -/
import Derived.Test.YtdgejhlpncnenaaDoorDualS
namespace Go.Proofs.YtdgejhlpncnenaaDoor
open Go.ChangeShapes Go.WideShapes Go.ChangeAt Go.RowKit

/-- What a function leaves that hands back a row of slices in memory of its own. -/
def GivesSS (w : World) (V : List (List Int)) (e : Ending) (w' : World) : Prop :=
  ∃ hs A c, e = .returned (.slice A V.length c) ∧ OwnQ w' w.heap.size w'.heap.size (.slice A V.length c) hs V ∧ Below w.heap.size w w'
/-- A part pushed onto a row in a slot. -/
theorem push_own {w5 w6 w7 : World} {lo k c2 c6 g cap : Nat} {A2 A6 : Option Addr} {hs : Nat → Option Addr × Nat} {cur : List (List Int)} {dq : List Int} (own5 : OwnQ w5 lo w5.heap.size (.slice A2 k c2) hs cur) (hlen : cur.length = k) (hlo : lo ≤ w5.heap.size)
    (bel6 : Below w5.heap.size w5 w6) (own6 : w6.ownsRow w5.heap.size 2 1 (.slice A6 dq.length c6) dq.length (dq.map (Value.int .i64)))
    (hown7 : w7.ownsRow lo 24 1 (.slice (some ⟨g, 0, none⟩) (k + 1) cap) (k + 1) (rowV hs cur ++ [.slice A6 dq.length c6])) (hgrow7 : (w6.alloc (.cells #[.slice A6 dq.length c6] 24)).grownBy w7 (Value.slice A2 k c2).ownBlock)
    (hat7 : (Value.slice A2 k c2).ownBlock = some g ∨ g = (w6.alloc (.cells #[.slice A6 dq.length c6] 24)).heap.size) :
    OwnQ w7 lo w7.heap.size (.slice (some ⟨g, 0, none⟩) (k + 1) cap) (upd hs cur.length (A6, c6)) (cur ++ [dq]) ∧ Below lo w5 w7 := by
  have hbx := box_below w6 (.slice A6 dq.length c6) 24
  have hs6 := bel6.size
  have hsx := hbx.size
  have ob : ∀ q, (Value.slice A2 k c2).ownBlock = some q → lo ≤ q := fun q e => (own5.outer.lt q e).1
  have b67 : Below lo w5 w7 := ((bel6.mono hlo).trans (hbx.mono (by omega))).grown hgrow7 (by omega) ob
  have own6a := (own5.below bel6).below hbx
  subst hlen
  exact ⟨OwnQ.push (hi' := w7.heap.size) own6a ((own6.mono hlo).alloc (.cells #[.slice A6 dq.length c6] 24)) (fun q e => (own6.lt q e).1) hown7 hgrow7
    (fun q e => by
      obtain rfl : g = q := by simpa [Value.ownBlock] using e
      rcases hat7 with h | h
      · exact .inl h
      · exact .inr (Nat.le_of_eq h.symm)) (by omega) (Nat.le_refl _), b67⟩
/-- An empty row just made. -/
theorem OwnQ.made (w : World) (hs : Nat → Option Addr × Nat) : OwnQ (w.alloc (.cells #[] 24)) w.heap.size (w.alloc (.cells #[] 24)).heap.size (.slice (some ⟨w.heap.size, 0, none⟩) 0 0) hs [] where
  outer := by simpa [rowV] using World.ownsRow_made (e := 24) (base := w.heap.size) (size := 1) w #[] 0 (Nat.le_refl _) (by simp [maxLen]) rfl
  inner i hi := by simp at hi
  apart i _ hi := by simp at hi
  apart0 i hi := by simp at hi
  top0 k e := by
    obtain rfl : w.heap.size = k := by simpa [Value.ownBlock] using e
    simp
  top i _ hi := by simp at hi
theorem take_push {qs : List (List Int)} {k : Nat} (h : k < qs.length) : qs.take k ++ [qs.getD k []] = qs.take (k + 1) := by
  rw [List.take_succ_eq_append_getElem h]
  simp [List.getD, h]

set_option maxHeartbeats 2000000 in
theorem sCopyForms_any (A : Option Addr) (n c : Nat) (qs : List (List Int)) (w : World) (h : RdQ w w.heap.size A n qs) (hn : n ≤ 1000) (hq : ∀ q ∈ qs, q.length ≤ 1000) (hp : ∀ q ∈ qs, 0 < q.length) :
    Calls Tryd.prog 84 #[.slice A n c] w (GivesSS w qs) := by
  obtain ⟨i0, hi0, hz0, hz1, hz2⟩ := info_parts_s
  have hl := h.len
  subst hl
  have hw0 := OwnQ.made w (fun _ => (none, 0))
  have hb0 : Below w.heap.size w (w.alloc (.cells #[] 24)) := (Below.refl _ _).alloc (Nat.le_refl _) _
  have HI := Lib.hid hi0; have HZ0 := Lib.hid hz0; have HZ1 := Lib.hid hz1; have HZ2 := Lib.hid hz2
  have H0 := Lib.hid hw0; have HB0 := Lib.hid hb0
  clear hi0 hz0 hz1 hz2 hw0 hb0
  go_enter Tryd.func84, Tryd.ntmps84
  go_wp2
  generalize w.alloc (.cells #[] 24) = w1 at *
  go_loopw [3, 4] (fun o i wr => ∃ k : Nat, k ≤ qs.length ∧ i = .int .i64 k ∧ ∃ hs A2 c2, o = .slice A2 k c2 ∧ OwnQ wr w.heap.size wr.heap.size (.slice A2 k c2) hs (qs.take k) ∧ Below w.heap.size w wr) (fun _ i _ => qs.length - (intOf i).toNat)
  case atStart => exact ⟨0, Nat.zero_le _, rfl, _, _, _, rfl, H0.out, HB0.out⟩
  case round =>
    obtain ⟨k, hk, rfl, hs, A2, c2, rfl, hown, hb⟩ := hrel
    by_cases hlt : k < qs.length
    · have h' := (h.below hb).more hb.size
      obtain ⟨b, off, rfl, hbb, hcells⟩ := h'.2 (by omega)
      obtain ⟨A', c', hcell, hcc, hrd⟩ := hcells k hlt
      have hm := hq _ (getD_mem hlt)
      have hpos := hp _ (getD_mem hlt)
      have HLEN : Hid ((qs.take k).length = k) := Lib.hid (by rw [List.length_take]; omega)
      have HNX := Lib.hid (take_push hlt)
      generalize hQ : qs.getD k [] = q at *
      have HT := Lib.hid (copyInts_any (.slice A' q.length c') q wr (Part.of_rd hrd hpos) hm)
      have HO := Lib.hid hown; have HB := Lib.hid hb
      clear hown hb h h' hcells hrd hQ H0 HB0
      go_wp2_with (first
        | (go_at_call 54; refine HT.out.mono ?_; rintro e w6 ⟨A6, c6, rfl, own6, bel6⟩; obtain ⟨o6, n6, bs6⟩ := push_in (A6 := A6) (c6 := c6) (dq := q) HO.out HLEN.out HB.out.size bel6; have O6 := Lib.hid o6; have N6 := Lib.hid n6; have BS6 := Lib.hid bs6; have OW6 := Lib.hid own6; have BE6 := Lib.hid bel6; clear own6 bel6 o6 n6 bs6)
        | (at_builtin; refine wpList_append_lies _ rfl _ _ _ rfl w.heap.size 24 i0 (.slice none 0 0) 1 24 Tryd.underlying26 HI.out HZ0.out HZ1.out HZ2.out rfl (by decide) _ _ _ rfl O6.out ⟨w6.heap.size, 0, none⟩ 1 1 [.slice A6 q.length c6] rfl rfl N6.out (by simp [Value.oneCell']) (by decide) (by simp only [maxLen]; omega) (by omega) BS6.out _ rfl ?_; intro g cap w7 hown7 hgrow7 hat7 hlt7))
      obtain ⟨G1, G2⟩ := push_own HO.out HLEN.out HB.out.size BE6.out OW6.out hown7 hgrow7 hat7
      rw [HNX.out] at G1
      have J1 := Lib.hid G1; have J2 := Lib.hid (HB.out.trans G2)
      clear hown7 hgrow7 hat7 G1 G2
      go_roundw
      case rel => exact ⟨k + 1, by omega, by go_num, _, _, _, rfl, J1.out, J2.out⟩
      case measure => simp [intOf]; omega
    · have hkl : k = qs.length := by omega
      subst hkl
      rw [List.take_of_length_le (Nat.le_refl _)] at hown
      have HO := Lib.hid hown; have HB := Lib.hid hb
      clear hown hb h hq hp H0 HB0
      go_wp2
      go_ret
      exact ⟨_, _, _, rfl, HO.out, HB.out⟩

set_option maxHeartbeats 1000000 in
theorem sCopySeq_any (A : Option Addr) (n c : Nat) (qs : List (List Int)) (w : World) (h : RdQ w w.heap.size A n qs) (hn : n ≤ 1000) (hq : ∀ q ∈ qs, q.length ≤ 1000) (hp : ∀ q ∈ qs, 0 < q.length) :
    Calls Tryd.prog 53 #[.agg #[.slice A n c]] w (GivesSeq w qs) := by
  obtain ⟨w2, hw2⟩ : ∃ w2, w2 = (w.alloc (.cells #[Value.slice A n c] 34)).alloc (.cells #[.slice none 0 0] 34) := ⟨_, rfl⟩
  obtain ⟨hb, ca, _, hsz⟩ := two_boxes w (.slice A n c) (.slice none 0 0) 34
  obtain ⟨_, hh2⟩ := two_heap w (.cells #[Value.slice A n c] 34) (.cells #[.slice none 0 0] 34)
  have ha : ((w.alloc (.cells #[Value.slice A n c] 34)).alloc (.cells #[.slice none 0 0] 34)).cell? ⟨w.heap.size, 0, none⟩ = some (.slice A n c) := ca
  rw [← hw2] at hb hsz hh2
  have hszl : w.heap.size + 1 < w2.heap.size := by omega
  have HM := Lib.hid (sCopyForms_any A n c qs w2 ((h.below hb).more hb.size) hn hq hp)
  have HB := Lib.hid hb; have HH := Lib.hid hh2
  clear h hq hp hsz hb hh2 ca
  go_enter Tryd.func53, Tryd.ntmps53
  go_wp2_with (fail)
  rw [← hw2]
  clear hw2 ha
  refine HM.out.mono ?_
  rintro e w3 ⟨hs, A3, c3, rfl, own3, bel3⟩
  obtain ⟨hc3, hf3, h5, o5, b5⟩ := seq_out HB.out (b := w.heap.size + 1) (by omega) hszl HH.out own3 bel3
  have H5 := Lib.hid h5; have O5 := Lib.hid o5; have B5 := Lib.hid b5
  clear own3 bel3 h5 o5 b5
  go_wp2
  (try simp only [Exit.inBlock, Exit.then])
  refine bodyPost_ret (results_cell_row rfl _ _ (w.heap.size + 1) _ _ (0, 0) _ rfl H5.out Tryd.underlying34 rfl (by kernel_rfl)) rfl ?_
  exact ⟨hs, _, _, rfl, O5.out, B5.out⟩
end Go.Proofs.YtdgejhlpncnenaaDoor
