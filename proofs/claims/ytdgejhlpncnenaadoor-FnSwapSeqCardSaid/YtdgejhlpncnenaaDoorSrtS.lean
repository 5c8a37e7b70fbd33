/- The model's sortForms and SortedSeq. -/
import Derived.Test.YtdgejhlpncnenaaDoorSrtK
import Derived.Test.YtdgejhlpncnenaaDoorCopyS
import Derived.Test.YtdgejhlpncnenaaDoorInsF
import Derived.StillTailTactics
namespace Go.Proofs.YtdgejhlpncnenaaDoor
open Go.ChangeShapes Go.WideShapes Go.ChangeAt Go.RowKit

/-- The reslice of a row from place p on, and its content. -/
theorem tail_cells {w : World} {lo hi g n c p : Nat} {hs : Nat → Option Addr × Nat} {cur : List (List Int)} (ho : OwnQ w lo hi (.slice (some ⟨g, 0, none⟩) n c) hs cur) (hn : cur.length = n) :
    ∀ j u, ((rowV hs cur).drop p)[j]? = some u → w.cell? ((⟨g, p, none⟩ : Addr).add j) = some u := by
  intro j u hu
  rw [List.getElem?_drop] at hu
  have hj : p + j < cur.length := by
    rcases Nat.lt_or_ge (p + j) cur.length with h | h
    · exact h
    · rw [List.getElem?_eq_none (by rw [rowV_len]; exact h)] at hu; cases hu
  have hadd : (⟨g, p, none⟩ : Addr).add j = ⟨g, p + j, none⟩ := by unfold Addr.add; split <;> simp_all
  rw [hadd, (ho.at hn (by omega)).2, ← hu, rowV_at hj]
theorem head_cells {w : World} {lo hi g n c p : Nat} {hs : Nat → Option Addr × Nat} {cur : List (List Int)} (ho : OwnQ w lo hi (.slice (some ⟨g, 0, none⟩) n c) hs cur) (hn : cur.length = n) :
    ∀ j u, ((rowV hs cur).take p)[j]? = some u → w.cell? ((⟨g, 0, none⟩ : Addr).add j) = some u := by
  intro j u hu
  have hj : j < cur.length ∧ j < p := by
    rcases Nat.lt_or_ge j ((rowV hs cur).take p).length with h | h
    · rw [List.length_take, rowV_len] at h; omega
    · rw [List.getElem?_eq_none h] at hu; cases hu
  have hadd : (⟨g, 0, none⟩ : Addr).add j = ⟨g, j, none⟩ := by unfold Addr.add; split <;> simp_all
  rw [List.getElem?_take, if_pos hj.2] at hu
  rw [hadd, (ho.at hn (by omega)).2, ← hu, rowV_at hj.1]
theorem hv_one {hs : Nat → Option Addr × Nat} {cur : List (List Int)} {u : Value} (h : u ∈ rowV hs cur) : u.oneCell' = true := by
  obtain ⟨i, _, rfl⟩ := List.mem_map.1 h
  rfl

theorem blk_of {g n c b : Nat} (h : (Value.slice (some ⟨g, 0, none⟩) n c).ownBlock = some b) : g = b := by simpa [Value.ownBlock] using h
theorem lit_one (w : World) (v : Value) : (w.alloc (.cells #[v] 24)).ownsRow w.heap.size 24 1 (.slice (some ⟨w.heap.size, 0, none⟩) 1 1) 1 [v] :=
  ⟨by simp, .inr ⟨w.heap.size, 1, #[v], rfl, Nat.le_refl _, heap_alloc_new w _, Nat.le_refl _, by simp [maxLen], rfl, by simp⟩⟩
theorem row_cells {w : World} {base n g c : Nat} {xs : List Value} (h : w.ownsRow base 24 1 (.slice (some ⟨g, 0, none⟩) n c) n xs) : ∀ j u, xs[j]? = some u → w.cell? ((⟨g, 0, none⟩ : Addr).add j) = some u := by
  intro j u hu
  have hl : xs.length = n := by have := h.1; omega
  have hj : j < n := by
    rcases Nat.lt_or_ge j xs.length with h' | h'
    · omega
    · rw [List.getElem?_eq_none h'] at hu; cases hu
  have hadd : (⟨g, 0, none⟩ : Addr).add j = ⟨g, j, none⟩ := by unfold Addr.add; split <;> simp_all
  rw [hadd, h.cellAt j (by omega), hu]

/-- At a step of a region that draws its order: an append of a part of a row, perhaps of nothing. -/
theorem step_append_own {P : Program} {w : World} {ops : Array Oper} {o : Oper} {a : Act} {K : Act → World → Prop} {Q : Exit → Act → World → Prop} {E : Prop} (hgd : o.guard = none) (s x : Operand) (t : TypeId)
    (ho : o.op = .call { callee := .builtin .append, args := #[s, x], argTypes := #[t, t] })
    (base : Nat) (e : TypeId) (i : TypeInfo) (z : Value) (size bytes : Nat) (ht : P.underlying t = some (.slice e)) (hi : P.info? e = some i) (hz : i.zero = some z)
    (hsize : i.size = size) (hby : i.bytes = bytes) (hzs : z.cells.size = size) (hsz : 0 < size)
    (v : Value) (n : Nat) (xs : List Value) (hs : a.eval s = v) (hown : w.ownsRow base e size v n xs)
    (ad : Addr) (m c : Nat) (news : List Value) (hx : a.eval x = .slice (some ad) m c) (hl : news.length = m * size) (hnews : ∀ j u, news[j]? = some u → w.cell? (ad.add j) = some u) (h1 : ∀ u ∈ news, u.oneCell' = true)
    (h63 : n + m ≤ maxLen) (hbytes : (n + m) * bytes ≤ 140737488355328) (hbase : base ≤ w.heap.size)
    (h : ∀ v' w', w'.ownsRow base e size v' (n + m) (xs ++ news) → w.grownBy w' v.ownBlock → (v' = .slice none 0 0 ↔ v = .slice none 0 0 ∧ m = 0) → K (a.put o.dst v') w') :
    if Region.wanted o (yielded ops a.tmps) = true then Oper.wp P o a w K Q else E := by
  have hw : Region.wanted o (yielded ops a.tmps) = true := by simp [Region.wanted, hgd]
  rw [if_pos hw]
  exact wp_append_own w s x t ho base e i z size bytes ht hi hz hsize hby hzs hsz v n xs hs hown ad m c news hx hl hnews h1 h63 hbytes hbase h

set_option maxRecDepth 100000 in
set_option maxHeartbeats 1000000 in
theorem sSortForms_any (A : Option Addr) (n c : Nat) (qs : List (List Int)) (w : World) (h : RdQ w w.heap.size A n qs) (hn : n ≤ 1000) (hq : ∀ q ∈ qs, q.length ≤ 1000) (hp : ∀ q ∈ qs, 0 < q.length) :
    Calls Tryd.prog 62 #[.slice A n c] w (GivesSS w (srtL qs)) := by
  obtain ⟨i0, hi0, hz0, hz1, hz2⟩ := info_parts_s
  have hl := h.len
  subst hl
  have hw0 := OwnQ.made w (fun _ => (none, 0))
  have hb0 : Below w.heap.size w (w.alloc (.cells #[] 24)) := (Below.refl _ _).alloc (Nat.le_refl _) _
  have HI := Lib.hid hi0; have HZ0 := Lib.hid hz0; have HZ1 := Lib.hid hz1; have HZ2 := Lib.hid hz2
  have H0 := Lib.hid hw0; have HB0 := Lib.hid hb0; have H := Lib.hid h; have HQ := Lib.hid hq; have HP := Lib.hid hp
  clear hi0 hz0 hz1 hz2 hw0 hb0 h hq hp
  go_enter Tryd.func62, Tryd.ntmps62
  go_wp2_with (fail)
  generalize w.alloc (.cells #[] 24) = w1 at *
  go_loopw [3, 4] (fun o i wr => ∃ (k : Nat) (hs : Nat → Option Addr × Nat) (g c2 : Nat) (cur : List (List Int)), k ≤ qs.length ∧ i = .int .i64 k ∧ o = .slice (some ⟨g, 0, none⟩) k c2 ∧ cur.length = k ∧ OwnQ wr w.heap.size wr.heap.size (.slice (some ⟨g, 0, none⟩) k c2) hs cur ∧ cur.Perm (qs.take k) ∧ SoL cur ∧ Below w.heap.size w wr) (fun _ i _ => qs.length - (intOf i).toNat)
  case atStart => exact ⟨0, _, _, _, [], Nat.zero_le _, rfl, rfl, rfl, H0.out, by simp, by simp [SoL], HB0.out⟩
  case round =>
    obtain ⟨k, hs, g, c2, cur, hk, rfl, rfl, hlen, hown, hperm, hso, hb⟩ := hrel
    rename World => wo
    have HO := Lib.hid hown; have HPM := Lib.hid hperm; have HSO := Lib.hid hso; have HB := Lib.hid hb; have HLEN := Lib.hid hlen
    have hgo : g < wo.heap.size := (hown.outer.lt g rfl).2
    have hkc : k ≤ c2 := by have h := hown.outer; rw [hlen] at h; exact own_cap1 h
    clear hown hperm hso hlen
    by_cases hlt : k < qs.length
    · have h' := (H.out.below hb).more hb.size
      obtain ⟨b, off, rfl, hbb, hcells⟩ := h'.2 (by omega)
      obtain ⟨A', c', hcell, hcc, hrd⟩ := hcells k hlt
      have hm := HQ.out _ (getD_mem hlt)
      have hpos := HP.out _ (getD_mem hlt)
      have HPR : Hid ((cur ++ [qs.getD k []]).Perm (qs.take (k + 1))) := Lib.hid (by rw [← take_push hlt]; exact HPM.out.append_right _)
      generalize qs.getD k [] = q at *
      have HR := Lib.hid hrd
      clear hb h' hcells hrd
      go_wp2_with (fail)
      go_loopw [5] (fun a wx => ∃ p : Nat, p ≤ k ∧ a = .int .i64 p ∧ (∀ b, p ≤ b → b < k → cmpL q (cur.getD b []) < 0) ∧ Below wo.heap.size wo wx) (fun a _ => (intOf a).toNat)
      case atStart => exact ⟨k, Nat.le_refl _, rfl, fun b h1 h2 => absurd h1 (by omega), Below.refl _ _⟩
      case round =>
        obtain ⟨p, hp, rfl, hinv, hbi⟩ := hrel
        have HIV := Lib.hid hinv; have HBI := Lib.hid hbi
        have hcx := (hbi.cell (p := ⟨b, off + k, none⟩) (by show b < _; omega)).trans hcell
        clear hinv hbi
        by_cases hstop : p = 0 ∨ ¬ cmpL q (cur.getD (p - 1) []) < 0
        · have HST := Lib.hid hstop
          clear hstop
          go_upto_region 6 with (fail)
          go_cut [29] (fun t wx => t = .bool false ∧ Below wo.heap.size wo wx)
          case first =>
            by_cases hp0 : p = 0
            · subst hp0
              go_wp2_with (fail)
              go_region
              all_goals go_wp2_with (fail)
              all_goals go_meet
              all_goals exact ⟨rfl, HBI.out.drew⟩
            · obtain ⟨p1, rfl⟩ : ∃ p1, p = p1 + 1 := ⟨p - 1, by omega⟩
              have hlt' : ¬ cmpL q (cur.getD p1 []) < 0 := HST.out.resolve_left hp0
              have hcp := (HBI.out.cell (p := ⟨g, p1, none⟩) hgo).trans (HO.out.at HLEN.out (k := p1) (by omega)).2
              rw [hv_is] at hcp
              have ho1 := HO.out.inner p1 (by rw [HLEN.out]; omega)
              have r1 := RdI.of_own (own_below ho1 HBI.out (Nat.le_refl _))
              have r2 := (HR.out.below HBI.out).more HBI.out.size
              have l1 := HQ.out _ (List.mem_of_mem_take (HPM.out.mem_iff.1 (getD_mem (qs := cur) (k := p1) (by rw [HLEN.out]; omega))))
              have hFB := sformBefore_any A' (hs p1).1 c' (hs p1).2 q (cur.getD p1 []) wr.drew r2 r1 (by omega) (by omega)
              rw [decide_eq_false hlt'] at hFB
              have HFB := Lib.hid hFB
              have hd0 : decide ((0 : Int) < ((p1 + 1 : Nat) : Int)) = true := decide_eq_true (by omega)
              have hd1 : decide ((0 : Int) < (p1 : Int) + 1) = true := decide_eq_true (by omega)
              clear hFB r1 r2 ho1 hlt' l1
              generalize (cur.getD p1 []).length = lp at *
              generalize (hs p1).1 = Ap at *; generalize (hs p1).2 = cp at *
              have hp1k : (p1 : Int) < (k : Int) := by omega
              have hwr : IntKind.i64.wrap (p1 : Int) = p1 := IntWalk.i64_in _ (by omega)
              go_wp2_with (fail)
              go_still_tail 12, (by kernel_rfl)
              change wpList _ _ _ _ _ wr.drew
              go_wp2_with (fail)
              refine HFB.out.mono ?_
              rintro e wf ⟨rfl, bf'⟩
              have bf := undrew bf'
              clear bf'
              all_goals go_wp2_with (fail)
              all_goals go_meet
              all_goals exact ⟨rfl, HBI.out.trans (bf.mono HBI.out.size)⟩
          case rest =>
            obtain ⟨rfl, hbx⟩ := hcut
            rename World => wx
            have hcx2 := (hbx.cell (p := ⟨b, off + k, none⟩) (by show b < _; omega)).trans hcell
            have hnew : SoL (insAt cur p q) := insAt_sol HSO.out (by rw [HLEN.out]; exact hp) (fun b h1 h2 => HIV.out b h1 (by rw [← HLEN.out]; exact h2)) HST.out
            have HNEW := Lib.hid hnew
            have HNP : Hid ((insAt cur p q).Perm (cur ++ [q])) := Lib.hid ((insAt_perm q (by rw [HLEN.out]; exact hp)).trans (List.perm_append_singleton q cur).symm)
            have HT := Lib.hid (copyInts_any (.slice A' q.length c') q wx.drew (Part.of_rd ((HR.out.below hbx).more hbx.size) hpos) hm)
            have HBX := Lib.hid hbx
            clear hbx hnew HST HIV HBI hcx
            have hpI : (p : Int) ≤ (k : Int) := by omega
            have hpC : (p : Int) ≤ (c2 : Int) := by omega
            have hsx := HBX.out.size
            by_cases hpc : p = c2
            · have hpk : p = k := by omega
              clear hpI hpC hp
              subst hpc
              subst hpk
              go_wp2_with (fail)
              go_region_law
                (first
                  | (go_simp
                     go_at_call 54
                     refine HT.out.mono ?_
                     rintro e w6 ⟨A6, c6, rfl, own6, bel6'⟩
                     have bel6 := undrew bel6'
                     have O6 := Lib.hid (lit_one w6 (.slice A6 q.length c6))
                     have oxx := HO.out.below (HBX.out.trans (bel6.mono hsx))
                     have OX := Lib.hid oxx
                     have OW6 := Lib.hid own6
                     have BE6 := Lib.hid bel6
                     clear own6 bel6 bel6' oxx
                     dsimp only)
                  | (refine step_append_own rfl _ _ _ rfl w6.heap.size 24 i0 (.slice none 0 0) 1 24 Tryd.underlying26 HI.out HZ0.out HZ1.out HZ2.out rfl (by decide) _ _ _ rfl O6.out ⟨g, 0, none⟩ 0 0 [] rfl ?l1 ?l6 ?l2 ?l3 ?l4 ?l5 ?_
                     case l1 => rfl
                     case l6 => intro j u hu; simp at hu
                     case l2 => intro u hu; simp at hu
                     case l3 => simp only [maxLen]; omega
                     case l4 => omega
                     case l5 => simp
                     intro v7 w7 hown7 hgrow7 _
                     rw [Nat.add_zero, List.append_nil] at hown7
                     obtain ⟨g7, cap7, rfl, hg7, hl7⟩ := hown7.form (by omega)
                     have O7 := Lib.hid hown7
                     have G7 := Lib.hid hgrow7
                     clear hown7 hgrow7))
              have B67 : Below w6.heap.size w6 w7 := (box_below w6 (.slice A6 q.length c6) 24).grown G7.out (box_below w6 (.slice A6 q.length c6) 24).size (fun b hb => Nat.le_of_eq (blk_of hb))
              have hs67 := B67.size
              have o7e := World.ownsRow_made (e := 24) (base := w6.heap.size) (size := 1) w7 #[] 0 hs67 (by simp [maxLen]) rfl
              have n7 := head_cells (p := p) ((OX.out.below B67).below ((Below.refl w7.heap.size w7).alloc (Nat.le_refl _) (.cells #[] 24))) HLEN.out
              have O7E := Lib.hid o7e; have N7 := Lib.hid n7; have HB67 := Lib.hid B67
              have tokA : True := trivial
              clear o7e n7 B67
              go_wp2_with (first
                | (at_builtin
                   have _t := tokA
                   refine wpList_append_own _ rfl _ _ _ rfl w6.heap.size 24 i0 (.slice none 0 0) 1 24 Tryd.underlying26 HI.out HZ0.out HZ1.out HZ2.out rfl (by decide) _ _ _ rfl O7E.out ⟨g, 0, none⟩ p p ((rowV hs cur).take p) rfl ?l1 N7.out ?l2 ?l3 ?l4 ?l5 ?_
                   case l1 => rw [List.length_take, rowV_len, HLEN.out, Nat.mul_one]; omega
                   case l2 => exact fun u hu => hv_one (List.mem_of_mem_take hu)
                   case l3 => simp only [maxLen]; omega
                   case l4 => omega
                   case l5 => simp; omega
                   intro v8 w8 hown8 hgrow8 _
                   rw [Nat.zero_add, List.nil_append] at hown8
                   obtain ⟨A8, c8, rfl⟩ := own_shape hown8
                   have O8 := Lib.hid hown8
                   have hg8 := hgrow8.size
                   have N8 := Lib.hid (row_cells ((O7.out.alloc (.cells #[] 24)).kept hgrow8 (.inr (fun e => absurd (blk_of e) (Nat.ne_of_lt hl7)))))
                   have B68 := Lib.hid ((HB67.out.alloc hs67 (.cells #[] 24)).grown hgrow8 (by simp; omega) (fun b hb => Nat.le_trans hs67 (Nat.le_of_eq (blk_of hb))))
                   clear hown8 hgrow8 tokA)
                | (at_builtin
                   refine wpList_append_lies _ rfl _ _ _ rfl w6.heap.size 24 i0 (.slice none 0 0) 1 24 Tryd.underlying26 HI.out HZ0.out HZ1.out HZ2.out rfl (by decide) _ _ _ rfl O8.out ⟨g7, 0, none⟩ 1 cap7 [.slice A6 q.length c6] rfl ?l1 N8.out ?l2 ?l0 ?l3 ?l4 ?l5 _ rfl ?_
                   case l1 => rfl
                   case l2 =>
                     intro u hu
                     obtain rfl := List.mem_singleton.1 hu
                     rfl
                   case l0 => omega
                   case l3 => simp only [maxLen]; omega
                   case l4 => omega
                   case l5 => exact B68.out.size
                   intro g9 cap9 w9 hown9 hgrow9 _ _
                   have O9 := Lib.hid hown9
                   have B69 := Lib.hid (B68.out.grown hgrow9 B68.out.size (fun b hb => (O8.out.lt b hb).1))
                   clear hown9 hgrow9))
              have h6s := BE6.out.size
              have hdz : wx.drew.heap.size = wx.heap.size := rfl
              have hIN := OX.out.insert (p := p) (q := q) (a := A6) (c' := c6) (v' := .slice (some ⟨g9, 0, none⟩) (p + 1) cap9) (by rw [HLEN.out]; exact Nat.le_refl _) (by have := HB.out.size; omega) (OW6.out.mono (by have := HB.out.size; omega)) (fun b hb => by have := (OW6.out.lt b hb).1; omega) B69.out
                (by rw [HLEN.out]; have h := O9.out; rw [List.drop_of_length_le (by rw [rowV_len, HLEN.out]; exact Nat.le_refl _)]; exact h)
              have HIN := Lib.hid hIN
              clear hIN
              go_roundw
              case rel => exact ⟨p + 1, _, g9, cap9, insAt cur p q, by omega, by go_num, rfl, by rw [insAt_len (by rw [HLEN.out]; exact Nat.le_refl _), HLEN.out], HIN.out, HNP.out.trans HPR.out, HNEW.out, (HB.out.trans ((HBX.out.trans (BE6.out.mono hsx)).mono HB.out.size)).trans (B69.out.mono (by have := HB.out.size; omega))⟩
              case measure => simp [intOf]; omega
            · have hpc' : ¬ c2 = p := fun e => hpc e.symm
              go_wp2_with (fail)
              go_region_law
                (first
                  | (go_simp
                     go_at_call 54
                     refine HT.out.mono ?_
                     rintro e w6 ⟨A6, c6, rfl, own6, bel6'⟩
                     have bel6 := undrew bel6'
                     have O6 := Lib.hid (lit_one w6 (.slice A6 q.length c6))
                     have oxx := HO.out.below (HBX.out.trans (bel6.mono hsx))
                     have oxy := oxx.below (box_below w6 (.slice A6 q.length c6) 24)
                     have N6 := Lib.hid (tail_cells (p := p) oxy HLEN.out)
                     have OX := Lib.hid oxx
                     have OW6 := Lib.hid own6
                     have BE6 := Lib.hid bel6
                     clear own6 bel6 bel6' oxx oxy
                     dsimp only)
                  | (refine step_append_own rfl _ _ _ rfl w6.heap.size 24 i0 (.slice none 0 0) 1 24 Tryd.underlying26 HI.out HZ0.out HZ1.out HZ2.out rfl (by decide) _ _ _ rfl O6.out ⟨g, p, none⟩ (k - p) (c2 - p) ((rowV hs cur).drop p) rfl ?l1 N6.out ?l2 ?l3 ?l4 ?l5 ?_
                     case l1 => rw [List.length_drop, rowV_len, HLEN.out, Nat.mul_one]
                     case l2 => exact fun u hu => hv_one (List.mem_of_mem_drop hu)
                     case l3 => simp only [maxLen]; omega
                     case l4 => omega
                     case l5 => simp
                     intro v7 w7 hown7 hgrow7 _
                     obtain ⟨g7, cap7, rfl, hg7, hl7⟩ := hown7.form (by omega)
                     have O7 := Lib.hid hown7
                     have G7 := Lib.hid hgrow7
                     clear hown7 hgrow7))
              have B67 : Below w6.heap.size w6 w7 := (box_below w6 (.slice A6 q.length c6) 24).grown G7.out (box_below w6 (.slice A6 q.length c6) 24).size (fun b hb => Nat.le_of_eq (blk_of hb))
              have hs67 := B67.size
              have o7e := World.ownsRow_made (e := 24) (base := w6.heap.size) (size := 1) w7 #[] 0 hs67 (by simp [maxLen]) rfl
              have n7 := head_cells (p := p) ((OX.out.below B67).below ((Below.refl w7.heap.size w7).alloc (Nat.le_refl _) (.cells #[] 24))) HLEN.out
              have O7E := Lib.hid o7e; have N7 := Lib.hid n7; have HB67 := Lib.hid B67
              have tokA : True := trivial
              clear o7e n7 B67
              go_wp2_with (first
                | (at_builtin
                   have _t := tokA
                   refine wpList_append_own _ rfl _ _ _ rfl w6.heap.size 24 i0 (.slice none 0 0) 1 24 Tryd.underlying26 HI.out HZ0.out HZ1.out HZ2.out rfl (by decide) _ _ _ rfl O7E.out ⟨g, 0, none⟩ p c2 ((rowV hs cur).take p) rfl ?l1 N7.out ?l2 ?l3 ?l4 ?l5 ?_
                   case l1 => rw [List.length_take, rowV_len, HLEN.out, Nat.mul_one]; omega
                   case l2 => exact fun u hu => hv_one (List.mem_of_mem_take hu)
                   case l3 => simp only [maxLen]; omega
                   case l4 => omega
                   case l5 => simp; omega
                   intro v8 w8 hown8 hgrow8 _
                   rw [Nat.zero_add, List.nil_append] at hown8
                   obtain ⟨A8, c8, rfl⟩ := own_shape hown8
                   have O8 := Lib.hid hown8
                   have hg8 := hgrow8.size
                   have N8 := Lib.hid (row_cells ((O7.out.alloc (.cells #[] 24)).kept hgrow8 (.inr (fun e => absurd (blk_of e) (Nat.ne_of_lt hl7)))))
                   have B68 := Lib.hid ((HB67.out.alloc hs67 (.cells #[] 24)).grown hgrow8 (by simp; omega) (fun b hb => Nat.le_trans hs67 (Nat.le_of_eq (blk_of hb))))
                   clear hown8 hgrow8 tokA)
                | (at_builtin
                   refine wpList_append_lies _ rfl _ _ _ rfl w6.heap.size 24 i0 (.slice none 0 0) 1 24 Tryd.underlying26 HI.out HZ0.out HZ1.out HZ2.out rfl (by decide) _ _ _ rfl O8.out ⟨g7, 0, none⟩ (1 + (k - p)) cap7 ([.slice A6 q.length c6] ++ (rowV hs cur).drop p) rfl ?l1 N8.out ?l2 ?l0 ?l3 ?l4 ?l5 _ rfl ?_
                   case l1 => rw [List.length_append, List.length_drop, rowV_len, HLEN.out, Nat.mul_one]; rfl
                   case l2 =>
                     intro u hu
                     rcases List.mem_append.1 hu with hu | hu
                     · obtain rfl := List.mem_singleton.1 hu; rfl
                     · exact hv_one (List.mem_of_mem_drop hu)
                   case l0 => omega
                   case l3 => simp only [maxLen]; omega
                   case l4 => omega
                   case l5 => exact B68.out.size
                   intro g9 cap9 w9 hown9 hgrow9 _ _
                   have e9 : p + (1 + (k - p)) = k + 1 := by omega
                   rw [e9] at hown9 ⊢
                   have O9 := Lib.hid hown9
                   have B69 := Lib.hid (B68.out.grown hgrow9 B68.out.size (fun b hb => (O8.out.lt b hb).1))
                   clear hown9 hgrow9))
              have h6s := BE6.out.size
              have hdz : wx.drew.heap.size = wx.heap.size := rfl
              have hIN := OX.out.insert (p := p) (q := q) (a := A6) (c' := c6) (v' := .slice (some ⟨g9, 0, none⟩) (k + 1) cap9) (by rw [HLEN.out]; exact hp) (by have := HB.out.size; omega) (OW6.out.mono (by have := HB.out.size; omega)) (fun b hb => by have := (OW6.out.lt b hb).1; omega) B69.out
                (by rw [HLEN.out]; have h := O9.out; simpa using h)
              have HIN := Lib.hid hIN
              clear hIN
              go_roundw
              case rel => exact ⟨k + 1, _, g9, cap9, insAt cur p q, by omega, by go_num, rfl, by rw [insAt_len (by rw [HLEN.out]; exact hp), HLEN.out], HIN.out, HNP.out.trans HPR.out, HNEW.out, (HB.out.trans ((HBX.out.trans (BE6.out.mono hsx)).mono HB.out.size)).trans (B69.out.mono (by have := HB.out.size; omega))⟩
              case measure => simp [intOf]; omega
        · obtain ⟨p1, rfl⟩ : ∃ p1, p = p1 + 1 := ⟨p - 1, by omega⟩
          have hlt' : cmpL q (cur.getD p1 []) < 0 := Classical.byContradiction fun h => hstop (.inr h)
          have hcp := (HBI.out.cell (p := ⟨g, p1, none⟩) hgo).trans (HO.out.at HLEN.out (k := p1) (by omega)).2
          rw [hv_is] at hcp
          have ho1 := HO.out.inner p1 (by rw [HLEN.out]; omega)
          have r1 := RdI.of_own (own_below ho1 HBI.out (Nat.le_refl _))
          have r2 := (HR.out.below HBI.out).more HBI.out.size
          have l1 := HQ.out _ (List.mem_of_mem_take (HPM.out.mem_iff.1 (getD_mem (qs := cur) (k := p1) (by rw [HLEN.out]; omega))))
          have hFB := sformBefore_any A' (hs p1).1 c' (hs p1).2 q (cur.getD p1 []) wr.drew r2 r1 (by omega) (by omega)
          rw [decide_eq_true hlt'] at hFB
          have HFB := Lib.hid hFB
          have HNI : Hid (∀ b, p1 ≤ b → b < k → cmpL q (cur.getD b []) < 0) := Lib.hid (fun b h1 h2 => by
            by_cases e : b = p1
            · subst e; exact hlt'
            · exact HIV.out b (by omega) h2)
          have hd0 : decide ((0 : Int) < ((p1 + 1 : Nat) : Int)) = true := decide_eq_true (by omega)
          have hd1 : decide ((0 : Int) < (p1 : Int) + 1) = true := decide_eq_true (by omega)
          clear hFB r1 r2 ho1 hlt' hstop l1
          generalize (cur.getD p1 []).length = lp at *
          generalize (hs p1).1 = Ap at *; generalize (hs p1).2 = cp at *
          have hp1k : (p1 : Int) < (k : Int) := by omega
          have hwr : IntKind.i64.wrap (p1 : Int) = p1 := IntWalk.i64_in _ (by omega)
          go_wp2_with (fail)
          go_still_tail 12, (by kernel_rfl)
          change wpList _ _ _ _ _ wr.drew
          go_wp2_with (fail)
          refine HFB.out.mono ?_
          rintro e wf ⟨rfl, bf'⟩
          have bf := undrew bf'
          clear bf'
          all_goals go_wp2_with (fail)
          all_goals go_roundw
          case rel => exact ⟨p1, by omega, by go_num, HNI.out, HBI.out.trans (bf.mono HBI.out.size)⟩
          case measure => simp [intOf]
    · have hkl : k = qs.length := by omega
      subst hkl
      have HE : Hid (cur = srtL qs) := Lib.hid (srt_same (by have h := HPM.out; rwa [List.take_of_length_le (Nat.le_refl _)] at h) HSO.out)
      have HL : Hid ((srtL qs).length = qs.length) := Lib.hid (srtL_len qs)
      clear hb
      go_wp2
      go_ret
      exact ⟨hs, some ⟨g, 0, none⟩, c2, (by rw [HL.out]; rfl), (by rw [HL.out, ← HE.out]; exact HO.out), HB.out⟩

set_option maxHeartbeats 2000000 in
theorem sSortedSeq_any (A : Option Addr) (n c : Nat) (qs : List (List Int)) (w : World) (h : RdQ w w.heap.size A n qs) (hn : n ≤ 1048576) (hnc : n ≤ c) :
    Calls Tryd.prog 24 #[.agg #[.slice A n c]] w (GivesSeq w (srtQ qs)) := by
  have hl := h.len
  subst hl
  obtain ⟨w2, hw2⟩ : ∃ w2, w2 = (w.alloc (.cells #[Value.slice A qs.length c] 34)).alloc (.cells #[.slice none 0 0] 34) := ⟨_, rfl⟩
  obtain ⟨hb, ca, _, hsz⟩ := two_boxes w (.slice A qs.length c) (.slice none 0 0) 34
  obtain ⟨_, hh2⟩ := two_heap w (.cells #[Value.slice A qs.length c] 34) (.cells #[.slice none 0 0] 34)
  have ha : ((w.alloc (.cells #[Value.slice A qs.length c] 34)).alloc (.cells #[.slice none 0 0] 34)).cell? ⟨w.heap.size, 0, none⟩ = some (.slice A qs.length c) := ca
  rw [← hw2] at hb hsz hh2 ca
  have hszl : w.heap.size + 1 < w2.heap.size := by omega
  have hV := sValidSeq_any A qs.length c qs w2 ((h.below hb).more hb.size) hn hnc
  clear hsz
  have HBA := Lib.hid hb; have HH := Lib.hid hh2
  clear hh2
  cases hv : validQ qs with
  | false =>
    have HN := Lib.hid (srtQ_no hv)
    rw [hv] at hV
    have HV := Lib.hid hV
    clear hV h hb
    go_enter Tryd.func24, Tryd.ntmps24
    go_wp2_with (fail)
    rw [← hw2]
    clear hw2 ha
    refine HV.out.mono ?_
    rintro e w3 ⟨rfl, hb2⟩
    obtain ⟨hcx, hfx, h5, o5, b5⟩ := seq_out (V := []) (A := none) (c := 0) HBA.out (b := w.heap.size + 1) (by omega) hszl HH.out (OwnQ.nil w3 w2.heap.size w3.heap.size (fun _ => (none, 0))) hb2
    have H5 := Lib.hid h5; have O5 := Lib.hid o5; have B5 := Lib.hid b5
    clear hb2 h5 o5 b5
    go_wp2
    (try simp only [Exit.inBlock, Exit.then])
    refine bodyPost_ret (results_cell_row rfl _ _ (w.heap.size + 1) _ _ (0, 0) _ rfl H5.out Tryd.underlying34 rfl (by kernel_rfl)) rfl ?_
    exact ⟨_, none, 0, by rw [HN.out], by rw [HN.out]; exact O5.out, B5.out⟩
  | true =>
    rw [hv] at hV
    have HV := Lib.hid hV
    have HN := Lib.hid (srtQ_yes hv)
    have h10 := validQ_len hv
    have hq : ∀ q ∈ qs, q.length ≤ 1000 := fun q hq' => by have := valid_len (validQ_mem hv hq'); omega
    have hp : ∀ q ∈ qs, 0 < q.length := fun q hq' => (valid_len (validQ_mem hv hq')).1
    clear hV hv
    go_enter Tryd.func24, Tryd.ntmps24
    go_wp2_with (fail)
    rw [← hw2]
    clear hw2 ha
    refine HV.out.mono ?_
    rintro e w3 ⟨rfl, bel3⟩
    have ca3 := (bel3.cell (p := ⟨w.heap.size, 0, none⟩) (by show w.heap.size < _; omega)).trans ca
    have s3 := bel3.size
    have b03 := hb.trans (bel3.mono hb.size)
    have HC := Lib.hid (sSortForms_any A qs.length c qs w3 ((h.below b03).more b03.size) (by omega) hq hp)
    have hlt3 : w.heap.size + 1 < w3.heap.size := Nat.lt_of_lt_of_le hszl s3
    have hh3 := (bel3.block (w.heap.size + 1) hszl).trans HH.out
    have HL : Hid ((srtL qs).length = qs.length) := Lib.hid (srtL_len qs)
    clear bel3 ca HV hq hp
    go_wp2_with (fail)
    refine HC.out.mono ?_
    rintro e w6 ⟨hs, A6, c6, rfl, own6, bel6⟩
    obtain ⟨hcx, hfx, h5, o5, b5⟩ := seq_out (V := srtL qs) (A := A6) (c := c6) b03 (b := w.heap.size + 1) (by omega) hlt3 hh3 own6 bel6
    have H5 := Lib.hid h5; have O5 := Lib.hid o5; have B5 := Lib.hid b5
    clear own6 bel6 h5 o5 b5 HC hh3
    go_wp2
    (try simp only [Exit.inBlock, Exit.then])
    refine bodyPost_ret (results_cell_row rfl _ _ (w.heap.size + 1) _ _ (0, 0) _ rfl H5.out Tryd.underlying34 rfl (by kernel_rfl)) rfl ?_
    exact ⟨_, A6, c6, by rw [HN.out], by rw [HN.out]; exact O5.out, B5.out⟩
end Go.Proofs.YtdgejhlpncnenaaDoor
