/- NetText of the program: its lines written through the interface, and the whole. -/
import Derived.Test.YtagjlilbcldfaaaDoorNtA
import Derived.Test.YtagjlilbcldfaaaDoorQPgG
import Derived.Deep.RegionWith
import Derived.Deep.DeepCutAuto
namespace Go.Proofs.YtagjlilbcldfaaaDoor
set_option linter.unusedSimpArgs false
set_option linter.unusedVariables false
open Go.ChangeAt Go.ChangeShapes Go.RowKit Go.WideShapes

theorem heldN_below {B b : Nat} {bs : List Value} {w w' : World} (h : Held B b bs w) (hb : Below w.heap.size w w') : Held B b bs w' := by
  have k : ∀ p, Lib.BuilderAt 94 5 B b p bs w → Lib.BuilderAt 94 5 B b p bs w' := fun p h => by
    have hlt := h.lt
    obtain ⟨hB, v, hbk, hown, hne⟩ := h
    exact ⟨hB, v, (hb.block b hlt).trans hbk, own_below hown hb (Nat.le_refl _), hne⟩
  rcases h with h | h
  · exact .inl (k _ h)
  · exact .inr (k _ h)
theorem mN_line (a : Addr) (w : World) : (method 273 95 (.pointer (some a)) "loop.example/g00872/impl.line").run Tryd.prog w = .ok (148, .pointer (some a)) w := by kernel_rfl
theorem nN_line (a : Addr) (w : World) : (nilAhead 273 95 (.pointer (some a)) "loop.example/g00872/impl.line").run Tryd.prog w = .ok (some false) w := by kernel_rfl
theorem cells_app (T : List UInt8) (s : ByteArray) : (Lib.byteCells T ++ Lib.strCells s) ++ [.int .u8 10] = Lib.byteCells (T ++ (s.data.toList ++ [10])) := by
  simp [Lib.byteCells, Lib.strCells]
theorem wl_bytes (f : List Int) : (wireB ++ mkB (textL f)).data.toList ++ [10] = wlN f := by
  unfold wlN
  simp
set_option maxRecDepth 100000 in
set_option maxHeartbeats 8000000 in
theorem nt_lines (h : NH) (N : Nt) (b bl B : Nat) (w : World) (r : RdN w B h N) (hv : valN N = true) (ht : Arit w) (hw : LWords w) (htB : 1 < B) (hwB : 0 < B)
    (hbx : w.heap[bl]? = some (.cells #[.slice h.A N.w.length h.c, .slice h.L N.l.length h.d, .slice h.C N.c.length h.e] 41 (0, 0))) (hbl : bl < B) (hfr : w.heap[b]? = some (.cells #[.pointer none, .slice none 0 0] 94 (0, 0))) (hB : B ≤ b) :
    Calls Tryd.prog 42 #[.iface 95 (.pointer (some ⟨b, 0, none⟩)), .pointer (some ⟨bl, 0, none⟩)] w fun e w' => e = .returned (.tuple #[]) ∧ Held B b (Lib.byteCells (ntL N)) w' ∧ Below B w w' := by
  obtain ⟨hs1, hs2⟩ := valN_size hv
  have hcl := valN_conc_le hv
  have hbw : b < w.heap.size := by
    rcases Nat.lt_or_ge b w.heap.size with h' | h'
    · exact h'
    · simp [Array.getElem?_eq_none h'] at hfr
  have H0 : Hid (Held B b (Lib.byteCells (wlsN (N.w.take 0))) w) := Lib.hid (.inl ⟨hB, _, hfr, ⟨by simp [wlsN, Lib.byteCells], .inl ⟨rfl, by simp [wlsN, Lib.byteCells]⟩⟩, by simp [Value.ownBlock]⟩)
  have HR := Lib.hid (fun (w' : World) (hx : Below B w w') => show RdN w' B h N from r.below hx)
  have HT := Lib.hid (fun (w' : World) (hx : Below B w w') => ht.below hx htB)
  have HW := Lib.hid (fun (w' : World) (hx : Below B w w') => hw.below hx hwB)
  have HK := Lib.hid (fun (w' : World) (hx : Below B w w') => three_cells ((hx.block bl hbl).trans hbx))
  have HIM := Lib.hid (valN_inM hv)
  have hm := mN_line ⟨b, 0, none⟩
  have hn := nN_line ⟨b, 0, none⟩
  have hBw : B ≤ w.heap.size := by omega
  clear r ht hw hfr hbx hv
  obtain ⟨y0, y1, y2⟩ := HK.out w (Below.refl _ _)
  go_enter Tryd.func42, Tryd.ntmps42
  go_wp2
  clear y0 y1 y2
  -- the wires
  go_loopw [10] (fun i wr => ∃ k : Nat, k ≤ N.w.length ∧ i = .int .i64 k ∧ Held B b (Lib.byteCells (wlsN (N.w.take k))) wr ∧ Below B w wr) (fun i _ => N.w.length - (intOf i).toNat)
  case atStart => exact ⟨0, Nat.zero_le _, rfl, H0.out, Below.refl _ _⟩
  case round =>
    obtain ⟨k, hk, rfl, hH, hBl⟩ := hrel
    have HB := Lib.hid hBl
    have hsz := hBl.size
    by_cases hlt : k < N.w.length
    · obtain ⟨bw, offw, hA, hbb, hcells⟩ := (HR.out wr hBl).1.2 (by omega)
      obtain ⟨Aq, cq, kq, mq, rq⟩ := hcells k hlt
      have HST := Lib.hid (wlsN_take hlt)
      have hl1 := wlsN_len (N.w.take k)
      rw [List.length_take] at hl1
      have hl2 : (Lib.byteCells (wlsN (N.w.take k))).length ≤ 3696 := by rw [Lib.byteCells_length]; omega
      have hwl := wl_bytes (N.w.getD k [])
      have htl := textL_len (N.w.getD k [])
      have hts := mkB_size (textL (N.w.getD k []))
      have HFT := Lib.hid (formText_impl Aq (N.w.getD k []).length cq (N.w.getD k []) wr.drew ((rq.below ((Below.refl B wr).drew)).more (by show B ≤ wr.heap.size; omega)) (HT.out _ hBl.drew) mq)
      generalize N.w.getD k [] = f at *
      have e5 : wireB.size = 5 := rfl
      have hadd : ∀ w : World, (Op.stringOp .add ⟨#[119, 105, 114, 101, 32]⟩ (mkB (textL f))).run Tryd.prog w = .ok (.string (wireB ++ mkB (textL f))) w := fun w => run_string_add_sum _ _ _ (by show wireB.size + _ ≤ _; omega)
      have hss : (wireB ++ mkB (textL f)).size ≤ 76 := by rw [ByteArray.size_append]; omega
      have HWL := Lib.hid hwl
      generalize mkB (textL f) = FT at *
      generalize hWT : wireB ++ FT = WT at *
      have H1 := Lib.hid hH
      have HA := Lib.hid hA
      have hca := cells_app (wlsN (N.w.take k)) WT
      rw [HWL.out, ← HST.out] at hca
      have HCA := Lib.hid hca
      generalize wlsN (N.w.take k) = LT at *
      clear hBl hcells rq hH hl1 hwl htl hts hA hca hWT
      obtain ⟨hAd, hcd, hhs, hL, hd, hC, he⟩ := h
      have hA := HA.out
      dsimp only at hA
      subst hA
      go_wp2_with (fail)
      go_region_with (first
        | (go_at_call 43; refine HFT.out.mono ?_; rintro e w2 ⟨rfl, hw2⟩; subst hw2)
        | (go_at_call 148; refine (line_any WT (heldN_below H1.out (Below.refl _ wr).drew) (by omega) (by show B ≤ wr.heap.size; omega)).mono ?_; rintro e w3 ⟨rfl, h3, bel3⟩; have H3 := Lib.hid h3; have HB3 := Lib.hid (HB.out.drew.trans bel3); clear h3 bel3))
      all_goals go_wp2
      all_goals
        go_roundw
        case rel => exact ⟨k + 1, by omega, by go_num, by rw [← HCA.out]; exact H3.out, HB3.out⟩
        case measure => simp [intOf]; omega
    · have hkl : k = N.w.length := by omega
      subst hkl
      rw [List.take_of_length_le (Nat.le_refl _)] at hH
      have HH0 : Hid (Held B b (Lib.byteCells (wlsN N.w ++ llsN (N.l.take 0))) wr) := Lib.hid (by simpa [llsN] using hH)
      obtain ⟨y0, y1, y2⟩ := HK.out wr HB.out
      clear hH hBl H0
      go_wp2
      clear y0 y1 y2
      -- the links
      rename World => wr0
      go_loopw [26] (fun i wx => ∃ k : Nat, k ≤ N.l.length ∧ i = .int .i64 k ∧ Held B b (Lib.byteCells (wlsN N.w ++ llsN (N.l.take k))) wx ∧ Below B w wx) (fun i _ => N.l.length - (intOf i).toNat)
      case atStart => exact ⟨0, Nat.zero_le _, rfl, HH0.out, HB.out⟩
      case round =>
        clear HH0 HB hsz
        obtain ⟨k, hk, rfl, hH, hBl⟩ := hrel
        have HB := Lib.hid hBl
        have hsz := hBl.size
        by_cases hlt : k < N.l.length
        · obtain ⟨b2, off, hA, hbb, hcells⟩ := (HR.out wr hBl).2.1.at (show 0 < N.l.length by omega)
          obtain ⟨x0, x1, x2, x3⟩ := hcells k hlt
          have HST := Lib.hid (llsN_take hlt)
          have hl0 := wlsN_len N.w
          have hl1 := llsN_len (N.l.take k)
          rw [List.length_take] at hl1
          have hl2 : (Lib.byteCells (wlsN N.w ++ llsN (N.l.take k))).length ≤ 4464 := by rw [Lib.byteCells_length, List.length_append]; omega
          have hll : ∀ l : Lk, (ltT l.k l.a l.b l.c).data.toList ++ [10] = llN l := fun l => rfl
          obtain ⟨⟨lk, la, lb, lc⟩, hl⟩ : ∃ l, N.l.getD k Lk.nil = l := ⟨_, rfl⟩
          rw [hl] at x0 x1 x2 x3 HST
          dsimp only at x0 x1 x2 x3
          obtain ⟨bl2, z0, z1, z2, z3, zs⟩ := lnk_any wr ⟨lk, la, lb, lc⟩ 25
          dsimp only at bl2 z0 z1 z2 z3
          obtain ⟨u1, hu1⟩ : ∃ u1, u1 = wr.alloc (.cells #[.int .i64 lk, .int .i64 la, .int .i64 lb, .int .i64 lc] 25) := ⟨_, rfl⟩
          have HU1 := Lib.hid hu1
          rw [← hu1] at bl2 z0 z1 z2 z3 zs
          have BL := Lib.hid (hBl.trans (bl2.mono (show B ≤ wr.heap.size by omega)))
          have H1 := Lib.hid (heldN_below hH bl2)
          have HLT := Lib.hid (linkText_impl lk la lb lc u1.drew (HW.out _ BL.out.drew))
          have hts := ltT_size lk la lb lc
          have hca := cells_app (wlsN N.w ++ llsN (N.l.take k)) (ltT lk la lb lc)
          rw [hll ⟨lk, la, lb, lc⟩, List.append_assoc (wlsN N.w), ← HST.out] at hca
          have HCA := Lib.hid hca
          have HA := Lib.hid hA
          have hsu : B ≤ u1.heap.size := by omega
          generalize ltT lk la lb lc = WT at *
          generalize wlsN N.w ++ llsN (N.l.take k) = LT at *
          clear hBl hcells hH hl1 hl0 hll hca hl bl2 hu1 hA zs
          obtain ⟨hAd, hcd, hhs, hL, hd, hC, he⟩ := h
          have hA := HA.out
          dsimp only at hA
          subst hA
          go_upto_region 8 with (fail)
          rw [← HU1.out]
          clear x0 x1 x2 x3 HU1
          go_region_with (first
            | (go_at_call 10; refine HLT.out.mono ?_; rintro e w2 ⟨rfl, bel2'⟩; have bel2 := undrew bel2'; have H2 := Lib.hid (heldN_below H1.out bel2); have hs2 := bel2.size; have HB2 := Lib.hid (BL.out.trans (bel2.mono hsu)); clear bel2 bel2')
            | (go_at_call 148; refine (line_any WT H2.out (by omega) (by omega)).mono ?_; rintro e w3 ⟨rfl, h3, bel3⟩; have H3 := Lib.hid h3; have HB3 := Lib.hid (HB2.out.trans bel3); clear h3 bel3))
          all_goals go_wp2
          all_goals
            go_roundw
            case rel => exact ⟨k + 1, by omega, by go_num, by rw [← HCA.out]; exact H3.out, HB3.out⟩
            case measure => simp [intOf]; omega
        · have hkl : k = N.l.length := by omega
          subst hkl
          rw [List.take_of_length_le (Nat.le_refl _)] at hH
          have hl0 := wlsN_len N.w
          have hl1 := llsN_len N.l
          have hl2 : (Lib.byteCells (wlsN N.w ++ llsN N.l)).length ≤ 4464 := by rw [Lib.byteCells_length, List.length_append]; omega
          have HNB := Lib.hid (numberedR_any conclB h.C N.c.length h.e N.c wr.drew (((HR.out wr hBl).2.2.below (Below.refl B wr).drew).more (by show B ≤ wr.heap.size; omega)) (by omega) (by decide) HIM.out)
          have hfl := fold_len (T := conclB) (by decide) HIM.out rfl N.c.length (Nat.le_refl _)
          rw [List.take_of_length_le (Nat.le_refl _)] at hfl
          have hcll : (N.c.foldl spN conclB).data.toList ++ [10] = clN N.c := rfl
          have hca := cells_app (wlsN N.w ++ llsN N.l) (N.c.foldl spN conclB)
          rw [hcll] at hca
          have HCA := Lib.hid hca
          have HNT : Hid ((wlsN N.w ++ llsN N.l) ++ clN N.c = ntL N) := Lib.hid rfl
          have H1 := Lib.hid hH
          generalize N.c.foldl spN conclB = WT at *
          generalize wlsN N.w ++ llsN N.l = LT at *
          obtain ⟨y0, y1, y2⟩ := HK.out wr hBl
          have y2' := y2
          clear hBl hH hl0 hl1 hcll hca
          go_wp2_with (fail)
          go_region_with (first
            | (go_at_call 28; refine HNB.out.mono ?_; rintro e w2 ⟨rfl, hw2⟩; subst hw2)
            | (go_at_call 148; refine (line_any WT (heldN_below H1.out (Below.refl _ wr).drew) (by omega) (by show B ≤ wr.heap.size; omega)).mono ?_; rintro e w3 ⟨rfl, h3, bel3⟩; have H3 := Lib.hid h3; have HB3 := Lib.hid (HB.out.drew.trans bel3); clear h3 bel3))
          all_goals go_wp2
          all_goals go_end0
          all_goals exact ⟨rfl, by rw [← HNT.out, ← HCA.out]; exact H3.out, HB3.out⟩
theorem ntL_ne (N : Nt) : ntL N ≠ [] := by
  intro e
  have := congrArg List.length e
  unfold ntL clN at this
  simp at this
set_option maxRecDepth 100000 in
set_option maxHeartbeats 4000000 in
theorem linesN_any (h : NH) (N : Nt) (bl : Nat) (w : World) (r : RdN w w.heap.size h N) (hv : valN N = true) (ht : Arit w) (hw : LWords w)
    (hbx : w.heap[bl]? = some (.cells #[.slice h.A N.w.length h.c, .slice h.L N.l.length h.d, .slice h.C N.c.length h.e] 41 (0, 0))) :
    Calls Tryd.prog 41 #[.func (.func 42) #[] #[.pointer (some ⟨bl, 0, none⟩)]] w fun e w' => e = .returned (.string ⟨(ntL N).toArray⟩) ∧ Below w.heap.size w w' := by
  have hbl : bl < w.heap.size := (Array.getElem?_eq_some_iff.1 hbx).1
  obtain ⟨w1, hw1⟩ : ∃ w1, w1 = w.alloc (.cells #[Value.pointer none, Value.slice none 0 0] 94) := ⟨_, rfl⟩
  have hb1 : Below w.heap.size w w1 := by rw [hw1]; exact (Below.refl _ _).alloc (Nat.le_refl _) _
  have p1 : w1.heap[w.heap.size]? = some (.cells #[Value.pointer none, Value.slice none 0 0] 94 (0, 0)) := by rw [hw1]; exact heap_alloc_new _ _
  have HLN := Lib.hid (nt_lines h N w.heap.size bl w.heap.size w1 (r.below hb1) hv (ht.below hb1 ht.lt) (hw.below hb1 hw.lt) ht.lt hw.lt ((hb1.block bl hbl).trans hbx) hbl p1 (Nat.le_refl _))
  have HB1 := Lib.hid hb1
  have hne := ntL_ne N
  generalize ntL N = X at *
  clear r ht hw hbx hb1 p1
  go_enter Tryd.func41, Tryd.ntmps41
  go_wp2_with (fail)
  rw [← hw1]
  clear hw1
  refine HLN.out.mono ?_
  rintro e w2 ⟨rfl, hh, bel⟩
  have HB2 := Lib.hid (HB1.out.trans bel)
  have HS := Lib.hid (string_some hh hne)
  clear hh bel HLN
  go_wp2_with (fail)
  refine HS.out.mono ?_
  rintro e w3 ⟨rfl, bel3⟩
  have HB3 := Lib.hid (HB2.out.trans bel3)
  clear bel3
  go_wp2
  go_ret
  exact ⟨rfl, HB3.out⟩
set_option maxRecDepth 100000 in
set_option maxHeartbeats 4000000 in
theorem netText_impl (h : NH) (N : Nt) (w : World) (r : RdN w w.heap.size h N) (sm : SmallN N) (ht : Arit w) (hu : Dual w) (hw : LWords w) :
    Calls Tryd.prog 17 #[.agg #[.slice h.A N.w.length h.c, .slice h.L N.l.length h.d, .slice h.C N.c.length h.e]] w fun e w' => e = .returned (.string (ntT N)) ∧ Below w.heap.size w w' := by
  obtain ⟨w0, hw0⟩ : ∃ w0, w0 = w.alloc (.cells #[.slice h.A N.w.length h.c, .slice h.L N.l.length h.d, .slice h.C N.c.length h.e] 41) := ⟨_, rfl⟩
  obtain ⟨hb, hh, hsz⟩ := box3_any w (.slice h.A N.w.length h.c) (.slice h.L N.l.length h.d) (.slice h.C N.c.length h.e) 41
  rw [← hw0] at hb hh hsz
  have HV := Lib.hid (validNet_impl h N w0 ((r.below hb).more hb.size) sm (ht.below hb ht.lt) (hu.below hb hu.lt))
  have HL := Lib.hid (fun (hv : valN N = true) (wx : World) (hx : Below w0.heap.size w0 wx) => linesN_any h N w.heap.size wx (((r.below hb).more hb.size |>.below hx).more hx.size) hv ((ht.below hb ht.lt).below hx (ht.below hb ht.lt).lt) ((hw.below hb hw.lt).below hx (hw.below hb hw.lt).lt) ((hx.block _ (by omega)).trans hh))
  have HB0 := Lib.hid hb
  obtain ⟨y0, y1, y2⟩ := three_cells hh
  clear hb hh hsz r sm ht hu hw
  cases hv : valN N with
  | false =>
    have HE : Hid ((⟨#[]⟩ : ByteArray) = ntT N) := Lib.hid (ntT_no hv).symm
    rw [hv] at HV
    clear hv
    go_enter Tryd.func17, Tryd.ntmps17
    go_wp2_with (fail)
    rw [← hw0]
    clear hw0
    refine HV.out.mono ?_
    rintro e w1 ⟨rfl, bel⟩
    have HB1 := Lib.hid (HB0.out.trans (bel.mono HB0.out.size))
    clear bel y0 y1 y2
    go_wp2
    go_ret
    exact ⟨ret_str HE.out, HB1.out⟩
  | true =>
    have HE : Hid ((⟨(ntL N).toArray⟩ : ByteArray) = ntT N) := Lib.hid (ntT_yes hv).symm
    have HL2 := Lib.hid (HL.out hv)
    rw [hv] at HV
    clear hv HL
    go_enter Tryd.func17, Tryd.ntmps17
    go_wp2_with (fail)
    rw [← hw0]
    clear hw0
    refine HV.out.mono ?_
    rintro e w1 ⟨rfl, bel⟩
    have HB1 := Lib.hid bel
    clear bel y0 y1 y2
    go_wp2_with (fail)
    refine (HL2.out w1 HB1.out).mono ?_
    rintro e w2 ⟨rfl, bel⟩
    have HB2 := Lib.hid (HB0.out.trans ((HB1.out.trans (bel.mono HB1.out.size)).mono HB0.out.size))
    clear bel
    go_wp2
    go_ret
    exact ⟨ret_str HE.out, HB2.out⟩
end Go.Proofs.YtagjlilbcldfaaaDoor
