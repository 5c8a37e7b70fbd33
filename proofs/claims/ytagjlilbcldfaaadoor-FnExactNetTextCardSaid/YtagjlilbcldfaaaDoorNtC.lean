/- NetText of the model. -/
import Derived.Test.YtagjlilbcldfaaaDoorNtA
import Derived.Test.YtagjlilbcldfaaaDoorNetY
namespace Go.Proofs.YtagjlilbcldfaaaDoor
set_option linter.unusedSimpArgs false
set_option linter.unusedVariables false
open Go.ChangeAt Go.ChangeShapes Go.RowKit Go.WideShapes

theorem cat_run (X Y : ByteArray) (h : X.size + Y.size ≤ 100000) : ∀ w : World, (Op.stringOp .add X Y).run Tryd.prog w = .ok (.string (X ++ Y)) w := fun w => run_string_add_sum _ _ _ (by omega)
/-- A list of bytes as a text. -/
def byB (L : List UInt8) : ByteArray := ⟨L.toArray⟩
theorem byB_size (L : List UInt8) : (byB L).size = L.length := by simp [byB, ByteArray.size]
theorem byB_three (L : List UInt8) (X Y : ByteArray) : ((byB L ++ X) ++ Y) ++ ⟨#[10]⟩ = byB (L ++ ((X.data.toList ++ Y.data.toList) ++ [10])) := ba_ext (by simp [byB])
theorem byB_two (L : List UInt8) (Y : ByteArray) : (byB L ++ Y) ++ ⟨#[10]⟩ = byB (L ++ (Y.data.toList ++ [10])) := ba_ext (by simp [byB])
theorem byB_spN (L : List UInt8) (T : ByteArray) (x : Int) : ((byB L ++ T) ++ ⟨#[32]⟩) ++ decN x = byB L ++ spN T x := by
  apply ba_ext
  simp [byB, spN]
set_option maxRecDepth 100000 in
set_option maxHeartbeats 8000000 in
theorem sNetText_any (h : NH) (N : Nt) (w : World) (r : RdN w w.heap.size h N) (hn : N.w.length ≤ 1048576) (hl : N.l.length ≤ 1048576) (hc : N.c.length ≤ 1048576) :
    Calls Tryd.prog 15 #[.agg #[.slice h.A N.w.length h.c, .slice h.L N.l.length h.d, .slice h.C N.c.length h.e]] w fun e w' => e = .returned (.string (ntT N)) ∧ Below w.heap.size w w' := by
  obtain ⟨w0, hw0⟩ : ∃ w0, w0 = w.alloc (.cells #[.slice h.A N.w.length h.c, .slice h.L N.l.length h.d, .slice h.C N.c.length h.e] 41) := ⟨_, rfl⟩
  obtain ⟨hb, hh, hsz⟩ := box3_any w (.slice h.A N.w.length h.c) (.slice h.L N.l.length h.d) (.slice h.C N.c.length h.e) 41
  rw [← hw0] at hb hh hsz
  have hs0 : w.heap.size + 1 ≤ w0.heap.size := by omega
  have HK : Hid (∀ w', Below w0.heap.size w0 w' → w'.cell? ⟨w.heap.size, 0, none⟩ = some (.slice h.A N.w.length h.c) ∧ w'.cell? ⟨w.heap.size, 1, none⟩ = some (.slice h.L N.l.length h.d) ∧ w'.cell? ⟨w.heap.size, 2, none⟩ = some (.slice h.C N.c.length h.e)) := Lib.hid fun w' hw => three_cells ((hw.block _ (by omega)).trans hh)
  have HV := Lib.hid (sValidNet_any h N w0 ((r.below hb).more hb.size) hn hl hc)
  have HR := Lib.hid (fun (w' : World) (hw : Below w0.heap.size w0 w') => ((r.below (hb.trans (hw.mono hb.size))).more (Nat.le_trans hb.size hw.size)))
  have HB0 := Lib.hid hb
  obtain ⟨y0, y1, y2⟩ := three_cells hh
  clear hb hh hsz r
  cases hv : valN N with
  | false =>
    have HE : Hid ((⟨#[]⟩ : ByteArray) = ntT N) := Lib.hid (ntT_no hv).symm
    rw [hv] at HV
    clear hv
    go_enter Tryd.func15, Tryd.ntmps15
    go_wp2_with (fail)
    rw [← hw0]
    clear hw0
    refine HV.out.mono ?_
    rintro e w1 ⟨rfl, bel⟩
    have HB1 := Lib.hid (HB0.out.trans (bel.mono HB0.out.size))
    clear bel y0 y1 y2
    go_wp2
    go_ret
    exact ⟨ret_str HE.out, HB1.out⟩
  | true =>
    have HE : Hid (byB (ntL N) = ntT N) := Lib.hid (ntT_yes hv).symm
    obtain ⟨hs1, hs2⟩ := valN_size hv
    have hcl := valN_conc_le hv
    have HIM := Lib.hid (valN_inM hv)
    rw [hv] at HV
    clear hv
    go_enter Tryd.func15, Tryd.ntmps15
    go_wp2_with (fail)
    rw [← hw0]
    clear hw0
    refine HV.out.mono ?_
    rintro e w1 ⟨rfl, bel⟩
    have HB1 := Lib.hid bel
    clear bel y0 y1 y2
    go_wp2
    -- the wires
    go_loopw [3, 4] (fun s i wx => ∃ k : Nat, k ≤ N.w.length ∧ i = .int .i64 k ∧ s = .string (byB (wlsN (N.w.take k))) ∧ Below w0.heap.size w0 wx) (fun _ i _ => N.w.length - (intOf i).toNat)
    case atStart => exact ⟨0, Nat.zero_le _, rfl, by simp [wlsN, byB], HB1.out⟩
    case round =>
      obtain ⟨k, hk, rfl, rfl, hB⟩ := hrel
      clear HB1
      obtain ⟨y0, y1, y2⟩ := HK.out _ hB
      by_cases hlt : k < N.w.length
      · obtain ⟨bw, offw, hA, hbb, hcells⟩ := (HR.out wr hB).1.2 (by omega)
        obtain ⟨Aq, cq, kq, mq, rq⟩ := hcells k hlt
        have HST := Lib.hid (wlsN_take hlt)
        have hl1 := wlsN_len (N.w.take k)
        rw [List.length_take] at hl1
        have htl := textL_len (N.w.getD k [])
        have hts := mkB_size (textL (N.w.getD k []))
        have HFT := Lib.hid (sFormText_any Aq (N.w.getD k []).length cq (N.w.getD k []) wr rq)
        have h3 := byB_three (wlsN (N.w.take k)) wireB (mkB (textL (N.w.getD k [])))
        have hwl : (wireB.data.toList ++ (mkB (textL (N.w.getD k []))).data.toList) ++ [10] = wlN (N.w.getD k []) := rfl
        rw [hwl, ← HST.out] at h3
        generalize N.w.getD k [] = f at *
        have hbs := byB_size (wlsN (N.w.take k))
        generalize mkB (textL f) = FT at *
        generalize byB (wlsN (N.w.take k)) = S at *
        obtain ⟨S', hS'⟩ : ∃ s, byB (wlsN (N.w.take (k + 1))) = s := ⟨_, rfl⟩
        rw [hS'] at h3
        have HS' := Lib.hid hS'
        clear hS'
        have e5 : wireB.size = 5 := rfl
        have e1 : (⟨#[10]⟩ : ByteArray).size = 1 := rfl
        have a1 : ∀ w : World, (Op.stringOp .add S ⟨#[119, 105, 114, 101, 32]⟩).run Tryd.prog w = .ok (.string (S ++ wireB)) w := cat_run S wireB (by omega)
        have a2 := cat_run (S ++ wireB) FT (by rw [ByteArray.size_append]; omega)
        have a3 := cat_run ((S ++ wireB) ++ FT) ⟨#[10]⟩ (by rw [ByteArray.size_append, ByteArray.size_append]; omega)
        rw [h3] at a3
        generalize hU2 : (S ++ wireB) ++ FT = U2 at *
        generalize hU1 : S ++ wireB = U1 at *
        have HB := Lib.hid hB
        have HA := Lib.hid hA
        have hx : wr.cell? ⟨bw, offw + k, none⟩ = some (.slice Aq f.length cq) := kq
        clear hcells rq kq hB hl1 htl hts h3 hwl hbs hU1 hU2
        rw [hA] at y0
        clear hA
        go_wp2_with (fail)
        refine HFT.out.mono ?_
        rintro e w2 ⟨rfl, bel⟩
        have HB2 := Lib.hid (HB.out.trans (bel.mono HB.out.size))
        clear bel y0 y1 y2 hx
        go_wp2
        go_roundw
        case rel => exact ⟨k + 1, by omega, by go_num, by rw [HS'.out], HB2.out⟩
        case measure => simp [intOf]; omega
      · have hkl : k = N.w.length := by omega
        subst hkl
        rw [List.take_of_length_le (Nat.le_refl _)]
        have HS0 : Hid (byB (wlsN N.w) = byB (wlsN N.w ++ llsN (N.l.take 0))) := Lib.hid (by simp [llsN])
        have HB := Lib.hid hB
        clear hB
        go_wp2
        rename World => wr0
        -- the links
        go_loopw [3, 5] (fun s i wx => ∃ k : Nat, k ≤ N.l.length ∧ i = .int .i64 k ∧ s = .string (byB (wlsN N.w ++ llsN (N.l.take k))) ∧ Below w0.heap.size w0 wx) (fun _ i _ => N.l.length - (intOf i).toNat)
        case atStart => exact ⟨0, Nat.zero_le _, rfl, by rw [HS0.out], HB.out⟩
        case round =>
          obtain ⟨k, hk, rfl, rfl, hB⟩ := hrel
          clear HB HS0 y0 y1 y2
          obtain ⟨y0, y1, y2⟩ := HK.out _ hB
          by_cases hlt : k < N.l.length
          · obtain ⟨b, off, hA, hbb, hcells⟩ := (HR.out _ hB).2.1.at (by omega)
            obtain ⟨x0, x1, x2, x3⟩ := hcells k hlt
            have HST := Lib.hid (llsN_take hlt)
            have hl0 := wlsN_len N.w
            have hl1 := llsN_len (N.l.take k)
            rw [List.length_take] at hl1
            obtain ⟨⟨lk, la, lb, lc⟩, hl'⟩ : ∃ l, N.l.getD k Lk.nil = l := ⟨_, rfl⟩
            rw [hl'] at x0 x1 x2 x3 HST
            dsimp only at x0 x1 x2 x3
            have hts := ltT_size lk la lb lc
            have HLT := Lib.hid (fun wx : World => sLinkText_any lk la lb lc wx)
            have h3 := byB_two (wlsN N.w ++ llsN (N.l.take k)) (ltT lk la lb lc)
            have hll : (ltT lk la lb lc).data.toList ++ [10] = llN ⟨lk, la, lb, lc⟩ := rfl
            rw [hll, List.append_assoc (wlsN N.w), ← HST.out] at h3
            have hbs := byB_size (wlsN N.w ++ llsN (N.l.take k))
            rw [List.length_append] at hbs
            generalize ltT lk la lb lc = FT at *
            generalize byB (wlsN N.w ++ llsN (N.l.take k)) = S at *
            obtain ⟨S', hS'⟩ : ∃ s, byB (wlsN N.w ++ llsN (N.l.take (k + 1))) = s := ⟨_, rfl⟩
            rw [hS'] at h3
            have HS' := Lib.hid hS'
            clear hS'
            have e1 : (⟨#[10]⟩ : ByteArray).size = 1 := rfl
            have a2 := cat_run S FT (by omega)
            have a3 := cat_run (S ++ FT) ⟨#[10]⟩ (by rw [ByteArray.size_append]; omega)
            rw [h3] at a3
            generalize hU2 : S ++ FT = U2 at *
            have HB := Lib.hid hB
            clear hcells hB hl0 hl1 hts h3 hll hbs hU2 hl'
            rw [hA] at y1
            clear hA
            go_wp2_with (fail)
            refine (HLT.out _).mono ?_
            rintro e w2 ⟨rfl, bel⟩
            have HB2 := Lib.hid (HB.out.trans (bel.mono HB.out.size))
            clear bel y0 y1 y2 x0 x1 x2 x3
            go_wp2
            go_roundw
            case rel => exact ⟨k + 1, by omega, by go_num, by rw [HS'.out], HB2.out⟩
            case measure => simp [intOf]; omega
          · have hkl : k = N.l.length := by omega
            subst hkl
            rw [List.take_of_length_le (Nat.le_refl _)]
            have hl0 := wlsN_len N.w
            have hl1 := llsN_len N.l
            have hbs := byB_size (wlsN N.w ++ llsN N.l)
            rw [List.length_append] at hbs
            have HNT : Hid (ntL N = (wlsN N.w ++ llsN N.l) ++ ((N.c.foldl spN conclB).data.toList ++ [10])) := Lib.hid rfl
            have hbp := fun T x => byB_spN (wlsN N.w ++ llsN N.l) T x
            have hbt := fun T => byB_two (wlsN N.w ++ llsN N.l) T
            have HBP := Lib.hid hbp; have HBT := Lib.hid hbt
            generalize hSS : byB (wlsN N.w ++ llsN N.l) = S at *
            have e5 : conclB.size = 5 := rfl
            have a1 : ∀ w : World, (Op.stringOp .add S ⟨#[99, 111, 110, 99, 108]⟩).run Tryd.prog w = .ok (.string (S ++ conclB)) w := cat_run S conclB (by omega)
            have HS0 : Hid (S ++ conclB = S ++ (N.c.take 0).foldl spN conclB) := Lib.hid (by simp)
            have hS5 : S.size ≤ 4464 := by omega
            generalize hU1 : S ++ conclB = U1 at *
            have HB := Lib.hid hB
            clear hB hl0 hl1 hbs hbp hbt hU1
            go_wp2
            rename World => wr1
            clear a1
            go_loopw [3, 6] (fun s i wx => ∃ k : Nat, k ≤ N.c.length ∧ i = .int .i64 k ∧ s = .string (S ++ (N.c.take k).foldl spN conclB) ∧ Below w0.heap.size w0 wx) (fun _ i _ => N.c.length - (intOf i).toNat)
            case atStart => exact ⟨0, Nat.zero_le _, rfl, by rw [HS0.out], HB.out⟩
            case round =>
              obtain ⟨k, hk, rfl, rfl, hB⟩ := hrel
              clear HB HS0 y0 y1 y2
              obtain ⟨y0, y1, y2⟩ := HK.out _ hB
              have hfl := fold_len (T := conclB) (by decide) HIM.out rfl k hk
              by_cases hlt : k < N.c.length
              · obtain ⟨bc, offc, hA, hbb, hcells⟩ := (HR.out _ hB).2.2.2 (by omega)
                have hcell := hcells k hlt
                have hst := fold_step (T := conclB) hlt
                have hin := HIM.out (N.c.getD k 0) (by simp [List.getD, hlt])
                have hbp := HBP.out ((N.c.take k).foldl spN conclB) (N.c.getD k 0)
                rw [← hst] at hbp
                generalize N.c.getD k 0 = x at *
                obtain ⟨h0, h1⟩ := inM_yes hin
                have HD := Lib.hid (fun wx : World => decimalN_any x wx h0 (by omega))
                have hd := decN_len h0 (show x < 100 by omega)
                generalize (N.c.take k).foldl spN conclB = T at *
                obtain ⟨T', hT'⟩ : ∃ s, (N.c.take (k + 1)).foldl spN conclB = s := ⟨_, rfl⟩
                rw [hT'] at hbp
                have HS' := Lib.hid hT'
                clear hT' hst
                have e32 : (⟨#[32]⟩ : ByteArray).size = 1 := rfl
                have a2 := cat_run (S ++ T) ⟨#[32]⟩ (by rw [ByteArray.size_append]; omega)
                have a3 := cat_run ((S ++ T) ++ ⟨#[32]⟩) (decN x) (by rw [ByteArray.size_append, ByteArray.size_append]; omega)
                rw [hbp] at a3
                generalize hV2 : (S ++ T) ++ (⟨#[32]⟩ : ByteArray) = V2 at *
                generalize decN x = D at *
                have HB := Lib.hid hB
                clear hcells hB hin h0 h1 hd hbp hfl hV2
                rw [hA] at y2
                clear hA
                go_wp2_with (fail)
                refine (HD.out _).mono ?_
                rintro e w2 ⟨rfl, bel⟩
                have HB2 := Lib.hid (HB.out.trans (bel.mono HB.out.size))
                clear bel y0 y1 y2 hcell
                go_wp2
                go_roundw
                case rel => exact ⟨k + 1, by omega, by go_num, by rw [HS'.out], HB2.out⟩
                case measure => simp [intOf]; omega
              · have hkl : k = N.c.length := by omega
                subst hkl
                rw [List.take_of_length_le (Nat.le_refl _)] at hfl ⊢
                have hbt := HBT.out (N.c.foldl spN conclB)
                rw [← HNT.out] at hbt
                generalize N.c.foldl spN conclB = T at *
                have e1 : (⟨#[10]⟩ : ByteArray).size = 1 := rfl
                have a2 := cat_run (S ++ T) ⟨#[10]⟩ (by rw [ByteArray.size_append]; omega)
                rw [hbt, HE.out] at a2
                generalize hV2 : S ++ T = V2 at *
                have HB2 := Lib.hid (HB0.out.trans (hB.mono HB0.out.size))
                clear hB hbt hfl hV2
                go_wp2
                go_ret
                exact ⟨rfl, HB2.out⟩
end Go.Proofs.YtagjlilbcldfaaaDoor
