/- The draw of a text, walked. -/
import Derived.Test.YtjekibknembcgaaDoorReadD
namespace Go.Proofs.YtjekibknembcgaaDoor
open Go.RowKit

theorem info_u8 : (Tryd.prog.info? 5).map (fun i => (i.zero, i.size, i.bytes)) = some (some (.int .u8 0), 1, 1) := by kernel_rfl

set_option maxRecDepth 100000 in
set_option maxHeartbeats 4000000 in
theorem drawFormText_any (g n c : Nat) (A : Option Addr) (code : List Int) (w : World) (h : Src w g A n c code) :
    Calls Tryd.prog 59 #[.pointer (some ⟨g, 0, none⟩)] w (TextDrawn w g A n c code) := by
  obtain ⟨i0, hi0, hz0, hz1, hz2⟩ := info_parts info_u8
  have HI := Lib.hid hi0; have HZ0 := Lib.hid hz0; have HZ1 := Lib.hid hz1; have HZ2 := Lib.hid hz2
  clear hi0 hz0 hz1 hz2
  go_enter Tryd.func59, Tryd.ntmps59
  go_wp2_with (fail)
  refine (pick_any g n c A code 16 w h (by omega) (by omega)).mono ?_
  rintro e w1 ⟨r1, p1, p2, rfl, S1, G1⟩
  have HG1 := Lib.hid G1
  clear G1
  go_wp2_with (fail)
  refine (pick_any g n c A code 10 w1 S1 (by omega) (by omega)).mono ?_
  rintro e w2 ⟨r2, q1, q2, rfl, S2, G2⟩
  obtain ⟨k2, rfl⟩ : ∃ q : Nat, r2 = q := ⟨r2.toNat, by omega⟩
  have HG2 := Lib.hid (grownBy_trans HG1.out G2)
  have hD := drawFormV_any g n c A code r1 (1 + k2) w2 S2 (by omega) (by omega)
  rw [show ((1 + k2 : Nat) : Int) = 1 + (k2 : Int) by omega] at hD
  have HD := Lib.hid hD
  clear G2 hD HG1 S1
  go_wp2_with (fail)
  refine HD.out.mono ?_
  rintro e w3 ⟨L, A3, c3, rfl, l1, l2, hwf, o3, S3, G3⟩
  have hv := wf_valid hwf l1 (by omega)
  have hpos := textL_pos hv
  have hmax := textL_len L
  have HG3 := Lib.hid (grownBy_trans HG2.out G3)
  have HT := Lib.hid (sFormText_any A3 L.length c3 L w3 (RdI.of_own o3))
  have hsz := mkB_size (textL L)
  obtain ⟨B, hB⟩ : ∃ B, mkB (textL L) = B := ⟨_, rfl⟩
  rw [hB] at HT hsz
  have hB1 : 1 ≤ B.size := by omega
  have hB2 : B.size ≤ 71 := by omega
  have hg3 := S3.lt
  have HS3 := Lib.hid S3
  clear hB hsz hpos hmax hv hwf o3 G3 S3 HD HG2 S2 l2
  go_wp2_with (fail)
  refine HT.out.mono ?_
  rintro e w4 ⟨rfl, bel4⟩
  have S4 := HS3.out.below bel4 hg3
  have HG4 := Lib.hid (grown_below HG3.out bel4)
  obtain ⟨cap, w5, hcv, R5, g5⟩ := raw_of w4 B
  have S5 := S4.grown g5 (by simp)
  have HG5 := Lib.hid (grownBy_trans HG4.out (grownBy_weak g5))
  have hb5 : g < w4.heap.size := S4.lt
  have hwb : w.heap.size ≤ w4.heap.size := HG4.out.size
  have hb0 : w4.heap.size ≠ g := by omega
  obtain ⟨b, hb⟩ : ∃ b, w4.heap.size = b := ⟨_, rfl⟩
  rw [hb] at hcv R5 hb5 hb0 hwb
  have HR5 := Lib.hid R5; have HS5 := Lib.hid S5
  clear R5 S5 g5 S4 HG4 bel4 HT HG3 HS3 hb
  go_wp2_with (fail)
  refine (pick_any g n c A code 6 w5 HS5.out (by omega) (by omega)).mono ?_
  rintro e w6 ⟨r6, p6, q6, rfl, S6, G6⟩
  have HR6 := Lib.hid (HR5.out.grown G6 (by intro e; injection e with e; omega))
  have HG6 := Lib.hid (grownBy_trans HG5.out G6)
  have HS6 := Lib.hid S6
  clear S6 G6 HR5 HG5 HS5
  have hle := HR6.out.le
  by_cases e0 : r6 = 0
  · subst e0
    go_wp2_with (fail)
    refine (pick_any g n c A code (B.size : Int) w6 HS6.out (by omega) (by omega)).mono ?_
    rintro e w7 ⟨r7, p7, q7, rfl, S7, G7⟩
    obtain ⟨k7, rfl⟩ : ∃ q : Nat, r7 = q := ⟨r7.toNat, by omega⟩
    have HR7 := Lib.hid (HR6.out.grown G7 (by intro e; injection e with e; omega))
    have HG7 := Lib.hid (grownBy_trans HG6.out G7)
    have HS7 := Lib.hid S7
    clear S7 G7
    go_wp2_with (fail)
    refine (pick_any g n c A code 18 w7 HS7.out (by omega) (by omega)).mono ?_
    rintro e w8 ⟨r8, p8, q8, rfl, S8, G8⟩
    have R8 := HR7.out.grown G8 (by intro e; injection e with e; omega)
    obtain ⟨z, z0, z1, hz⟩ := idx_chars r8 p8 q8
    obtain ⟨zc, hc⟩ := R8.cell (j := k7) (by omega)
    have hf := R8.free (j := k7) (by omega)
    obtain ⟨R9, G9⟩ := R8.set_ (q := k7) z
    obtain ⟨s, hs1, hs2⟩ := R9.str (c := cap)
    have HS9 := Lib.hid (S8.grown G9 (by intro r hr; injection hr with hr; omega))
    have HG9 := Lib.hid (grown_own (grownBy_trans HG7.out G8) G9 (by intro q hq; injection hq with hq; omega))
    clear R8 R9 G9 S8 G8
    go_wp2
    go_ret
    exact ⟨s, by omega, rfl, HS9.out, HG9.out⟩
  · have n0 : (r6 == 0) = false := by simpa using e0
    by_cases e1 : r6 = 1
    · subst e1
      go_wp2_with (fail)
      refine (pick_any g n c A code ((B.size : Int) + 1) w6 HS6.out (by omega) (by omega)).mono ?_
      rintro e w7 ⟨r7, p7, q7, rfl, S7, G7⟩
      obtain ⟨k7, rfl⟩ : ∃ q : Nat, r7 = q := ⟨r7.toNat, by omega⟩
      have R7 := HR6.out.grown G7 (by intro e; injection e with e; omega)
      have HG7 := Lib.hid (grownBy_trans HG6.out G7)
      have HS7 := Lib.hid S7
      obtain ⟨s, hs1, hs2⟩ := (R7.shorter (m := k7) (by omega)).str (c := cap)
      clear S7 G7 R7
      go_wp2
      go_ret
      exact ⟨s, by omega, rfl, HS7.out, HG7.out⟩
    · have n1 : (r6 == 1) = false := by simpa using e1
      by_cases e2 : r6 = 2
      · subst e2
        go_wp2_with (fail)
        refine (pick_any g n c A code 18 w6 HS6.out (by omega) (by omega)).mono ?_
        rintro e w7 ⟨r7, p7, q7, rfl, S7, G7⟩
        have R7 := HR6.out.grown G7 (by intro e; injection e with e; omega)
        have HG7 := Lib.hid (grownBy_trans HG6.out G7)
        have HS7 := Lib.hid S7
        have HR7 := Lib.hid R7
        obtain ⟨z, z0, z1, hz⟩ := idx_chars r7 p7 q7
        have R8 := HR7.out.grown (grown_alloc w7 (.cells #[.int .u8 z] 5) none) (by simp)
        have HS8 := Lib.hid (HS7.out.grown (grown_alloc w7 (.cells #[.int .u8 z] 5) none) (by simp))
        have HG8 := Lib.hid (grown_own HG7.out (grown_alloc w7 (.cells #[.int .u8 z] 5) none) (by simp))
        obtain ⟨T, hT, hTc⟩ := listed (w := w7.alloc (.cells #[.int .u8 z] 5)) (b := b) B.size (fun j hj => R8.cell (by omega))
        have HR8 := Lib.hid R8
        have HTC := Lib.hid hTc
        have HTL : Hid ((T.map (Value.int .u8)).length = B.size * 1) := Lib.hid (by simp [hT])
        clear S7 G7 R7 R8 hTc
        have HOLD : Hid (∀ j u, (T.map (Value.int .u8))[j]? = some u → (w7.alloc (.cells #[.int .u8 z] 5)).cell? ⟨b, 0 + j, none⟩ = some u) := Lib.hid (by
          intro j u hj
          obtain ⟨x, hx, rfl⟩ : ∃ x, T[j]? = some x ∧ Value.int .u8 x = u := by simpa using hj
          have hjl : j < B.size := by rw [← hT]; exact (List.getElem?_eq_some_iff.1 hx).1
          rw [Nat.zero_add, HTC.out j hjl]
          simp [List.getD, hx])
        have HBY : Hid (∀ u ∈ T.map (Value.int .u8) ++ [.int .u8 z], ∃ y : Int, u = .int .u8 y) := Lib.hid (by
          intro u hu
          rcases List.mem_append.1 hu with hu | hu
          · obtain ⟨x, _, rfl⟩ := List.mem_map.1 hu; exact ⟨x, rfl⟩
          · obtain rfl := List.mem_singleton.1 hu; exact ⟨z, rfl⟩)
        have HSP : Hid (B.size + 1 ≤ cap → ∀ j, j < [Value.int .u8 z].length → ((w7.alloc (.cells #[.int .u8 z] 5)).cell? ⟨b, 0 + B.size * 1 + j, none⟩).isSome = true ∧ (w7.alloc (.cells #[.int .u8 z] 5)).frozen? ⟨b, 0 + B.size * 1 + j, none⟩ = false) := Lib.hid (by
          intro hc j hj
          have e : 0 + B.size * 1 + j = B.size := by simp at hj; omega
          rw [e]
          obtain ⟨y, hy⟩ := HR8.out.cell (j := B.size) (by omega)
          exact ⟨by rw [hy]; rfl, HR8.out.free (by omega)⟩)
        generalize T.map (Value.int .u8) = U at *
        clear hT HTC
        go_wp2_with (at_builtin; refine wpList_append_arg _ rfl (.tmp 39) (.tmp 43) 22 rfl 5 i0 (.int .u8 0) 1 1 Tryd.underlying22 HI.out HZ0.out HZ1.out HZ2.out rfl (by decide) b 0 B.size cap U rfl HTL.out HOLD.out ⟨w7.heap.size, 0, none⟩ 1 1 [.int .u8 z] rfl rfl ?c1 ?c2 HSP.out ?c3 ?c4 ?room ?grow)
        case c1 =>
          intro j u hj
          match j, hj with
          | 0, hj => simp at hj; subst hj; exact cell_new1 w7 #[.int .u8 z] 5 0
          | j + 1, hj => simp at hj
        case c2 => intro u hu; obtain rfl := List.mem_singleton.1 hu; rfl
        case c3 => unfold maxLen; omega
        case c4 => omega
        case room =>
          intro hroom
          simp only [World.setCells]
          obtain ⟨R9, G9⟩ := HR8.out.set_ (q := B.size) z
          obtain ⟨s, hs1, hs2⟩ := (R9.shorter (m := B.size + 1) hroom).str (c := cap)
          have HS9 := Lib.hid (HS8.out.grown G9 (by intro r hr; injection hr with hr; omega))
          have HG9 := Lib.hid (grown_own HG8.out G9 (by intro q hq; injection hq with hq; omega))
          clear R9 G9
          go_wp2
          go_ret
          exact ⟨s, by omega, rfl, HS9.out, HG9.out⟩
        case grow =>
          intro hfull v' w' hown hgrow
          obtain ⟨A2, c2, rfl⟩ := own_shape hown
          obtain ⟨b2, cap2, hv2, _, _⟩ := hown.form (by omega)
          have hA2 : A2 = some ⟨b2, 0, none⟩ := by injection hv2
          subst hA2
          obtain ⟨s, hs1, hs2⟩ := str_of (w := w') (b := b2) (n := B.size + 1) (c := c2) (fun j hj => by
            have hc := hown.cellAt (g := b2) j (by omega)
            have hl : j < (U ++ [Value.int .u8 z]).length := by rw [hown.1]; omega
            rw [List.getElem?_eq_getElem hl] at hc
            obtain ⟨y, hy⟩ := HBY.out _ (List.getElem_mem hl)
            exact ⟨y, by rw [hc, hy]⟩)
          have HS9 := Lib.hid (HS8.out.grown hgrow (by simp))
          have HG9 := Lib.hid (grown_own HG8.out hgrow (by simp))
          clear hown hgrow hv2
          go_wp2
          go_ret
          exact ⟨s, by omega, rfl, HS9.out, HG9.out⟩
      · have n2 : (r6 == 2) = false := by simpa using e2
        obtain ⟨s, hs1, hs2⟩ := HR6.out.str (c := cap)
        go_wp2
        go_ret
        exact ⟨s, by omega, rfl, HS6.out, HG6.out⟩

set_option maxHeartbeats 400000 in
theorem drawRead_any (A : Option Addr) (n c : Nat) (code : List Int) (w : World) (h : RdB w w.heap.size A n code) (hn : n ≤ 4096) :
    Calls Tryd.prog 22 #[.slice A n c] w fun e w' => ∃ s : ByteArray, s.size ≤ 100 ∧ e = .returned (.string s) ∧ Below w.heap.size w w' := by
  go_enter Tryd.func22, Tryd.ntmps22
  go_wp2_with (fail)
  refine (fromCode_any A n c code w h hn).mono ?_
  rintro e w1 ⟨rfl, S1, B1⟩
  have HB1 := Lib.hid B1
  clear B1
  go_wp2_with (fail)
  refine (drawFormText_any _ n c A code w1 S1).mono ?_
  rintro e w2 ⟨s, hs, rfl, S2, G2⟩
  have HB2 := Lib.hid (HB1.out.grown G2 HB1.out.size (fun q hq => by injection hq with hq; omega))
  clear S2 G2 S1
  go_wp2
  go_ret
  exact ⟨s, hs, rfl, HB2.out⟩
end Go.Proofs.YtjekibknembcgaaDoor
