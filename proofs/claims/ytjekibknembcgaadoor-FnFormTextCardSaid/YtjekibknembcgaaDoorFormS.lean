/- The parser of the model: a formula; ParseForm. -/
import Derived.Test.YtjekibknembcgaaDoorParsS
namespace Go.Proofs.YtjekibknembcgaaDoor
open Go.RowKit

theorem own_but {w w' : World} {B pb base n size : Nat} {e : TypeId} {v : Value} {xs : List Value} (h : w.ownsRow base e size v n xs) (hb : But B pb w w') (hB : w.heap.size ≤ B) (hp : pb < base) : w'.ownsRow base e size v n xs := by
  obtain ⟨h1, h2⟩ := h
  refine ⟨h1, ?_⟩
  rcases h2 with h2 | ⟨g, cap, cur, hv, hg, hh, r⟩
  · exact .inl h2
  · refine .inr ⟨g, cap, cur, hv, hg, ?_, r⟩
    have hlt : g < w.heap.size := by
      rcases Nat.lt_or_ge g w.heap.size with hlt | hge
      · exact hlt
      · rw [Array.getElem?_eq_none hge] at hh; cases hh
    rw [hb.block g (by omega) (by omega)]; exact hh

set_option maxHeartbeats 1000000 in
theorem sdualS_any (A : Option Addr) (c : Nat) (f : List Int) (w : World) (h : RdI w w.heap.size A f.length f) (hs : ∀ x ∈ f, symB x) (hlen : f.length ≤ 1000) :
    Calls Tryd.prog 85 #[.slice A f.length c] w (Gives w (f.map duZ)) := by
  obtain ⟨i0, hi0, hz0, hz1, hz2⟩ := info_parts info_i64
  have HA : Hid (∀ k, k < f.length → symB (f.getD k 0)) := Lib.hid fun k hk => hs _ (by simp [List.getD, hk])
  go_enter Tryd.func85, Tryd.ntmps85
  go_wp2
  have h0 : (w.alloc (.cells #[] 2)).ownsRow w.heap.size 2 1 (.slice (some ⟨w.heap.size, 0, none⟩) 0 0) 0 (pre (f.map duZ) 0) := by rw [pre_zero]; exact World.ownsRow_made w #[] 0 (Nat.le_refl _) (by simp [maxLen]) rfl
  have hb0 : Below w.heap.size w (w.alloc (.cells #[] 2)) := (Below.refl _ _).alloc (Nat.le_refl _) _
  have H0 := Lib.hid h0; have HB0 := Lib.hid hb0
  clear h0 hb0 hs
  go_loopw [3, 4] (fun v i wr => ∃ k : Nat, k ≤ f.length ∧ i = .int .i64 k ∧ wr.ownsRow w.heap.size 2 1 v k (pre (f.map duZ) k) ∧ Below w.heap.size w wr)
    (fun _ i _ => f.length - (intOf i).toNat)
  case atStart => exact ⟨0, Nat.zero_le _, rfl, H0.out, HB0.out⟩
  case round =>
    obtain ⟨k, hk, rfl, hown, hb⟩ := hrel
    by_cases hlt : k < f.length
    · obtain ⟨b, off, rfl, hbb, hcells⟩ := h.2 (by omega)
      have hc := (hb.cell (p := ⟨b, off + k, none⟩) hbb).trans (hcells k hlt)
      have hcase := HA.out k hlt
      have hstep : pre (f.map duZ) k ++ [.int .i64 (duZ (f.getD k 0))] = pre (f.map duZ) (k + 1) := pre_step (by simpa using hlt) (map_at f duZ k hlt)
      generalize f.getD k 0 = x at hc hcase hstep
      have HS := Lib.hid hstep
      have HCA := Lib.hid hcase
      have hsz := hb.size
      clear hstep hcells hcase
      go_wp2_with (first | (go_at_call 110; refine (dualSymbol_any x _ HCA.out).mono ?_; rintro e w' ⟨rfl, rfl⟩) | (at_builtin; refine wpList_append_own _ rfl _ _ 24 rfl w.heap.size 2 i0 (.int .i64 0) 1 8 Tryd.underlying24 hi0 hz0 hz1 hz2 rfl (by decide) _ _ _ rfl (hown.alloc _) ⟨wr.heap.size, 0, none⟩ 1 1 [.int .i64 (duZ x)] rfl rfl ?c1 ?c2 ?c3 ?c4 ?c5 ?_))
      case c1 => exact cell_one_new _ _ _
      case c2 => intro u hu; simp at hu; subst hu; rfl
      case c3 => unfold maxLen; omega
      case c4 => omega
      case c5 => simp; omega
      intro v' w1 hown' hgrow _
      have hb1 := Lib.hid ((hb.alloc hsz (.cells #[.int .i64 (duZ x)] 2)).grown hgrow (by simp; omega) (fun q hq => (hown.lt q hq).1))
      rw [HS.out] at hown'
      have hown1 := Lib.hid hown'
      clear hown' hgrow hown hb HA
      go_wp2
      go_roundw
      case rel => exact ⟨k + 1, by omega, by go_num, hown1.out, hb1.out⟩
      case measure => simp [intOf]; omega
    · have hkl : k = f.length := by omega
      subst hkl
      obtain ⟨A', cap, rfl⟩ := own_shape hown
      have hown2 : wr.ownsRow w.heap.size 2 1 (.slice A' (f.map duZ).length cap) (f.map duZ).length ((f.map duZ).map (Value.int .i64)) := by
        have e : pre (f.map duZ) f.length = (f.map duZ).map (Value.int .i64) := pre_all (by simp)
        have e2 : (f.map duZ).length = f.length := by simp
        rw [e] at hown; rw [e2]; exact hown
      have HS := Lib.hid hown2; have HB := Lib.hid hb
      have HL : Hid ((f.map duZ).length = f.length) := Lib.hid (by simp)
      clear hown hown2 hb HA
      go_wp2
      go_ret
      exact ⟨_, _, by rw [HL.out]; rfl, HS.out, HB.out⟩

/-- What the reading of a formula leaves in the model. -/
def FormSaid (s : ByteArray) (pb : Nat) (w : World) (res : PR) (e : Ending) (w' : World) : Prop :=
  But w.heap.size pb w w' ∧ match res with
    | .ok f r => ∃ A c, e = .returned (.slice A f.length c) ∧ w'.ownsRow w.heap.size 2 1 (.slice A f.length c) f.length (f.map (Value.int .i64)) ∧ QS s pb w' (pos s r) (-1)
    | .no r => ∃ A c, e = .returned (.slice A 0 c) ∧ ∃ p, QS s pb w' p ((pos s r : Nat) : Int)
theorem FormSaid.mkno {s : ByteArray} {pb p : Nat} {w w' : World} {res : PR} {r : List Int} {A : Option Addr} {c : Nat} (h : res = .no r) (hb : But w.heap.size pb w w') (hq : QS s pb w' p ((pos s r : Nat) : Int)) : FormSaid s pb w res (.returned (.slice A 0 c)) w' := by
  subst h; exact ⟨hb, A, c, rfl, p, hq⟩
theorem FormSaid.mkok {s : ByteArray} {pb : Nat} {w w' : World} {res : PR} {f r : List Int} {A : Option Addr} {c : Nat} (h : res = .ok f r) (hb : But w.heap.size pb w w') (ho : w'.ownsRow w.heap.size 2 1 (.slice A f.length c) f.length (f.map (Value.int .i64)))
    (hq : QS s pb w' (pos s r) (-1)) : FormSaid s pb w res (.returned (.slice A f.length c)) w' := by
  subst h; exact ⟨hb, A, c, rfl, ho, hq⟩
def FormSOk (s : ByteArray) (pb n : Nat) : Prop := ∀ (xs : List Int) (w : World), xs <:+ bl s → QS s pb w (pos s xs) (-1) → xs.length < n →
  Calls Tryd.prog 74 #[.pointer (some ⟨pb, 0, none⟩)] w (FormSaid s pb w (pz n xs))

set_option maxHeartbeats 1000000 in
theorem forms_end (s : ByteArray) (pb : Nat) (xs : List Int) (w : World) (hx : xs <:+ bl s) (h : QS s pb w (pos s xs) (-1)) (he : skS xs = []) :
    Calls Tryd.prog 74 #[.pointer (some ⟨pb, 0, none⟩)] w (FormSaid s pb w (.no [])) := by
  have hP := peek_end s pb xs (-1) w hx h he
  have HZ := Lib.hid (pos_nil s)
  clear h hx he
  go_enter Tryd.func74, Tryd.ntmps74
  go_wp2_with (fail)
  refine hP.mono ?_
  rintro e w1 ⟨rfl, hqs, hbut⟩
  have c1 := hqs.c1
  have f1 := hqs.f1
  have hbig := hqs.big
  obtain ⟨hmv, hbm⟩ := hqs.next hbut (Nat.le_refl _)
  have HN := Lib.hid hbm
  have HFL := Lib.hid (fail_first s pb (s.size + 1) (s.size : Int) _ hmv)
  clear hqs hbut hP hmv hbm
  go_wp2_with (fail)
  refine HFL.out.mono ?_
  rintro e w2 ⟨rfl, hq2, hb2⟩
  have HQ2 := Lib.hid hq2; have HB2 := Lib.hid (HN.out.on hb2)
  clear hq2 hb2
  go_wp2
  go_ret
  exact FormSaid.mkno rfl HB2.out (by rw [HZ.out]; exact HQ2.out)

/-- Behind the first byte: what the walks share. -/
theorem forms_first {s : ByteArray} {pb : Nat} {xs r : List Int} {c : Int} {w : World} (hx : xs <:+ bl s) (h : QS s pb w (pos s xs) (-1)) (he : skS xs = c :: r) :
    ∃ p : Nat, pos s (c :: r) = p ∧ p < s.size ∧ pos s r = p + 1 ∧ r <:+ bl s ∧ r.length < xs.length ∧ (0 ≤ c ∧ c ≤ 255) ∧
      Calls Tryd.prog 104 #[.pointer (some ⟨pb, 0, none⟩)] w fun e w' => e = .returned (.int .u8 c) ∧ QS s pb w' p (-1) ∧ But w.heap.size pb w w' := by
  have hsuf : (c :: r) <:+ bl s := (he ▸ skS_suf xs : (c :: r) <:+ xs).trans hx
  obtain ⟨hcb, hr2, hs2⟩ := head_byte hx he
  exact ⟨_, rfl, (pos_cons hsuf).2, pos_succ hsuf, (List.suffix_cons c r).trans hsuf, hr2, hcb, peek_c s pb xs c r (-1) w hx h he⟩

set_option maxHeartbeats 2000000 in
theorem forms_other (s : ByteArray) (pb : Nat) (xs r : List Int) (c : Int) (w : World) (hx : xs <:+ bl s) (h : QS s pb w (pos s xs) (-1)) (he : skS xs = c :: r) (ha : ¬ (65 ≤ c ∧ c ≤ 72)) (h1 : c ≠ 49) (h2 : c ≠ 95) (h3 : c ≠ 33) (h4 : c ≠ 63) (h5 : c ≠ 126) (h6 : c ≠ 40) :
    Calls Tryd.prog 74 #[.pointer (some ⟨pb, 0, none⟩)] w (FormSaid s pb w (.no (c :: r))) := by
  obtain ⟨p, hp, hplt, hps, hsr, hrl, hcb, hP⟩ := forms_first hx h he
  have HZ := Lib.hid hp
  have e1 : (c == 49) = false := by simpa using h1
  have e2 : (c == 95) = false := by simpa using h2
  have e3 : (c == 33) = false := by simpa using h3
  have e4 : (c == 63) = false := by simpa using h4
  have e5 : (c == 126) = false := by simpa using h5
  have e6 : (c != 40) = true := by simpa using h6
  clear h hx he hp h1 h2 h3 h4 h5 h6 hps hsr hrl
  by_cases h65 : 65 ≤ c
  · have d1 : decide (65 ≤ c) = true := decide_eq_true h65
    have d2 : decide (c < 73) = false := decide_eq_false (by omega)
    clear ha h65
    go_enter Tryd.func74, Tryd.ntmps74
    go_wp2_with (fail)
    refine hP.mono ?_
    rintro e w1 ⟨rfl, hqs, hbut⟩
    have c1 := hqs.c1
    have f1 := hqs.f1
    have hbig := hqs.big
    obtain ⟨hmv, hbm⟩ := hqs.next hbut (by omega)
    have HN := Lib.hid hbm
    clear hqs hbut hP hbm
    have HFL := Lib.hid (fail_first s pb (p + 1) (p : Int) _ hmv)
    clear hmv
    go_wp2_with (fail)
    refine HFL.out.mono ?_
    rintro e w2 ⟨rfl, hq2, hb2⟩
    have HQ2 := Lib.hid hq2; have HB2 := Lib.hid (HN.out.on hb2)
    clear hq2 hb2
    go_wp2
    go_ret
    exact FormSaid.mkno rfl HB2.out (by rw [HZ.out]; exact HQ2.out)
  · have d1 : decide (65 ≤ c) = false := decide_eq_false h65
    clear ha h65
    go_enter Tryd.func74, Tryd.ntmps74
    go_wp2_with (fail)
    refine hP.mono ?_
    rintro e w1 ⟨rfl, hqs, hbut⟩
    have c1 := hqs.c1
    have f1 := hqs.f1
    have hbig := hqs.big
    obtain ⟨hmv, hbm⟩ := hqs.next hbut (by omega)
    have HN := Lib.hid hbm
    clear hqs hbut hP hbm
    have HFL := Lib.hid (fail_first s pb (p + 1) (p : Int) _ hmv)
    clear hmv
    go_wp2_with (fail)
    refine HFL.out.mono ?_
    rintro e w2 ⟨rfl, hq2, hb2⟩
    have HQ2 := Lib.hid hq2; have HB2 := Lib.hid (HN.out.on hb2)
    clear hq2 hb2
    go_wp2
    go_ret
    exact FormSaid.mkno rfl HB2.out (by rw [HZ.out]; exact HQ2.out)

theorem one_lit {s : ByteArray} {pb p q : Nat} {w wm : World} {r : List Int} {z y : Int} (hz : pos s r = p + 1) (hb : But w.heap.size pb w wm) (hm : QS s pb wm (p + 1) (-1)) (hq : q = wm.heap.size) (hzy : z = y) :
    FormSaid s pb w (.ok [y] r) (.returned (.slice (some ⟨q, 0, none⟩) 1 1)) (wm.alloc (.cells #[.int .i64 z] 2)) := by
  subst hq hzy
  have hbel : Below wm.heap.size wm (wm.alloc (.cells #[.int .i64 z] 2)) := (Below.refl _ _).alloc (Nat.le_refl _) _
  exact FormSaid.mkok rfl (hb.on (But.of_below hbel)) (World.ownsRow_lit (base := w.heap.size) (e := 2) (size := 1) wm #[.int .i64 z] 1 hb.size (by simp [maxLen]) rfl) (by rw [hz]; exact hm.below hbel)

set_option maxHeartbeats 2000000 in
theorem forms_atom (s : ByteArray) (pb : Nat) (xs r : List Int) (c : Int) (w : World) (hx : xs <:+ bl s) (h : QS s pb w (pos s xs) (-1)) (he : skS xs = c :: r) (ha : 65 ≤ c ∧ c ≤ 72) :
    Calls Tryd.prog 74 #[.pointer (some ⟨pb, 0, none⟩)] w (FormSaid s pb w (.ok [c - 64] r)) := by
  obtain ⟨p, hp, hplt, hps, hsr, hrl, hcb, hP⟩ := forms_first hx h he
  have HZ := Lib.hid hps
  have d1 : decide (65 ≤ c) = true := decide_eq_true ha.1
  have d2 : decide (c < 73) = true := decide_eq_true (by omega)
  have hc1 : 65 ≤ c := ha.1
  have hc2 : c ≤ 72 := ha.2
  clear h hx he hp hps hsr hrl ha hcb
  go_enter Tryd.func74, Tryd.ntmps74
  go_wp2_with (fail)
  refine hP.mono ?_
  rintro e w1 ⟨rfl, hqs, hbut⟩
  have c1 := hqs.c1
  have f1 := hqs.f1
  have hbig := hqs.big
  obtain ⟨hmv, hbm⟩ := hqs.next hbut (by omega)
  have HN := Lib.hid hbm
  clear hqs hbut hP hbm
  have HM := Lib.hid hmv
  clear hmv
  go_wp2
  go_ret
  exact one_lit HZ.out HN.out HM.out (by simp [World.setCell]) (by omega)

set_option maxHeartbeats 2000000 in
theorem forms_unit (s : ByteArray) (pb : Nat) (xs r : List Int) (c : Int) (w : World) (hx : xs <:+ bl s) (h : QS s pb w (pos s xs) (-1)) (he : skS xs = c :: r) (hc : c = 49 ∨ c = 95) :
    Calls Tryd.prog 74 #[.pointer (some ⟨pb, 0, none⟩)] w (FormSaid s pb w (.ok [syZ c] r)) := by
  obtain ⟨p, hp, hplt, hps, hsr, hrl, hcb, hP⟩ := forms_first hx h he
  have HZ := Lib.hid hps
  clear h hx he hp hps hsr hrl hcb
  rcases hc with rfl | rfl
  all_goals
    go_enter Tryd.func74, Tryd.ntmps74
    go_wp2_with (fail)
    refine hP.mono ?_
    rintro e w1 ⟨rfl, hqs, hbut⟩
    have c1 := hqs.c1
    have f1 := hqs.f1
    have hbig := hqs.big
    obtain ⟨hmv, hbm⟩ := hqs.next hbut (by omega)
    have HN := Lib.hid hbm
    clear hqs hbut hP hbm
    have HM := Lib.hid hmv
    clear hmv
    go_wp2
    go_ret
    exact one_lit HZ.out HN.out HM.out (by simp [World.setCell]) (by decide)

theorem exponential_any (b : Bool) (w : World) : Calls Tryd.prog 105 #[.bool b] w fun e w' => e = .returned (.int .i64 (if b then 17 else 18)) ∧ w = w' := by
  cases b
  all_goals
    go_enter Tryd.func105, Tryd.ntmps105
    go_wp2
    go_ret
    exact ⟨rfl, rfl⟩

/-- A failing part: the model takes the dual of nothing. -/
theorem dual_none {s : ByteArray} {pb p : Nat} {w w2 : World} {A : Option Addr} {c : Nat} {bad : Int} (hb : But w.heap.size pb w w2) (hq : QS s pb w2 p bad) :
    Calls Tryd.prog 85 #[.slice A 0 c] w2 fun e w' => ∃ A' c', e = .returned (.slice A' 0 c') ∧ But w.heap.size pb w w' ∧ QS s pb w' p bad := by
  refine (sdualS_any A c [] w2 (RdI.nil _ _ _) (by simp) (by simp)).mono ?_
  rintro e w' ⟨A', c', rfl, _, hbel⟩
  exact ⟨A', c', rfl, hb.on (But.of_below hbel), hq.below hbel⟩

set_option maxHeartbeats 4000000 in
theorem forms_not (s : ByteArray) (pb n : Nat) (xs r : List Int) (w : World) (hs : s.size ≤ 200) (ih : FormSOk s pb n) (hx : xs <:+ bl s) (h : QS s pb w (pos s xs) (-1)) (he : skS xs = 126 :: r) (hn : xs.length < n + 1) :
    Calls Tryd.prog 74 #[.pointer (some ⟨pb, 0, none⟩)] w (FormSaid s pb w (match pz n r with
          | .ok f r' => .ok (f.map duZ) r'
          | .no r' => .no r')) := by
  obtain ⟨p, hp, hplt, hps, hsr, hrl, hcb, hP⟩ := forms_first hx h he
  have HZ := Lib.hid hps
  have HIH := Lib.hid ih
  have HSR := Lib.hid hsr
  have hsz := pz_suf n r
  have hrs := hsr.length_le
  rw [bl_len] at hrs
  generalize hR : pz n r = R at hsz ⊢
  have HR := Lib.hid hR
  clear h hx he hp hps hsr hcb ih hR
  go_enter Tryd.func74, Tryd.ntmps74
  go_wp2_with (fail)
  refine hP.mono ?_
  rintro e w1 ⟨rfl, hqs, hbut⟩
  have c1 := hqs.c1
  have f1 := hqs.f1
  have hbig := hqs.big
  obtain ⟨hmv, hbm⟩ := hqs.next hbut (by omega)
  have HN := Lib.hid hbm
  clear hqs hbut hP hbm
  have hih := HIH.out r _ HSR.out (by rw [HZ.out]; exact hmv) (by omega)
  rw [HR.out] at hih
  clear hmv
  go_wp2_with (fail)
  refine hih.mono ?_
  rcases hsz with ⟨f, r', rfl, hf1, hf2, hf3, hf4⟩ | ⟨r', rfl, hr⟩
  · rintro e w2 ⟨hb2, A2, c2, rfl, o2, hq2⟩
    have HB2 := Lib.hid (HN.out.on hb2)
    have HQ2 := Lib.hid hq2
    have hd := Lib.hid (sdualS_any A2 c2 f w2 (RdI.of_own o2) hf4 (by omega))
    have HL : Hid ((f.map duZ).length = f.length) := Lib.hid (by simp)
    clear hb2 o2 hq2 hih
    go_wp2_with (fail)
    refine hd.out.mono ?_
    rintro e w3 ⟨A3, c3, rfl, o3, bel3⟩
    have HO3 := Lib.hid (own_more o3 HB2.out.size)
    have HB3 := Lib.hid (HB2.out.on (But.of_below bel3))
    have HQ3 := Lib.hid (HQ2.out.below bel3)
    clear o3 bel3
    have hfin := FormSaid.mkok (res := .ok (f.map duZ) r') rfl HB3.out HO3.out HQ3.out
    rw [HL.out] at hfin
    have HFIN := Lib.hid hfin
    clear hfin
    go_wp2
    go_ret
    exact HFIN.out
  · rintro e w2 ⟨hb2, A2, c2, rfl, p2, hq2⟩
    have hd := Lib.hid (dual_none (A := A2) (c := c2) (HN.out.on hb2) hq2)
    clear hb2 hq2 hih
    go_wp2_with (fail)
    refine hd.out.mono ?_
    rintro e w3 ⟨A3, c3, rfl, hb3, hq3⟩
    have HB3 := Lib.hid hb3; have HQ3 := Lib.hid hq3
    clear hb3 hq3
    go_wp2
    go_ret
    exact FormSaid.mkno rfl HB3.out HQ3.out

/-- What the append behind an exponential leaves. -/
theorem exp_news {s : ByteArray} {pb p : Nat} {w w2 w3 : World} {op : Int} {f r' : List Int} {v3 : Value} (HB2 : Hid (But w.heap.size pb w w2)) (HQ2 : Hid (QS s pb w2 p (-1))) (hp : pos s r' = p)
    (hown : w3.ownsRow w2.heap.size 2 1 v3 (1 + f.length) ([.int .i64 op] ++ f.map (Value.int .i64))) (hgrow : (w2.alloc (.cells #[.int .i64 op] 2)).grownBy w3 (Value.slice (some ⟨w2.heap.size, 0, none⟩) 1 1).ownBlock) :
    ∃ A c, v3 = .slice A (1 + f.length) c ∧ Hid (FormSaid s pb w (.ok (op :: f) r') (.returned (.slice A (1 + f.length) c)) w3) := by
  obtain ⟨A, c, rfl⟩ := own_shape hown
  have hl : (op :: f).length = 1 + f.length := by simp; omega
  have hm : [.int .i64 op] ++ f.map (Value.int .i64) = (op :: f).map (Value.int .i64) := by simp
  have hbel : Below w2.heap.size w2 w3 := ((Below.refl _ _).alloc (Nat.le_refl _) _).grown hgrow (by simp) (fun k hk => by simp [Value.ownBlock] at hk; omega)
  rw [hm, ← hl] at hown
  have := FormSaid.mkok (res := .ok (op :: f) r') rfl (HB2.out.on (But.of_below hbel)) (own_more hown HB2.out.size) (by rw [hp]; exact HQ2.out.below hbel)
  rw [hl] at this
  exact ⟨A, c, rfl, this⟩

set_option maxRecDepth 100000 in
set_option maxHeartbeats 4000000 in
theorem forms_exp33 (s : ByteArray) (pb n : Nat) (xs r : List Int) (w : World) (hs : s.size ≤ 200) (ih : FormSOk s pb n) (hx : xs <:+ bl s) (h : QS s pb w (pos s xs) (-1)) (he : skS xs = 33 :: r) (hn : xs.length < n + 1) :
    Calls Tryd.prog 74 #[.pointer (some ⟨pb, 0, none⟩)] w (FormSaid s pb w (match pz n r with
          | .ok f r' => .ok (17 :: f) r'
          | .no r' => .no r')) := by
  obtain ⟨i0, hi0, hz0, hz1, hz2⟩ := info_parts info_i64
  have HI := Lib.hid hi0; have HZ0 := Lib.hid hz0; have HZ1 := Lib.hid hz1; have HZ2 := Lib.hid hz2
  obtain ⟨p, hp, hplt, hps, hsr, hrl, hcb, hP⟩ := forms_first hx h he
  have HZ := Lib.hid hps
  have HIH := Lib.hid ih
  have HSR := Lib.hid hsr
  have hsz := pz_suf n r
  have hrs := hsr.length_le
  rw [bl_len] at hrs
  generalize hR : pz n r = R at hsz ⊢
  have HR := Lib.hid hR
  clear h hx he hp hps hsr hcb ih hR hi0 hz0 hz1 hz2
  go_enter Tryd.func74, Tryd.ntmps74
  go_wp2_with (fail)
  refine hP.mono ?_
  rintro e w1 ⟨rfl, hqs, hbut⟩
  have c1 := hqs.c1
  have f1 := hqs.f1
  have hbig := hqs.big
  obtain ⟨hmv, hbm⟩ := hqs.next hbut (by omega)
  have HN := Lib.hid hbm
  clear hqs hbut hP hbm
  have hih := HIH.out r _ HSR.out (by rw [HZ.out]; exact hmv) (by omega)
  rw [HR.out] at hih
  clear hmv
  go_wp2_with (fail)
  refine hih.mono ?_
  rcases hsz with ⟨f, r', rfl, hf1, hf2, hf3, hf4⟩ | ⟨r', rfl, hr⟩
  · rintro e w2 ⟨hb2, A2, c2, rfl, o2, hq2⟩
    have q2 := hq2.c2
    have HB2 := Lib.hid (HN.out.on hb2)
    obtain ⟨p2, hp2⟩ : ∃ p2, pos s r' = p2 := ⟨_, rfl⟩
    rw [hp2] at hq2
    have HQ2 := Lib.hid hq2
    have HP2 := Lib.hid hp2
    obtain ⟨b1, off1, rfl, hb1, hc1⟩ := (RdI.of_own o2).2 (by omega)
    have H0 := World.ownsRow_lit (base := w2.heap.size) (e := 2) (size := 1) w2 #[.int .i64 17] 1 (Nat.le_refl _) (by simp [maxLen]) rfl
    have hb0 : Below w2.heap.size w2 (w2.alloc (.cells #[.int .i64 17] 2)) := (Below.refl _ _).alloc (Nat.le_refl _) _
    have HN1 : Hid (∀ j u, (f.map (Value.int .i64))[j]? = some u → (w2.alloc (.cells #[.int .i64 17] 2)).cell? ((⟨b1, off1, none⟩ : Addr).add j) = some u) := Lib.hid (part_news (fun j hj => (hb0.cell (p := ⟨b1, off1 + j, none⟩) hb1).trans (hc1 j hj)))
    have HB0 := Lib.hid hb0.size
    have HL1 : Hid ((f.map (Value.int .i64)).length = f.length * 1) := Lib.hid (by simp)
    have HHO := Lib.hid (ints_one f)
    have HM1 : Hid (1 + f.length ≤ maxLen) := Lib.hid (by unfold maxLen; omega)
    have HS1 : Hid ((1 + f.length) * 8 ≤ 140737488355328) := Lib.hid (by omega)
    have HH0 := Lib.hid H0
    clear hb2 o2 hq2 hih hf4 hb0 hc1 H0 hp2
    go_wp2_with (first | (go_at_call 105; refine (exponential_any _ _).mono ?_; rintro e w' ⟨rfl, rfl⟩) | (at_builtin; refine wpList_append_own _ rfl (.tmp 69) (.tmp 70) 24 rfl w2.heap.size 2 i0 (.int .i64 0) 1 8 Tryd.underlying24 HI.out HZ0.out HZ1.out HZ2.out rfl (by decide) _ _ _ rfl HH0.out ⟨b1, off1, none⟩ f.length c2 (f.map (Value.int .i64)) rfl HL1.out HN1.out HHO.out HM1.out HS1.out HB0.out ?_; intro v3 w3 hown3 hgrow3 _; obtain ⟨A3, c3, rfl, HF⟩ := exp_news HB2 HQ2 HP2.out hown3 hgrow3; clear hown3 hgrow3))
    go_ret
    exact HF.out
  · rintro e w2 ⟨hb2, A2, c2, rfl, p2, hq2⟩
    have q2 := hq2.c2
    have hd := Lib.hid (dual_none (A := A2) (c := c2) (HN.out.on hb2) hq2)
    clear hb2 hq2 hih
    go_wp2_with (fail)
    refine hd.out.mono ?_
    rintro e w3 ⟨A3, c3, rfl, hb3, hq3⟩
    have HB3 := Lib.hid hb3; have HQ3 := Lib.hid hq3
    clear hb3 hq3
    go_wp2
    go_ret
    exact FormSaid.mkno rfl HB3.out HQ3.out

set_option maxRecDepth 100000 in
set_option maxHeartbeats 4000000 in
theorem forms_exp63 (s : ByteArray) (pb n : Nat) (xs r : List Int) (w : World) (hs : s.size ≤ 200) (ih : FormSOk s pb n) (hx : xs <:+ bl s) (h : QS s pb w (pos s xs) (-1)) (he : skS xs = 63 :: r) (hn : xs.length < n + 1) :
    Calls Tryd.prog 74 #[.pointer (some ⟨pb, 0, none⟩)] w (FormSaid s pb w (match pz n r with
          | .ok f r' => .ok (18 :: f) r'
          | .no r' => .no r')) := by
  obtain ⟨i0, hi0, hz0, hz1, hz2⟩ := info_parts info_i64
  have HI := Lib.hid hi0; have HZ0 := Lib.hid hz0; have HZ1 := Lib.hid hz1; have HZ2 := Lib.hid hz2
  obtain ⟨p, hp, hplt, hps, hsr, hrl, hcb, hP⟩ := forms_first hx h he
  have HZ := Lib.hid hps
  have HIH := Lib.hid ih
  have HSR := Lib.hid hsr
  have hsz := pz_suf n r
  have hrs := hsr.length_le
  rw [bl_len] at hrs
  generalize hR : pz n r = R at hsz ⊢
  have HR := Lib.hid hR
  clear h hx he hp hps hsr hcb ih hR hi0 hz0 hz1 hz2
  go_enter Tryd.func74, Tryd.ntmps74
  go_wp2_with (fail)
  refine hP.mono ?_
  rintro e w1 ⟨rfl, hqs, hbut⟩
  have c1 := hqs.c1
  have f1 := hqs.f1
  have hbig := hqs.big
  obtain ⟨hmv, hbm⟩ := hqs.next hbut (by omega)
  have HN := Lib.hid hbm
  clear hqs hbut hP hbm
  have hih := HIH.out r _ HSR.out (by rw [HZ.out]; exact hmv) (by omega)
  rw [HR.out] at hih
  clear hmv
  go_wp2_with (fail)
  refine hih.mono ?_
  rcases hsz with ⟨f, r', rfl, hf1, hf2, hf3, hf4⟩ | ⟨r', rfl, hr⟩
  · rintro e w2 ⟨hb2, A2, c2, rfl, o2, hq2⟩
    have q2 := hq2.c2
    have HB2 := Lib.hid (HN.out.on hb2)
    obtain ⟨p2, hp2⟩ : ∃ p2, pos s r' = p2 := ⟨_, rfl⟩
    rw [hp2] at hq2
    have HQ2 := Lib.hid hq2
    have HP2 := Lib.hid hp2
    obtain ⟨b1, off1, rfl, hb1, hc1⟩ := (RdI.of_own o2).2 (by omega)
    have H0 := World.ownsRow_lit (base := w2.heap.size) (e := 2) (size := 1) w2 #[.int .i64 18] 1 (Nat.le_refl _) (by simp [maxLen]) rfl
    have hb0 : Below w2.heap.size w2 (w2.alloc (.cells #[.int .i64 18] 2)) := (Below.refl _ _).alloc (Nat.le_refl _) _
    have HN1 : Hid (∀ j u, (f.map (Value.int .i64))[j]? = some u → (w2.alloc (.cells #[.int .i64 18] 2)).cell? ((⟨b1, off1, none⟩ : Addr).add j) = some u) := Lib.hid (part_news (fun j hj => (hb0.cell (p := ⟨b1, off1 + j, none⟩) hb1).trans (hc1 j hj)))
    have HB0 := Lib.hid hb0.size
    have HL1 : Hid ((f.map (Value.int .i64)).length = f.length * 1) := Lib.hid (by simp)
    have HHO := Lib.hid (ints_one f)
    have HM1 : Hid (1 + f.length ≤ maxLen) := Lib.hid (by unfold maxLen; omega)
    have HS1 : Hid ((1 + f.length) * 8 ≤ 140737488355328) := Lib.hid (by omega)
    have HH0 := Lib.hid H0
    clear hb2 o2 hq2 hih hf4 hb0 hc1 H0 hp2
    go_wp2_with (first | (go_at_call 105; refine (exponential_any _ _).mono ?_; rintro e w' ⟨rfl, rfl⟩) | (at_builtin; refine wpList_append_own _ rfl (.tmp 69) (.tmp 70) 24 rfl w2.heap.size 2 i0 (.int .i64 0) 1 8 Tryd.underlying24 HI.out HZ0.out HZ1.out HZ2.out rfl (by decide) _ _ _ rfl HH0.out ⟨b1, off1, none⟩ f.length c2 (f.map (Value.int .i64)) rfl HL1.out HN1.out HHO.out HM1.out HS1.out HB0.out ?_; intro v3 w3 hown3 hgrow3 _; obtain ⟨A3, c3, rfl, HF⟩ := exp_news HB2 HQ2 HP2.out hown3 hgrow3; clear hown3 hgrow3))
    go_ret
    exact HF.out
  · rintro e w2 ⟨hb2, A2, c2, rfl, p2, hq2⟩
    have q2 := hq2.c2
    have hd := Lib.hid (dual_none (A := A2) (c := c2) (HN.out.on hb2) hq2)
    clear hb2 hq2 hih
    go_wp2_with (fail)
    refine hd.out.mono ?_
    rintro e w3 ⟨A3, c3, rfl, hb3, hq3⟩
    have HB3 := Lib.hid hb3; have HQ3 := Lib.hid hq3
    clear hb3 hq3
    go_wp2
    go_ret
    exact FormSaid.mkno rfl HB3.out HQ3.out

end Go.Proofs.YtjekibknembcgaaDoor
