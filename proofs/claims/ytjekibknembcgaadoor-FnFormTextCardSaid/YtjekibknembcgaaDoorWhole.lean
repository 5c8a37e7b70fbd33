/- The parser of the program: the whole text, the panic caught; ParseForm. -/
import Derived.Test.YtjekibknembcgaaDoorPair
import Derived.Tactics
import Derived.Tactics2
import Derived.Defers
import Derived.Recover
import Derived.Laws.Pointers
namespace Go.Proofs.YtjekibknembcgaaDoor
open Go.RowKit

theorem assert_mis (k : Int) (w : World) : (Instr.typeAssert (.iface 89 (.int .i64 k)) 20 89 true).run Tryd.prog w = .ok (.tuple #[.int .i64 k, .bool true]) w := by
  simp [Instr.typeAssert, run_underlying Tryd.underlying89, go_sem]
theorem info_mis : (Tryd.prog.info? 89).map (·.zero) = some (some (.int .i64 0)) := by kernel_rfl
theorem assert_nil (w : World) : (Instr.typeAssert .nilIface 20 89 true).run Tryd.prog w = .ok (.tuple #[.int .i64 0, .bool false]) w := by
  obtain ⟨j, hj, hz⟩ := Option.map_eq_some_iff.1 info_mis
  simp [Instr.typeAssert, run_underlying Tryd.underlying89, zeroValue, hj, hz, typeInfo, go_sem]

set_option maxRecDepth 100000 in
theorem catch_mis (p : Addr) (x k : Int) (older : List PanicEntry) (w : World) (hc : w.cell? p = some (.int .i64 x)) (hz : w.frozen? p = false) :
    CallsD Tryd.prog 93 #[.pointer (some p)] (.panicking ({ v := .iface 89 (.int .i64 k), recovered := false } :: older)) w fun e u' w' =>
      e = .returned (.tuple #[]) ∧ u' = .panicking ({ v := .iface 89 (.int .i64 k), recovered := true } :: older) ∧ w' = w.setCell p (.int .i64 k) := by
  refine callsD_of_wpS Tryd.func93 rfl fun c₀ cs hu => ?_
  apply wpS_seq
  apply wpS_region
  simp [wpOpsS, go_sem, recoverD, hu, Tryd.ntmps93, Exit.thenS, assert_mis]
  apply wpS_seq
  apply wpS_region
  simp [wpOpsS, go_sem, Exit.thenS]
  refine wpS_cond (t := true) (by simp [Act.eval, Array.replicate]) ?_
  simp only [if_true]
  apply wpS_region
  simp [wpOpsS, go_sem, hc, hz, bodyPostS, results, Tryd.results93]

set_option maxRecDepth 100000 in
theorem catch_idle (p : Addr) (w : World) :
    CallsD Tryd.prog 93 #[.pointer (some p)] .returning w fun e u' w' => e = .returned (.tuple #[]) ∧ u' = .returning ∧ w' = w := by
  refine callsD_of_wpS Tryd.func93 rfl fun c₀ cs hu => ?_
  apply wpS_seq
  apply wpS_region
  simp [wpOpsS, go_sem, recoverD, hu, Tryd.ntmps93, Exit.thenS, assert_nil]
  apply wpS_seq
  apply wpS_region
  simp [wpOpsS, go_sem, Exit.thenS]
  refine wpS_cond (t := false) (by simp [Act.eval, Array.replicate]) ?_
  simp only [Bool.false_eq_true, if_false]
  refine wpS_of_wp (wp_skip ?_)
  cases c₀
  simp_all [bodyPostS, results, Tryd.results93]

/-- What the reading of a whole text leaves: -1 and the symbols in the parser's field; or the index of the byte that does not fit. -/
def WholeZ (L : List Int) : Int := match pz (L.length + 1) L with
  | .no r => ((L.length - r.length : Nat) : Int)
  | .ok _ r => match skS r with
    | [] => -1
    | r' => ((L.length - r'.length : Nat) : Int)
def Wholed (s : ByteArray) (B pb : Nat) (w : World) (e : Ending) (w' : World) : Prop :=
  e = .returned (.int .i64 (WholeZ (bl s))) ∧ But B pb w w' ∧ (WholeZ (bl s) = -1 → ∃ f r A c, pz ((bl s).length + 1) (bl s) = .ok f r ∧ skS r = [] ∧ w'.cell? ⟨pb, 2, none⟩ = some (.slice A f.length c) ∧ w'.ownsRow B 2 1 (.slice A f.length c) f.length (f.map (Value.int .i64)))

theorem But.mono {B B' pb : Nat} {w w' : World} (h : But B pb w w') (hB : B' ≤ B) : But B' pb w w' := ⟨h.os, h.tape, h.output, h.size, fun k hk hn => h.block k (by omega) hn⟩
theorem wholeZ_no {L r : List Int} (h : pz (L.length + 1) L = .no r) : WholeZ L = ((L.length - r.length : Nat) : Int) := by unfold WholeZ; rw [h]
theorem wholeZ_ok {L f r : List Int} (h : pz (L.length + 1) L = .ok f r) (h' : skS r = []) : WholeZ L = -1 := by unfold WholeZ; rw [h]; simp only [h']
theorem wholeZ_more {L f r r' : List Int} {c : Int} (h : pz (L.length + 1) L = .ok f r) (h' : skS r = c :: r') : WholeZ L = ((L.length - (c :: r').length : Nat) : Int) := by unfold WholeZ; rw [h]; simp only [h']

/-- The world in which the named result has its variable. -/
theorem whole_start {s : ByteArray} {pb : Nat} {w : World} (h : PS s w.heap.size pb w (bl s) []) (hnil : w.cell? ⟨pb, 2, none⟩ = some (.slice none 0 0)) (o : Obj) : PS s (w.heap.size + 1) pb (w.alloc o) (bl s) [] ∧ But w.heap.size pb w (w.alloc o) := by
  have hb : Below w.heap.size w (w.alloc o) := (Below.refl _ _).alloc (Nat.le_refl _) o
  have hlt := h.lt
  refine ⟨⟨by omega, by simp, h.glob, h.arit.below hb (by have := h.glob.1; omega), h.dual.below hb (by have := h.glob.2; omega), h.suf, (hb.cell (p := ⟨pb, 0, none⟩) hlt).trans h.c0, (hb.cell (p := ⟨pb, 1, none⟩) hlt).trans h.c1,
    (hb.frozen (p := ⟨pb, 1, none⟩) hlt).trans h.f1, (hb.frozen (p := ⟨pb, 2, none⟩) hlt).trans h.f2, ⟨none, 0, (hb.cell (p := ⟨pb, 2, none⟩) hlt).trans hnil, World.ownsRow_nil _ _ _ _⟩, h.big⟩, But.of_below hb⟩

set_option maxRecDepth 100000 in
set_option maxHeartbeats 2000000 in
theorem whole_any (s : ByteArray) (pb : Nat) (w : World) (h : PS s w.heap.size pb w (bl s) []) (hnil : w.cell? ⟨pb, 2, none⟩ = some (.slice none 0 0)) (hs : s.size ≤ 200) :
    Calls Tryd.prog 61 #[.pointer (some ⟨pb, 0, none⟩)] w (Wholed s w.heap.size pb w) := by
  have hmf : ∀ (fn : Fn) (first cap : Array Value) (w : World), (Instr.makeFunc fn first cap).run Tryd.prog w = .ok (.func fn first cap) w := fun _ _ _ _ => rfl
  have hst := whole_start h hnil (.cells #[.int .i64 0] 2)
  have hq0 : (w.alloc (.cells #[.int .i64 0] 2)).cell? ⟨w.heap.size, 0, none⟩ = some (.int .i64 0) := by simp
  have hf0 : (w.alloc (.cells #[.int .i64 0] 2)).frozen? ⟨w.heap.size, 0, none⟩ = false := by simp [go_sem]
  have hne : w.heap.size ≠ pb := by have := h.lt; omega
  have hF := Lib.hid (formula_any s (w.heap.size + 1) pb ((bl s).length + 1) (bl s) [] _ hst.1 (by omega) (by rw [bl_len]; simp; omega))
  have HST := Lib.hid hst.2
  have HQ0 := Lib.hid hq0; have HF0 := Lib.hid hf0
  have hsz := pz_suf ((bl s).length + 1) (bl s)
  generalize hR : pz ((bl s).length + 1) (bl s) = R at hsz
  have HR := Lib.hid hR
  clear h hnil hst hq0 hf0 hR
  go_enter_defers Tryd.func61, Tryd.ntmps61
  go_wp2_with (fail)
  refine hF.out.mono ?_
  rw [HR.out]
  rcases hsz with ⟨f, r, rfl, hf1, hf2, hf3, hf4⟩ | ⟨r, rfl, hr⟩
  rotate_left
  · rintro e w2 ⟨hb2, rfl⟩
    have hq2 := (hb2.cell (p := ⟨w.heap.size, 0, none⟩) (by simp) hne).trans HQ0.out
    have hf2 := (hb2.frozen (p := ⟨w.heap.size, 0, none⟩) (by simp) hne).trans HF0.out
    have HB2 := Lib.hid (HST.out.trans (hb2.mono (Nat.le_succ _)))
    have HZ := Lib.hid (wholeZ_no HR.out)
    clear hb2
    go_wp2
    refine leaves_cons (f := 93) (args := #[.pointer (some ⟨w.heap.size, 0, none⟩)]) (by simp) (by simp [go_sem]) ?_
    refine (catch_mis ⟨w.heap.size, 0, none⟩ 0 ((s.size - r.length : Nat) : Int) [] w2 hq2 hf2).mono ?_
    rintro e u' w'' ⟨rfl, rfl, rfl⟩
    simp [Leaves, settle, results, Tryd.results61, go_sem, hq2]
    exact ⟨by rw [HZ.out, bl_len], HB2.out.setCell (.inr (Nat.le_refl _)) _, fun hz => absurd hz (by rw [HZ.out]; omega)⟩
  · rintro e w2 ⟨hb2, rfl, hps2⟩
    have HB2 := Lib.hid (HST.out.trans (hb2.mono (Nat.le_succ _)))
    have HN2 := Lib.hid hb2
    have hS := skipSpaces_any s (w.heap.size + 1) pb r _ w2 hps2
    rw [List.nil_append] at hS
    clear hb2 hps2
    go_wp2_with (fail)
    refine hS.mono ?_
    rintro e w3 ⟨rfl, hps3, hb3⟩
    have hb23 := HN2.out.trans hb3
    have hq3 := (hb23.cell (p := ⟨w.heap.size, 0, none⟩) (by simp) hne).trans HQ0.out
    have hf3 := (hb23.frozen (p := ⟨w.heap.size, 0, none⟩) (by simp) hne).trans HF0.out
    have HB3 := Lib.hid (HB2.out.trans (hb3.mono (Nat.le_succ _)))
    have c0 := hps3.c0
    have c1 := hps3.c1
    have hbig := hps3.big
    clear hb23 hb3 hS
    cases hx : skS r with
    | nil =>
      rw [hx] at hps3 c1
      simp only [List.length_nil, Nat.sub_zero] at c1
      have HP3 := Lib.hid hps3
      have HX := Lib.hid hx
      have HZ := Lib.hid (wholeZ_ok HR.out hx)
      clear hps3 hx
      go_wp2
      go_quiet (fail)
      go_wp2
      refine leaves_cons (f := 93) (args := #[.pointer (some ⟨w.heap.size, 0, none⟩)]) (by simp) (by simp [go_sem]) ?_
      refine (catch_idle ⟨w.heap.size, 0, none⟩ _).mono ?_
      rintro e u' w'' ⟨rfl, rfl, rfl⟩
      simp [Leaves, settle, results, Tryd.results61, go_sem, hq3]
      obtain ⟨A, cp, hA1, hA2⟩ := HP3.out.c2
      refine ⟨by rw [HZ.out], (HB3.out.drewN _).setCell (.inr (Nat.le_refl _)) _, fun _ => ⟨f, r, A, cp, HR.out, HX.out, ?_, own_more (ownsRow_setCell_below (w := w3.drewN _) hA2 (Nat.lt_succ_self _) _) (Nat.le_succ _)⟩⟩
      rw [World.cell?_setCell_other _ _ _ _ (fun hh => hne (by injection hh))]
      exact hA1
    | cons c r' =>
      rw [hx] at hps3 c1
      have hle := hps3.suf.length_le
      rw [bl_len, List.length_cons] at hle
      simp only [List.length_cons] at c1
      have HP3 := Lib.hid hps3
      have HZ := Lib.hid (wholeZ_more HR.out hx)
      obtain ⟨p, hp⟩ : ∃ p : Nat, s.size - (r'.length + 1) = p := ⟨_, rfl⟩
      rw [hp] at c1
      have hplt : p < s.size := by omega
      have HPP := Lib.hid hp
      clear hps3 hx hle hp
      go_wp2
      go_quiet (fail)
      go_wp2_with (go_at_call 96; refine (stop_any s (w.heap.size + 1) pb (c :: r') _ _ (HP3.out.drewN _)).mono ?_; rintro e w' ⟨rfl, rfl⟩)
      refine leaves_cons (f := 93) (args := #[.pointer (some ⟨w.heap.size, 0, none⟩)]) (by simp) (by simp [go_sem]) ?_
      refine (catch_mis ⟨w.heap.size, 0, none⟩ 0 ((s.size - (c :: r').length : Nat) : Int) [] (w3.drewN _) (by simpa using hq3) (by simpa using hf3)).mono ?_
      rintro e u' w'' ⟨rfl, rfl, rfl⟩
      simp [Leaves, settle, results, Tryd.results61, go_sem, hq3]
      exact ⟨by rw [HZ.out, bl_len]; rfl, (HB3.out.drewN _).setCell (.inr (Nat.le_refl _)) _, fun hz => absurd hz (by rw [HZ.out]; omega)⟩

theorem pfL_no {L : List Int} (hL : L.length ≤ 200) (hz : WholeZ L ≠ -1) : pfL L = [] ∧ pfZ L = WholeZ L := by
  unfold pfL pfZ WholeZ at *
  rw [if_pos hL, if_pos hL]
  rcases pz_suf (L.length + 1) L with ⟨f, r, e, _, _, hs, _⟩ | ⟨r, e, hs⟩
  · rw [e] at hz ⊢
    simp only at hz ⊢
    cases hx : skS r with
    | nil => rw [hx] at hz; exact absurd rfl hz
    | cons c r' =>
      have := ((hx ▸ skS_suf r : (c :: r') <:+ r).trans hs).length_le
      exact ⟨rfl, by simp only; omega⟩
  · rw [e]
    have := hs.length_le
    exact ⟨rfl, by simp only; omega⟩
theorem pfL_ok {L f r : List Int} (hL : L.length ≤ 200) (h : pz (L.length + 1) L = .ok f r) (hx : skS r = []) : pfL L = (if f.length ≤ 24 then f else []) ∧ pfZ L = (if f.length ≤ 24 then -1 else (L.length : Int)) := by
  unfold pfL pfZ
  rw [if_pos hL, if_pos hL, h]
  simp only [hx, and_self]
theorem pfL_big {L : List Int} (hL : ¬ L.length ≤ 200) : pfL L = [] ∧ pfZ L = 0 := by
  unfold pfL pfZ
  rw [if_neg hL, if_neg hL]; exact ⟨rfl, rfl⟩
theorem pfL_len (L : List Int) : (pfL L).length ≤ 24 := by
  by_cases hL : L.length ≤ 200
  · by_cases hz : WholeZ L = -1
    · rcases pz_suf (L.length + 1) L with ⟨f, r, e, _⟩ | ⟨r, e, hs⟩
      · cases hx : skS r with
        | nil =>
          rw [(pfL_ok hL e hx).1]
          split
          · assumption
          · simp
        | cons c r' =>
          rw [wholeZ_more e hx] at hz; omega
      · rw [wholeZ_no e] at hz; omega
    · rw [(pfL_no hL hz).1]; simp
  · rw [(pfL_big hL).1]; simp

/-- What a function leaves that hands back a list in memory of its own and a number. -/
def GivesZ (w : World) (xs : List Int) (z : Int) (e : Ending) (w' : World) : Prop :=
  ∃ A c, e = .returned (.tuple #[.slice A xs.length c, .int .i64 z]) ∧ w'.ownsRow w.heap.size 2 1 (.slice A xs.length c) xs.length (xs.map (Value.int .i64)) ∧ Below w.heap.size w w'

/-- The parser as ParseForm makes it. -/
theorem parse_start (s : ByteArray) (w : World) (hs : s.size ≤ 1048576) (ht : Arit w) (hu : Dual w) :
    PS s (w.alloc (.cells #[.string s, .int .i64 0, .slice none 0 0] 60)).heap.size w.heap.size (w.alloc (.cells #[.string s, .int .i64 0, .slice none 0 0] 60)) (bl s) [] ∧
    But (w.alloc (.cells #[.string s, .int .i64 0, .slice none 0 0] 60)).heap.size w.heap.size w (w.alloc (.cells #[.string s, .int .i64 0, .slice none 0 0] 60)) := by
  have hb : Below w.heap.size w (w.alloc (.cells #[.string s, .int .i64 0, .slice none 0 0] 60)) := (Below.refl _ _).alloc (Nat.le_refl _) _
  have h0 : s.size - (bl s).length = 0 := by rw [bl_len]; omega
  refine ⟨⟨by simp, Nat.le_refl _, ⟨ht.lt, hu.lt⟩, ht.below hb ht.lt, hu.below hb hu.lt, List.suffix_refl _, by simp, by rw [h0]; simp, by simp [go_sem], by simp [go_sem], ⟨none, 0, by simp, World.ownsRow_nil _ _ _ _⟩, hs⟩, ?_⟩
  refine ⟨hb.os, hb.tape, hb.output, hb.size, fun k hk hn => hb.block k ?_⟩
  simp at hk
  omega

set_option maxRecDepth 100000 in
set_option maxHeartbeats 2000000 in
theorem parseForm_impl (s : ByteArray) (w : World) (hs : s.size ≤ 1048576) (ht : Arit w) (hu : Dual w) :
    Calls Tryd.prog 24 #[.string s] w (GivesZ w (pfL (bl s)) (pfZ (bl s))) := by
  by_cases h200 : s.size ≤ 200
  · have hd : decide (200 < (s.size : Int)) = false := decide_eq_false (by omega)
    obtain ⟨hps, hbu⟩ := parse_start s w (by omega) ht hu
    have HPS := Lib.hid hps; have HBU := Lib.hid hbu
    clear hps hbu ht hu
    go_enter Tryd.func24, Tryd.ntmps24
    go_wp2_with (fail)
    refine (whole_any s w.heap.size _ (by simpa using (HPS.out)) (by simp) h200).mono ?_
    have hmem : But (w.alloc (.cells #[.string s, .int .i64 0, .slice none 0 0] 60)).heap.size w.heap.size w (w.alloc (.cells #[.string s, .int .i64 0, .slice none 0 0] 60)) := HBU.out
    have HM := Lib.hid hmem
    clear hmem
    by_cases hz : WholeZ (bl s) = -1
    · rintro e w2 ⟨rfl, hb2, hrest⟩
      obtain ⟨f, r, A, c, hf, hr, hc2, hown⟩ := hrest hz
      obtain ⟨e1, e2⟩ := pfL_ok (L := bl s) (by rw [bl_len]; exact h200) hf hr
      rw [bl_len] at e2
      have HE1 := Lib.hid e1; have HE2 := Lib.hid e2
      have HB := Lib.hid ((HM.out.trans hb2).below (by simp))
      have hcap := (own_cap hown).1
      have HO := Lib.hid (own_more (base := w.heap.size) hown (by simp))
      rw [hz]
      have hfl : f.length ≤ 1000 := by
        rcases pz_suf ((bl s).length + 1) (bl s) with ⟨f', r', e', _, hl, _⟩ | ⟨r', e', _⟩
        · rw [hf] at e'; cases e'; rw [bl_len] at hl; omega
        · rw [hf] at e'; cases e'
      clear hb2 hrest hf hr e1 e2 hown hz HPS HBU
      by_cases h24 : f.length ≤ 24
      · have hd2 : decide (24 < (f.length : Int)) = false := decide_eq_false (by omega)
        have HL : Hid (pfL (bl s) = f) := Lib.hid (by rw [HE1.out, if_pos h24])
        have HZ : Hid (pfZ (bl s) = -1) := Lib.hid (by rw [HE2.out, if_pos h24])
        clear HE1 HE2
        go_wp2
        go_ret2
        refine ⟨A, c, ?_, by rw [HL.out]; exact HO.out, HB.out⟩
        rw [HL.out, HZ.out]; rfl
      · have hd2 : decide (24 < (f.length : Int)) = true := decide_eq_true (by omega)
        have HL : Hid (pfL (bl s) = []) := Lib.hid (by rw [HE1.out, if_neg h24])
        have HZ : Hid (pfZ (bl s) = (s.size : Int)) := Lib.hid (by rw [HE2.out, if_neg h24])
        clear HE1 HE2
        go_wp2
        go_ret2
        refine ⟨none, 0, ?_, by rw [HL.out]; exact World.ownsRow_nil _ _ _ _, HB.out⟩
        rw [HL.out, HZ.out]; rfl
    · rintro e w2 ⟨rfl, hb2, _⟩
      obtain ⟨e1, e2⟩ := pfL_no (L := bl s) (by rw [bl_len]; exact h200) hz
      have HL := Lib.hid e1; have HZ := Lib.hid e2
      have hz0 : 0 ≤ WholeZ (bl s) := by
        rcases pz_suf ((bl s).length + 1) (bl s) with ⟨f, r, e, _⟩ | ⟨r, e, _⟩
        · cases hx : skS r with
          | nil => exact absurd (wholeZ_ok e hx) hz
          | cons c r' => rw [wholeZ_more e hx]; omega
        · rw [wholeZ_no e]; omega
      have HB := Lib.hid ((HM.out.trans hb2).below (by simp))
      generalize WholeZ (bl s) = z at hz0 HZ ⊢
      have hd2 : decide (0 ≤ z) = true := decide_eq_true hz0
      clear hb2 e1 e2 HPS HBU hz0 hz
      go_wp2
      go_ret2
      refine ⟨none, 0, ?_, by rw [HL.out]; exact World.ownsRow_nil _ _ _ _, HB.out⟩
      rw [HL.out, HZ.out]; rfl
  · have hd : decide (200 < (s.size : Int)) = true := decide_eq_true (by omega)
    obtain ⟨e1, e2⟩ := pfL_big (L := bl s) (by rw [bl_len]; exact h200)
    rw [e1, e2]
    go_enter Tryd.func24, Tryd.ntmps24
    go_wp2
    go_ret2
    exact ⟨_, _, rfl, World.ownsRow_nil _ _ _ _, Below.refl _ _⟩
end Go.Proofs.YtjekibknembcgaaDoor
