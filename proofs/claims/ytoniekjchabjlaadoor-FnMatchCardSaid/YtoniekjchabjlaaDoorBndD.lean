/- The program's inForm: substitution in a list of symbols. -/
import Derived.Test.YtoniekjchabjlaaDoorBndC
import Derived.Test.YtoniekjchabjlaaDoorSubB
import Derived.Deep.RegionLaw
import Derived.Deep.AppendLies
namespace Go.Proofs.YtoniekjchabjlaaDoor
open Go.ChangeAt Go.ChangeShapes Go.RowKit Go.WideShapes

theorem sub1_pos' {qs : List (List Int)} (hok : ∀ k, elB (qs.getD k []) = true) (x : Int) : 0 < (sub1 qs x).length ∧ (sub1 qs x).length ≤ 24 := by
  unfold sub1
  split
  · rename_i h
    have he : elB (elt qs x) = true := hok _
    have hv := elB_valid he h.2
    have hl := elB_len he
    split
    · exact ⟨h.2, hl⟩
    · rw [dualL_yes hv, List.length_map]; exact ⟨h.2, hl⟩
  · simp
theorem own_base {w : World} {b b' n size : Nat} {e : TypeId} {v : Value} {xs : List Value} (h : w.ownsRow b e size v n xs) (hb : b' ≤ b) : w.ownsRow b' e size v n xs :=
  ⟨h.1, h.2.imp id fun ⟨g, cap, cur, h1, h2, h3⟩ => ⟨g, cap, cur, h1, Nat.le_trans hb h2, h3⟩⟩
theorem sbL_len' {qs : List (List Int)} (hok : ∀ k, elB (qs.getD k []) = true) (f : List Int) : (sbL qs f).length ≤ 24 * f.length := by
  induction f with
  | nil => simp [sbL]
  | cons x f ih =>
    have e : sbL qs (x :: f) = sub1 qs x ++ sbL qs f := by simp [sbL]
    have := (sub1_pos' hok x).2
    rw [e, List.length_append, List.length_cons, Nat.mul_add]
    omega
set_option maxRecDepth 100000 in
set_option maxHeartbeats 8000000 in
theorem inForm_any (cs : Array Value) (qs : List (List Int)) (A : Option Addr) (n c : Nat) (f : List Int) (w : World) (h : BndV w cs qs) (hok : ∀ k, elB (qs.getD k []) = true) (hr : RdI w w.heap.size A n f) (hn : n ≤ 1000) (ht : Arit w) (hu : Dual w) :
    Calls Tryd.prog 48 #[.agg cs, .slice A n c] w (Gives w (sbL qs f)) := by
  obtain ⟨i0, hi0, hz0, hz1, hz2⟩ := info_parts info_i64
  have hl := hr.len
  subst hl
  obtain ⟨w2, hw2⟩ : ∃ w2, w2 = w.alloc (.cells cs 62) := ⟨_, rfl⟩
  have hb2 : Below w.heap.size w w2 := by rw [hw2]; exact (Below.refl _ _).alloc (Nat.le_refl _) _
  have hg2 : w2.heap[w.heap.size]? = some (.cells cs 62 (0, 0)) := by rw [hw2]; exact heap_alloc_new _ _
  have hs2 : w2.heap.size = w.heap.size + 1 := by rw [hw2]; simp
  have HW2 := Lib.hid hw2; have HB2 := Lib.hid hb2; have HG2 := Lib.hid hg2; have HS2 := Lib.hid hs2; have HV := Lib.hid h; have HOK := Lib.hid hok; have HR := Lib.hid hr
  have HI := Lib.hid hi0; have HZ0 := Lib.hid hz0; have HZ1 := Lib.hid hz1; have HZ2 := Lib.hid hz2
  clear hw2 hb2 hg2 hs2 h hok hr hi0 hz0 hz1 hz2
  go_enter Tryd.func48, Tryd.ntmps48
  go_upto_region 1 with (fail)
  rw [← HW2.out]
  go_wp2
  go_loopw [5, 7, 10] (fun o _ i wr => ∃ (k : Nat) (Ar : Option Addr) (cr : Nat), k ≤ f.length ∧ i = .int .i64 k ∧ o = .slice Ar (sbL qs (f.take k)).length cr ∧ wr.ownsRow w2.heap.size 2 1 (.slice Ar (sbL qs (f.take k)).length cr) (sbL qs (f.take k)).length ((sbL qs (f.take k)).map (Value.int .i64)) ∧ Below w2.heap.size w2 wr) (fun _ _ i _ => f.length - (intOf i).toNat)
  case atStart => exact ⟨0, none, 0, Nat.zero_le _, rfl, rfl, World.ownsRow_nil _ _ _ _, Below.refl _ _⟩
  case round =>
    obtain ⟨k, Ar, cr, hk, rfl, rfl, ho, hb⟩ := hrel
    have HO := Lib.hid ho; have HB := Lib.hid hb
    have HBW := Lib.hid (HB2.out.trans (hb.mono HB2.out.size))
    have hs1 := hb.size
    have HTL : Hid ((sbL qs (f.take k)).length ≤ 24000) := Lib.hid (by have := sbL_len' HOK.out (f.take k); rw [List.length_take] at this; omega)
    clear ho
    by_cases hlt : k < f.length
    · obtain ⟨b, off, rfl, hbb, hcells⟩ := HR.out.2 (by omega)
      have hc := (HBW.out.cell (p := ⟨b, off + k, none⟩) hbb).trans (hcells k hlt)
      have HST := Lib.hid (sbL_take (qs := qs) hlt)
      have hkd : decide ((k : Int) < (f.length : Int)) = true := decide_eq_true (by omega)
      generalize f.getD k 0 = x at *
      have HG2r : Hid (wr.heap[w.heap.size]? = _) := Lib.hid ((hb.block w.heap.size (by have := HS2.out; omega)).trans HG2.out)
      have HV1 := Lib.hid (HV.out.below HBW.out)
      have HF := Lib.hid (forSymbol_any cs qs x wr HV1.out HOK.out (ht.below HBW.out ht.lt) (hu.below HBW.out hu.lt))
      obtain ⟨hp0, hp24⟩ := sub1_pos' HOK.out x
      generalize sub1 qs x = X at *
      obtain ⟨L7, hL7⟩ : ∃ L7, L7 = (sbL qs (f.take k) ++ X).length := ⟨_, rfl⟩
      have HL7 := Lib.hid hL7
      have HTL' := HTL.out
      clear hcells hb hL7
      go_wp2_with (refine wpList_load_row rfl _ _ rfl w.heap.size rfl _ _ _ _ HG2r.out Tryd.underlying62 rfl (by rw [HV1.out.size]; exact size_bnd) ?_)
      refine HF.out.mono ?_
      rintro e w3 ⟨A3, c3, rfl, rd3, cc3, bel3⟩
      obtain ⟨be, oe, rfl, hbe, hce⟩ := rd3.2 hp0
      have HO3 := Lib.hid (own_below HO.out bel3 (Nat.le_refl _))
      have HB3 := Lib.hid (HB.out.trans (bel3.mono hs1))
      have hs3 : w2.heap.size ≤ w3.heap.size := HB3.out.size
      have HN1 := Lib.hid (part_news hce)
      have HL1 : Hid ((X.map (Value.int .i64)).length = X.length * 1) := Lib.hid (by simp)
      have HHO := Lib.hid (ints_one X)
      clear hce rd3 HF bel3 HO HB hc
      go_wp2_with (at_builtin; refine wpList_append_own _ rfl _ _ 24 rfl w2.heap.size 2 i0 (.int .i64 0) 1 8 Tryd.underlying24 HI.out HZ0.out HZ1.out HZ2.out rfl (by decide) _ _ _ rfl HO3.out ⟨be, oe, none⟩ X.length c3 (X.map (Value.int .i64)) rfl HL1.out HN1.out HHO.out (by unfold maxLen; omega) (by omega) hs3 ?_; intro v7 w7 hown7 hgrow7 _; obtain ⟨A7, c7, rfl, hb7, ho7⟩ := row_more (X := X) HL7.out HB3.out hs3 HO3.out hown7 hgrow7; have HB7 := Lib.hid hb7; have HO7 := Lib.hid ho7; clear hown7 hgrow7 hb7 ho7)
      go_roundw
      case rel => exact ⟨k + 1, A7, c7, by omega, by go_num, by rw [HST.out, HL7.out], by rw [HST.out, ← HL7.out]; exact HO7.out, HB7.out⟩
      case measure => simp [intOf]; omega
    · have hkl : k = f.length := by omega
      subst hkl
      have e : f.take f.length = f := List.take_of_length_le (Nat.le_refl _)
      rw [e] at HO
      have HE := Lib.hid e
      clear hb e HTL
      go_wp2
      go_ret
      exact ⟨Ar, cr, by rw [HE.out]; rfl, own_base HO.out HB2.out.size, HBW.out⟩
end Go.Proofs.YtoniekjchabjlaaDoor
