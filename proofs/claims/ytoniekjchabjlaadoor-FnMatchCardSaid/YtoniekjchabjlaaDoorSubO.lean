/- Draws of chapter 7: a list and a binding, two bindings, a list; mathematics of FnSubstDual. -/
import Derived.Test.YtoniekjchabjlaaDoorSubN
import Derived.Test.YtoniekjchabjlaaDoorSubK
import Derived.Test.YtoniekjchabjlaaDoorDualM
namespace Go.Proofs.YtoniekjchabjlaaDoor
open Go.ChangeAt Go.ChangeShapes Go.RowKit Go.WideShapes

/-- What a draw of a list and a binding leaves. -/
def DrawnFB (w : World) (e : Ending) (w' : World) : Prop :=
  ∃ (L : List Int) (A : Option Addr) (c : Nat) (B : Option Addr) (m d : Nat) (qs : List (List Int)), e = .returned (.tuple #[.slice A L.length c, .slice B m d]) ∧ L.length ≤ 64 ∧ (∀ z ∈ L, -18 ≤ z ∧ z ≤ 18) ∧ L.length ≤ c ∧ RdI w' w'.heap.size A L.length L ∧ m ≤ 8 ∧ qs.length = m ∧ RdQ w' w'.heap.size B m qs ∧ (∀ q ∈ qs, q.length ≤ 64) ∧ Below w.heap.size w w'
def DrawnBB (w : World) (e : Ending) (w' : World) : Prop :=
  ∃ (A : Option Addr) (n c : Nat) (ps : List (List Int)) (B : Option Addr) (m d : Nat) (qs : List (List Int)), e = .returned (.tuple #[.slice A n c, .slice B m d]) ∧ n ≤ 8 ∧ ps.length = n ∧ RdQ w' w'.heap.size A n ps ∧ m ≤ 8 ∧ qs.length = m ∧ RdQ w' w'.heap.size B m qs ∧ Below w.heap.size w w'
/-- The same list and binding behind a draw with a code. -/
theorem drawSubstForm_any (A : Option Addr) (n c : Nat) (code : List Int) (w : World) (h : RdB w w.heap.size A n code) (hn : n ≤ 4096) :
    Calls Tryd.prog 12 #[.slice A n c] w (DrawnFB w) := by
  go_enter Tryd.func12, Tryd.ntmps12
  go_wp2_with (fail)
  refine (fromCode_any A n c code w h hn).mono ?_
  rintro e w1 ⟨rfl, S1, B1⟩
  have hs1 := S1.lt
  go_wp2_with (fail)
  refine (drawAny_any _ n c A code w1 S1).mono ?_
  rintro e w2 ⟨L, A2, c2, rfl, l1, l2, o2, S2, G2⟩
  have B2 := B1.grown G2 B1.size (fun k hk => by injection hk with hk; omega)
  have hcap := (own_cap o2).1
  clear B1 S1 G2
  go_wp2_with (fail)
  refine (drawBinding_any _ n c A code w2 S2).mono ?_
  rintro e w3 ⟨hs, gq, m, cq, qs, rfl, hm, hq, o3, q64, S3, G3⟩
  have B3 := B2.grown G3 B2.size (fun k hk => by injection hk with hk; omega)
  have hR : Hid (RdI w3 w3.heap.size A2 L.length L ∧ RdQ w3 w3.heap.size (some ⟨gq, 0, none⟩) m qs ∧ Below w.heap.size w w3) := Lib.hid ⟨RdI.of_own (own_keep o2 G3 hs1), o3.rd hq, B3⟩
  clear o2 o3 S2 S3 G3 B2 B3
  go_wp2
  go_ret2
  exact ⟨L, A2, c2, _, m, cq, qs, rfl, l1, l2, hcap, hR.out.1, hm, hq, hR.out.2.1, q64, hR.out.2.2⟩
theorem drawComposed_any (A : Option Addr) (n c : Nat) (code : List Int) (w : World) (h : RdB w w.heap.size A n code) (hn : n ≤ 4096) :
    Calls Tryd.prog 21 #[.slice A n c] w (DrawnBB w) := by
  go_enter Tryd.func21, Tryd.ntmps21
  go_wp2_with (fail)
  refine (fromCode_any A n c code w h hn).mono ?_
  rintro e w1 ⟨rfl, S1, B1⟩
  have hs1 := S1.lt
  go_wp2_with (fail)
  refine (drawBinding_any _ n c A code w1 S1).mono ?_
  rintro e w2 ⟨hs2, g2, m2, c2, ps, rfl, hm2, hq2, o2, _, S2, G2⟩
  have B2 := B1.grown G2 B1.size (fun k hk => by injection hk with hk; omega)
  clear B1 S1 G2
  go_wp2_with (fail)
  refine (drawBinding_any _ n c A code w2 S2).mono ?_
  rintro e w3 ⟨hs, gq, m, cq, qs, rfl, hm, hq, o3, _, S3, G3⟩
  have B3 := B2.grown G3 B2.size (fun k hk => by injection hk with hk; omega)
  have hR : Hid (RdQ w3 w3.heap.size (some ⟨g2, 0, none⟩) m2 ps ∧ RdQ w3 w3.heap.size (some ⟨gq, 0, none⟩) m qs ∧ Below w.heap.size w w3) := Lib.hid ⟨(o2.grown G3 hs1).rd hq2, o3.rd hq, B3⟩
  clear o2 o3 S2 S3 G3 B2 B3
  go_wp2
  go_ret2
  exact ⟨_, m2, c2, ps, _, m, cq, qs, rfl, hm2, hq2, hR.out.1, hm, hq, hR.out.2.1, hR.out.2.2⟩
theorem drawLeft_any (A : Option Addr) (n c : Nat) (code : List Int) (w : World) (h : RdB w w.heap.size A n code) (hn : n ≤ 4096) :
    Calls Tryd.prog 24 #[.slice A n c] w (DrawnFrom w) := by
  go_enter Tryd.func24, Tryd.ntmps24
  go_wp2_with (fail)
  refine (fromCode_any A n c code w h hn).mono ?_
  rintro e w1 ⟨rfl, S1, B1⟩
  go_wp2_with (fail)
  refine (pick_any _ n c A code 16 w1 S1 (by omega) (by omega)).mono ?_
  rintro e w2 ⟨fr, f1, f2, rfl, S2, G2⟩
  have B2 := B1.grown G2 B1.size (fun k hk => by injection hk with hk; omega)
  clear B1 S1 G2
  go_wp2_with (fail)
  refine (pick_any _ n c A code 6 w2 S2 (by omega) (by omega)).mono ?_
  rintro e w3 ⟨t, t1, t2, rfl, S3, G3⟩
  have B3 := B2.grown G3 B2.size (fun k hk => by injection hk with hk; omega)
  clear B2 S2 G3
  have hwt : IntKind.i64.wrap (1 + t) = 1 + t := IntWalk.i64_in _ (by omega)
  obtain ⟨z, hz⟩ : ∃ z : Nat, (z : Int) = 1 + t := ⟨(1 + t).toNat, by omega⟩
  have HD := Lib.hid (drawForm_any _ n c A code fr z w3 S3 (by omega) (by omega))
  rw [hz] at HD
  have hz4 : z ≤ 6 := by omega
  have HB := Lib.hid B3
  clear S3 hz B3
  go_wp2_with (fail)
  refine HD.out.mono ?_
  rintro e w5 ⟨L, A5, c5, rfl, l1, l2, l3, own5, S5, G5⟩
  have HR : Hid (w5.ownsRow w.heap.size 2 1 (.slice A5 L.length c5) L.length (L.map (Value.int .i64)) ∧ Below w.heap.size w w5) := Lib.hid ⟨own5.mono HB.out.size, HB.out.grown G5 HB.out.size (fun k hk => by injection hk with hk; omega)⟩
  clear own5 S5 G5 HB HD
  go_wp2
  go_ret
  exact ⟨L, A5, c5, rfl, by omega, l3, HR.out.1, HR.out.2⟩
theorem sf_no {f : List Int} {qs : List (List Int)} (h : sfB f qs = false) : sfL f qs = [] := by unfold sfL; rw [if_neg (by rw [h]; simp)]
theorem sf_bad {f : List Int} {qs : List (List Int)} (h : validB f = false) : sfB f qs = false := by unfold sfB; rw [h]; rfl
theorem sf_yes {f : List Int} {qs : List (List Int)} (h : sfB f qs = true) : sfL f qs = sbL qs f ∧ validB f = true ∧ bndB qs = true ∧ (sbL qs f).length ≤ 24 ∧ validB (sbL qs f) = true := by
  have h' := h
  unfold sfB at h'
  simp only [Bool.and_eq_true, decide_eq_true_eq] at h'
  refine ⟨by unfold sfL; rw [if_pos h], h'.1, h'.2.1, h'.2.2, sb_valid h'.2.1 h'.1 h'.2.2⟩
theorem sf_dual {f : List Int} {qs : List (List Int)} (hv : validB f = true) : sfB (f.map duZ) qs = sfB f qs ∧ sfL (f.map duZ) qs = (sfL f qs).map duZ := by
  have hb : sfB (f.map duZ) qs = sfB f qs := by
    unfold sfB
    rw [valid_dual hv, hv]
    cases hq : bndB qs with
    | false => rfl
    | true => rw [sb_dual hq (valid_all hv), List.length_map]
  refine ⟨hb, ?_⟩
  cases h : sfB f qs with
  | false => rw [sf_no h, sf_no (hb.trans h)]; rfl
  | true =>
    obtain ⟨e1, _, hq, _⟩ := sf_yes h
    obtain ⟨e2, _⟩ := sf_yes (hb.trans h)
    rw [e1, e2, sb_dual hq (valid_all hv)]
theorem bnd_nil : bndB [] = false := rfl
end Go.Proofs.YtoniekjchabjlaaDoor
