/- Plain mathematics: composed bindings; matching is sound; a formula matches itself. -/
import Derived.Test.YtoniekjchabjlaaDoorSubK
namespace Go.Proofs.YtoniekjchabjlaaDoor
open Go.RowKit

theorem cbS_at (ps bs : List (List Int)) {j : Nat} (hj : j < 8) : (cbS ps bs 8).getD j [] = cbE ps bs j := by simp [cbS, List.getD, hj]
theorem cb_facts {ps bs : List (List Int)} (h : cbB ps bs = true) : bndB ps = true ∧ bndB bs = true ∧ ∀ j, j < 8 → (cbE ps bs j).length ≤ 24 := by
  unfold cbB at h
  simp only [Bool.and_eq_true] at h
  exact ⟨h.1, h.2.1, fun j hj => of_decide_eq_true (List.all_eq_true.1 h.2.2 j (List.mem_range.2 hj))⟩
theorem sub1_atom {bs : List (List Int)} (_hb : bndB bs = true) {j : Nat} (hj : j < 8) (hF : 0 < (bs.getD j []).length) : sbL bs [(j : Int) + 1] = bs.getD j [] := by
  have hl : leafB ((j : Int) + 1) = true := decide_eq_true (by omega)
  have he : elt bs ((j : Int) + 1) = bs.getD j [] := by unfold elt; rw [show ((j : Int) + 1).natAbs - 1 = j by omega]
  rw [sbL_cons, sbL_nil, List.append_nil, sub1_pos hl (by rw [he]; exact hF) (by omega), he]
theorem cbE_el {ps bs : List (List Int)} (h : cbB ps bs = true) {j : Nat} (hj : j < 8) : elB (cbE ps bs j) = true := by
  obtain ⟨h1, h2, h3⟩ := cb_facts h
  by_cases h0 : (ps.getD j []).length = 0 ∧ (bs.getD j []).length = 0
  · unfold cbE; rw [if_pos h0]; rfl
  · have h24 := h3 j hj
    unfold cbE at h24 ⊢
    rw [if_neg h0] at h24 ⊢
    have hv : validB (cbF ps j) = true := by
      unfold cbF
      by_cases hE : (ps.getD j []).length = 0
      · rw [if_pos hE]; exact atom_valid ⟨j, hj⟩
      · rw [if_neg hE]; exact elB_valid (bnd_at h1 j) (by omega)
    have := sb_valid h2 hv h24
    unfold elB
    rw [this, Bool.or_true]
theorem cb_bnd {ps bs : List (List Int)} (h : cbB ps bs = true) : bndB (cbS ps bs 8) = true := by
  unfold bndB
  rw [decide_eq_true (cbS_len ps bs 8), Bool.true_and]
  refine List.all_eq_true.2 fun q hq => ?_
  obtain ⟨i, hi, rfl⟩ := List.mem_map.1 hq
  have hi' := List.mem_range.1 hi
  rw [if_pos hi']
  exact cbE_el h hi'
theorem cb_sub1 {ps bs : List (List Int)} (h : cbB ps bs = true) (x : Int) : sub1 (cbS ps bs 8) x = sbL bs (sub1 ps x) := by
  obtain ⟨h1, h2, h3⟩ := cb_facts h
  cases hl : leafB x with
  | false => rw [sub1_keep (by rw [hl]; simp), sub1_keep (by rw [hl]; simp), sbL_cons, sub1_keep (by rw [hl]; simp)]; rfl
  | true =>
    have hr := leaf_range hl
    obtain ⟨j, hj⟩ : ∃ j, j = x.natAbs - 1 := ⟨_, rfl⟩
    have hj8 : j < 8 := by omega
    have ec : elt (cbS ps bs 8) x = cbE ps bs j := by unfold elt; rw [← hj, cbS_at ps bs hj8]
    have ea : elt ps x = ps.getD j [] := by unfold elt; rw [hj]
    have eb : elt bs x = bs.getD j [] := by unfold elt; rw [hj]
    by_cases hE : (ps.getD j []).length = 0
    · have sa : sub1 ps x = [x] := sub1_keep (by rw [ea]; omega)
      rw [sa, sbL_cons, sbL_nil, List.append_nil]
      by_cases hF : (bs.getD j []).length = 0
      · have e0 : cbE ps bs j = [] := by unfold cbE; rw [if_pos ⟨hE, hF⟩]
        rw [sub1_keep (by rw [ec, e0]; simp), sub1_keep (by rw [eb]; omega)]
      · have e0 : cbE ps bs j = bs.getD j [] := by
          unfold cbE cbF
          rw [if_neg (fun hh => hF hh.2), if_pos hE, sub1_atom h2 hj8 (by omega)]
        unfold sub1
        rw [ec, eb, e0]
    · have e0 : cbE ps bs j = sbL bs (ps.getD j []) := by
        unfold cbE cbF
        rw [if_neg (fun hh => hE hh.1), if_neg hE]
      have hvE := elB_valid (bnd_at h1 j) (by omega)
      have h24 := h3 j hj8
      rw [e0] at h24
      have hvG := sb_valid h2 hvE h24
      have hG0 : 0 < (sbL bs (ps.getD j [])).length := (valid_len hvG).1
      by_cases hx : 0 < x
      · rw [sub1_pos hl (by rw [ec, e0]; exact hG0) hx, ec, e0, sub1_pos hl (by rw [ea]; omega) hx, ea]
      · rw [sub1_neg hl (by rw [ec, e0]; exact hG0) hx, ec, e0, sub1_neg hl (by rw [ea]; omega) hx, ea, dualL_yes hvG, dualL_yes hvE, sb_dual h2 (valid_all hvE)]
/-- A composed binding has the effect of both. -/
theorem cb_comp {ps bs : List (List Int)} (h : cbB ps bs = true) : ∀ f : List Int, sbL (cbS ps bs 8) f = sbL bs (sbL ps f)
  | [] => rfl
  | x :: f => by rw [sbL_cons, sbL_cons, sbL_app, cb_sub1 h, cb_comp h f]

theorem elt_set_ne {out : List (List Int)} {j : Nat} {D : List Int} {y : Int} (h : y.natAbs - 1 ≠ j) : elt (out.set j D) y = elt out y := by
  unfold elt
  exact getD_set_ne h
theorem elt_set_eq {out : List (List Int)} {j : Nat} {D : List Int} {y : Int} (h : y.natAbs - 1 = j) (hj : j < out.length) : elt (out.set j D) y = D := by
  unfold elt
  rw [h]
  exact getD_set_eq hj
theorem sbL_congr {qs rs : List (List Int)} : ∀ {f : List Int}, (∀ x ∈ f, sub1 qs x = sub1 rs x) → sbL qs f = sbL rs f
  | [], _ => rfl
  | x :: f, h => by rw [sbL_cons, sbL_cons, h x (by simp), sbL_congr fun y hy => h y (by simp [hy])]
/-- What holds of a match that has come so far. -/
structure MtOk (f : List Int) (p : List Int) (s : Nat × List (List Int)) : Prop where
  len : s.2.length = 8
  el : ∀ q ∈ s.2, elB q = true
  at_ : s.1 ≤ f.length
  got : sbL s.2 p = f.take s.1
  full : ∀ x ∈ p, leafB x = true → 0 < (elt s.2 x).length
theorem mt_one {f p : List Int} {x : Int} {s t : Nat × List (List Int)} (hf : validB f = true) (h : MtOk f p s) (hS : mtS f x s = some t) : MtOk f (p ++ [x]) t := by
  obtain ⟨l1, l2, _⟩ := valid_len hf
  obtain ⟨a, out⟩ := s
  unfold mtS at hS
  cases hl : leafB x with
  | false =>
    rw [if_neg (by rw [hl]; simp)] at hS
    split at hS
    · rename_i hc
      cases hS
      refine ⟨h.len, h.el, hc.1, ?_, ?_⟩
      · have hg : sbL out p = f.take a := h.got
        show sbL out (p ++ [x]) = f.take (a + 1)
        rw [sbL_app, hg, sbL_cons, sbL_nil, List.append_nil, sub1_keep (by rw [hl]; simp), List.take_succ_eq_append_getElem hc.1]
        have e : f.getD a 0 = f[a] := by simp [List.getD, hc.1]
        rw [← e, hc.2]
      · intro y hy hly
        rcases List.mem_append.1 hy with hy | hy
        · exact h.full y hy hly
        · rw [List.mem_singleton.1 hy, hl] at hly; cases hly
    · cases hS
  | true =>
    rw [if_pos hl] at hS
    split at hS
    · cases hS
    · rename_i hfe
      split at hS
      · cases hS
      · rename_i hc
        cases hS
        have hfe' : ¬ fe f a < 0 := hfe
        have hr := leaf_range hl
        rcases fe_bd f a with he | ⟨_, he1, he2⟩
        · omega
        obtain ⟨E, hE⟩ : ∃ E : Nat, fe f a = E := ⟨(fe f a).toNat, by omega⟩
        rw [hE] at he1 he2
        have hvP : validB (cutM f a) = true := by
          unfold cutM
          rw [hE]
          exact seg_valid hE (by omega) (by omega) l2
        have hvD : validB (mtP f x a) = true := by
          unfold mtP
          split
          · rw [dualL_yes hvP]; exact valid_dual hvP
          · exact hvP
        have hD0 : 0 < (mtP f x a).length := (valid_len hvD).1
        have h8 : out.length = 8 := h.len
        have hj : x.natAbs - 1 < out.length := by omega
        have hset : elt (out.set (x.natAbs - 1) (mtP f x a)) x = mtP f x a := elt_set_eq rfl hj
        have hold : ∀ y ∈ p, leafB y = true → elt (out.set (x.natAbs - 1) (mtP f x a)) y = elt out y := by
          intro y hy hly
          by_cases e : y.natAbs - 1 = x.natAbs - 1
          · rw [elt_set_eq e hj]
            have exy : elt out y = elt out x := by unfold elt; rw [e]
            have hfull := h.full y hy hly
            have hfull' : 0 < (elt out x).length := by rw [← exy]; exact hfull
            rw [exy]
            by_cases hne : elt out x = mtP f x a
            · exact hne.symm
            · exact absurd ⟨hfull', hne⟩ hc
          · exact elt_set_ne e
        have hsub : ∀ y ∈ p, sub1 (out.set (x.natAbs - 1) (mtP f x a)) y = sub1 out y := by
          intro y hy
          cases hly : leafB y with
          | false => rw [sub1_keep (by rw [hly]; simp), sub1_keep (by rw [hly]; simp)]
          | true => unfold sub1; rw [hold y hy hly]
        refine ⟨by show (out.set _ _).length = 8; rw [List.length_set]; exact h8, ?_, ?_, ?_, ?_⟩
        · intro q hq
          rcases List.mem_or_eq_of_mem_set hq with h1 | rfl
          · exact h.el q h1
          · unfold elB; rw [hvD, Bool.or_true]
        · show (fe f a).toNat ≤ f.length
          omega
        · have hg : sbL out p = f.take a := h.got
          show sbL (out.set _ _) (p ++ [x]) = f.take (fe f a).toNat
          rw [sbL_app, sbL_congr hsub, hg, sbL_cons, sbL_nil, List.append_nil]
          have hP : sub1 (out.set (x.natAbs - 1) (mtP f x a)) x = cutM f a := by
            by_cases hx : 0 < x
            · rw [sub1_pos hl (by rw [hset]; exact hD0) hx, hset]
              unfold mtP; rw [if_neg (by omega)]
            · rw [sub1_neg hl (by rw [hset]; exact hD0) hx, hset]
              unfold mtP
              rw [if_pos (by omega), dualL_yes hvP, dual_dual hvP]
          rw [hP]
          unfold cutM
          rw [hE, Int.toNat_natCast]
          have e : E = a + (E - a) := by omega
          conv => rhs; rw [e, List.take_add]
        · intro y hy hly
          show 0 < (elt (out.set _ _) y).length
          rcases List.mem_append.1 hy with hy | hy
          · rw [hold y hy hly]; exact h.full y hy hly
          · rw [List.mem_singleton.1 hy, hset]; exact hD0
theorem mt_ok {f : List Int} (hf : validB f = true) : ∀ (p q : List Int) (s t : Nat × List (List Int)), MtOk f q s → mtR f p s = some t → MtOk f (q ++ p) t
  | [], q, s, t, h, hR => by cases hR; rw [List.append_nil]; exact h
  | x :: p, q, s, t, h, hR => by
    change (mtS f x s).bind (mtR f p) = some t at hR
    cases e : mtS f x s with
    | none => rw [e] at hR; cases hR
    | some u =>
      rw [e] at hR
      have := mt_ok hf p (q ++ [x]) u t (mt_one hf h e) hR
      rwa [List.append_assoc, List.singleton_append] at this
/-- A formula that matches a pattern is the pattern with the binding substituted. -/
theorem mt_sound {p f : List Int} (h : mtB p f = true) : validB p = true ∧ validB f = true ∧ bndB (mtL p f) = true ∧ sbL (mtL p f) p = f := by
  have h' := h
  unfold mtB at h'
  simp only [Bool.and_eq_true] at h'
  obtain ⟨hp, hf, h3⟩ := h'
  cases hs : mtR f p mt0 with
  | none => rw [hs] at h3; exact Bool.noConfusion h3
  | some s =>
    rw [hs] at h3
    have he : s.1 = f.length := of_decide_eq_true h3
    have h0 : MtOk f [] mt0 := ⟨rfl, fun q hq => by rw [(List.mem_replicate.1 hq).2]; rfl, Nat.zero_le _, rfl, fun x hx => absurd hx (by simp)⟩
    have hk := mt_ok hf p [] mt0 s h0 hs
    rw [List.nil_append] at hk
    rw [mtL_yes h hs]
    refine ⟨hp, hf, ?_, ?_⟩
    · unfold bndB
      rw [decide_eq_true hk.len, Bool.true_and]
      exact List.all_eq_true.2 hk.el
    · rw [hk.got, he, List.take_of_length_le (Nat.le_refl _)]
theorem rep_at : ∀ i : Fin 8, (List.replicate 8 ([] : List Int)).getD i.1 [] = [] := by decide
/-- A formula matches itself. -/
theorem mt_self_up {f : List Int} (hf : validB f = true) : ∀ k, k ≤ f.length → ∃ out, mtR f (f.take k) mt0 = some (k, out) ∧ out.length = 8 ∧ ∀ j, j < 8 → out.getD j [] = [] ∨ out.getD j [] = [(j : Int) + 1]
  | 0, _ => ⟨List.replicate 8 [], rfl, rfl, fun j hj => .inl (rep_at ⟨j, hj⟩)⟩
  | k + 1, hk => by
    obtain ⟨out, h1, h2, h3⟩ := mt_self_up hf k (by omega)
    have hlt : k < f.length := by omega
    have hst := mt_step hlt h1
    have hc := valid_at hf hlt
    cases hl : leafB (f.getD k 0) with
    | false => exact ⟨out, by rw [hst, mtS_op hl hlt rfl], h2, h3⟩
    | true =>
      generalize hx : f.getD k 0 = x at *
      have hr := leaf_range hl
      have hfe : fe f k = ((k + 1 : Nat) : Int) := by
        rw [fe_nat hlt, drop_cons hlt, hx, scan_end _ _ _ (by rw [arZ_leaf hl]; omega) (by rw [arZ_leaf hl]; omega)]
        omega
      have hcut : cutM f k = [x] := by
        unfold cutM
        rw [hfe, Int.toNat_natCast, show k + 1 - k = 1 by omega, drop_cons hlt, hx]
        rfl
      have hvx : validB [x] = true := by
        unfold cutM at hcut
        rw [hfe, Int.toNat_natCast] at hcut
        rw [← hcut]
        exact seg_valid hfe (by omega) (by omega) (valid_len hf).2.1
      have hD : mtP f x k = [((x.natAbs - 1 : Nat) : Int) + 1] := by
        unfold mtP
        rw [hcut]
        by_cases h0 : x < 0
        · rw [if_pos h0, dualL_yes hvx]
          show [duZ x] = _
          rw [duZ_leaf hl]
          congr 1; omega
        · rw [if_neg h0]; congr 1; omega
      have he : elt out x = out.getD (x.natAbs - 1) [] := rfl
      refine ⟨out.set (x.natAbs - 1) (mtP f x k), ?_, by rw [List.length_set]; exact h2, ?_⟩
      · rw [hst]
        refine mtS_yes hl hfe ?_
        rw [he, hD]
        rcases h3 (x.natAbs - 1) (by omega) with h | h
        · rw [h]; simp
        · rw [h]; simp
      · intro j hj
        by_cases e : j = x.natAbs - 1
        · subst e
          rw [getD_set_eq (by omega), hD]
          exact .inr rfl
        · rw [getD_set_ne e]
          exact h3 j hj
theorem mt_self {f : List Int} (hf : validB f = true) : mtB f f = true := by
  obtain ⟨out, h1, _⟩ := mt_self_up hf f.length (Nat.le_refl _)
  rw [List.take_of_length_le (Nat.le_refl _)] at h1
  rw [mtB_some hf hf h1]
  exact decide_eq_true rfl
end Go.Proofs.YtoniekjchabjlaaDoor
