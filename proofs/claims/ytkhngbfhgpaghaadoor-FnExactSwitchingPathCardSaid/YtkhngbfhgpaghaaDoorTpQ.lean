/- SwitchingPath of the model and of the program. -/
import Derived.Test.YtkhngbfhgpaghaaDoorTpP
import Derived.Test.YtkhngbfhgpaghaaDoorSwL
import Derived.Deep.RegionHeldLaw
import Derived.Deep.DeepCutAuto
import Derived.BigQuiet
namespace Go.Proofs.YtkhngbfhgpaghaaDoor
set_option linter.unusedSimpArgs false
set_option linter.unusedVariables false
open Go.ChangeAt Go.ChangeShapes Go.RowKit Go.WideShapes


theorem and_bools {a b : Bool} (h : (a && b) = true) : a = true ∧ b = true := by simpa using h
theorem tree_findsN {n : Nat} {ar : List Ac} (hin : ArcsIn n ar) (h : ftV n ar = 0) {u g : Int} (hu : inW n u = true) (hg : inW n g = true) : ∃ r, pf n ar u g (-1) = some r := by
  obtain ⟨P, hr, hP⟩ := tree_one hin h
  obtain ⟨_, h1, _⟩ := inW_yes hu
  obtain ⟨_, h2, _⟩ := inW_yes hg
  have hc := parts_con hin (Nat.le_refl _) hr u g hu hg (hP _ _ h1 h2)
  obtain ⟨p, hw, he⟩ := goes_con (show Goes ar u u from ⟨[], Way.one ar u, rfl⟩) hc
  have hall := way_in hin hu hw
  have hf := way_few hw hall
  refine pf_finds n u p (-1) hw he (by simp at hf; omega) fun hm => ?_
  obtain ⟨h0, _, _⟩ := inW_yes (hall _ (List.mem_cons_of_mem _ hm))
  omega
theorem mf_one {n : Nat} {ar : List Ac} (hin : ArcsIn n ar) {P : List Int} (hr : runP n ar ar.length = some P) (f g : Int) : mf n ar [f] g = pf n ar f g (-1) := by
  rw [find_same hin hr g n [f] 0 (-1) rfl (Way.one ar f) (.inl ⟨rfl, rfl⟩)]
  show Option.map (fun r => [] ++ r) (pf n ar f g (-1)) = _
  cases pf n ar f g (-1) <;> rfl
/-- SwitchingPath's answer. -/
def spB (N : Nt) (s : List Int) (f g : Int) : Bool := itB N s && (inW N.l.length f && inW N.l.length g)
def spL (N : Nt) (s : List Int) (f g : Int) : List Int := if spB N s f g then (pf N.l.length (mgU N s N.w.length) f g (-1)).getD [] else []
theorem spL_no {N : Nt} {s : List Int} {f g : Int} (h : spB N s f g = false) : spL N s f g = [] := by unfold spL; rw [h]; rfl
theorem itB_sw {N : Nt} {s : List Int} (h : itB N s = true) : isSw N s = true := by
  unfold itB at h; exact (and_bools h).1
theorem itB_tree {N : Nt} {s : List Int} (h : itB N s = true) : ftV N.l.length (mgU N s N.w.length) = 0 := by
  have := itB_sw h
  rw [itB_yes this] at h
  exact of_decide_eq_true h
theorem spB_yes {N : Nt} {s : List Int} {f g : Int} (h : itB N s = true) (hf : inW N.l.length f = true) (hg : inW N.l.length g = true) : spB N s f g = true := by unfold spB; rw [h, hf, hg]; rfl
theorem spL_yes {N : Nt} {s : List Int} {f g : Int} (h : itB N s = true) (hf : inW N.l.length f = true) (hg : inW N.l.length g = true) : pf N.l.length (mgU N s N.w.length) f g (-1) = some (spL N s f g) := by
  obtain ⟨r, hr⟩ := tree_findsN (arcs_in (s := s) (isSw_yes (itB_sw h)).1) (itB_tree h) hf hg
  unfold spL
  rw [if_pos (spB_yes h hf hg), hr]; rfl
theorem spL_len (N : Nt) (s : List Int) (f g : Int) : (spL N s f g).length ≤ 1048576 := by
  cases h : spB N s f g with
  | false => rw [spL_no h]; simp
  | true =>
    unfold spB at h
    obtain ⟨h1, h2⟩ := and_bools h
    obtain ⟨h3, h4⟩ := and_bools h2
    have := (pf_len (spL_yes h1 h3 h4)).2
    have h5 := (valN_size (isSw_yes (itB_sw h1)).1).2
    omega
theorem spB_t {N : Nt} {s : List Int} {f g : Int} (h : itB N s = false) : spB N s f g = false := by unfold spB; rw [h]; rfl
theorem spB_f {N : Nt} {s : List Int} {f g : Int} (h : inW N.l.length f = false) : spB N s f g = false := by unfold spB; rw [h]; simp
theorem spB_g {N : Nt} {s : List Int} {f g : Int} (h : inW N.l.length g = false) : spB N s f g = false := by unfold spB; rw [h]; simp
theorem givesB_made (w w' : World) (h : Below w.heap.size w w') : GivesB w [] false (.returned (.tuple #[.slice (some ⟨w'.heap.size, 0, none⟩) 0 0, .bool false])) (w'.alloc (.cells #[] 2)) :=
  ⟨_, 0, rfl, (World.ownsRow_made w' #[] 0 (Nat.le_refl _) (by simp [maxLen]) rfl).mono h.size, h.trans (((Below.refl _ w').alloc (Nat.le_refl _) _).mono h.size)⟩
theorem givesB_nilp (w w' : World) (h : Below w.heap.size w w') : GivesB w [] false (.returned (.tuple #[.slice none 0 0, .bool false])) w' := ⟨none, 0, rfl, World.ownsRow_nil _ _ _ _, h⟩
set_option maxRecDepth 100000 in
set_option maxHeartbeats 1000000 in
theorem sSwPath_any (h : NH) (N : Nt) (s : List Int) (S : Option Addr) (sc : Nat) (f g : Int) (w : World) (r : RdN w w.heap.size h N) (hsl : s.length ≤ 1048576) (rS : RdI w w.heap.size S s.length s) (hn : N.w.length ≤ 1048576) (hl : N.l.length ≤ 1048576) (hc : N.c.length ≤ 1048576) :
    Calls Tryd.prog 38 #[.agg #[.slice h.A N.w.length h.c, .slice h.L N.l.length h.d, .slice h.C N.c.length h.e], .slice S s.length sc, .int .i64 f, .int .i64 g] w (GivesB w (spL N s f g) (spB N s f g)) := by
  obtain ⟨w0, hw0⟩ : ∃ w0, w0 = w.alloc (.cells #[.slice h.A N.w.length h.c, .slice h.L N.l.length h.d, .slice h.C N.c.length h.e] 31) := ⟨_, rfl⟩
  obtain ⟨hb, hh, hsz⟩ := box3_any w (.slice h.A N.w.length h.c) (.slice h.L N.l.length h.d) (.slice h.C N.c.length h.e) 31
  rw [← hw0] at hb hh hsz
  have hs0 : w.heap.size + 1 ≤ w0.heap.size := by omega
  have HK : Hid (∀ w', Below w0.heap.size w0 w' → w'.cell? ⟨w.heap.size, 0, none⟩ = some (.slice h.A N.w.length h.c) ∧ w'.cell? ⟨w.heap.size, 1, none⟩ = some (.slice h.L N.l.length h.d) ∧ w'.cell? ⟨w.heap.size, 2, none⟩ = some (.slice h.C N.c.length h.e)) := Lib.hid fun w' hw => three_cells ((hw.block _ (by omega)).trans hh)
  have HT := Lib.hid (sIsTree_any h N s S sc w0 ((r.below hb).more hb.size) hsl ((rS.below hb).more hb.size) hn hl hc)
  have HIF := Lib.hid (fun wx => inRange_any f 0 ((N.l.length : Int) - 1) wx)
  have HIG := Lib.hid (fun wx => inRange_any g 0 ((N.l.length : Int) - 1) wx)
  have HEF : Hid (decide (0 ≤ f ∧ f ≤ (N.l.length : Int) - 1) = inW N.l.length f) := Lib.hid rfl
  have HEG : Hid (decide (0 ≤ g ∧ g ≤ (N.l.length : Int) - 1) = inW N.l.length g) := Lib.hid rfl
  rw [HEF.out] at HIF
  rw [HEG.out] at HIG
  have HR := Lib.hid (fun (w' : World) (hw : Below w0.heap.size w0 w') => ((r.below (hb.trans (hw.mono hb.size))).more (Nat.le_trans hb.size hw.size)))
  have HRS := Lib.hid (fun (w' : World) (hw : Below w0.heap.size w0 w') => show RdI w' w'.heap.size S s.length s from ((rS.below (hb.trans (hw.mono hb.size))).more (Nat.le_trans hb.size hw.size)))
  have HB0 := Lib.hid hb
  obtain ⟨y0, y1, y2⟩ := three_cells hh
  clear hb hh hsz r rS HEF HEG
  cases hit : itB N s with
  | false =>
    have HP := Lib.hid (spB_t (f := f) (g := g) hit)
    have HPL := Lib.hid (spL_no HP.out)
    rw [HP.out, HPL.out]
    rw [hit] at HT
    clear hit
    go_enter Tryd.func38, Tryd.ntmps38
    go_wp2_with (fail)
    rw [← hw0]
    clear hw0
    refine HT.out.mono ?_
    rintro e w1 ⟨rfl, bel⟩
    have HG := Lib.hid (givesB_made w w1 (HB0.out.trans (bel.mono HB0.out.size)))
    clear bel y0 y1 y2 HT
    go_wp2
    go_ret2
    exact HG.out
  | true =>
    rw [hit] at HT
    cases hif : inW N.l.length f with
    | false =>
      have HP := Lib.hid (spB_f (s := s) (g := g) hif)
      have HPL := Lib.hid (spL_no HP.out)
      rw [HP.out, HPL.out]
      rw [hif] at HIF
      clear hit hif
      go_enter Tryd.func38, Tryd.ntmps38
      go_wp2_with (fail)
      rw [← hw0]
      clear hw0
      refine HT.out.mono ?_
      rintro e w1 ⟨rfl, bel⟩
      have HG := Lib.hid (givesB_made w w1 (HB0.out.trans (bel.mono HB0.out.size)))
      clear bel y0 y1 y2 HT
      go_wp2_with (fail)
      refine (HIF.out _).mono ?_
      rintro e w2 ⟨rfl, rfl⟩
      go_wp2
      go_ret2
      exact HG.out
    | true =>
      rw [hif] at HIF
      cases hig : inW N.l.length g with
      | false =>
        have HP := Lib.hid (spB_g (s := s) (f := f) hig)
        have HPL := Lib.hid (spL_no HP.out)
        rw [HP.out, HPL.out]
        rw [hig] at HIG
        clear hit hif hig
        go_enter Tryd.func38, Tryd.ntmps38
        go_wp2_with (fail)
        rw [← hw0]
        clear hw0
        refine HT.out.mono ?_
        rintro e w1 ⟨rfl, bel⟩
        have HG := Lib.hid (givesB_made w w1 (HB0.out.trans (bel.mono HB0.out.size)))
        clear bel y0 y1 y2 HT
        go_wp2_with (fail)
        refine (HIF.out _).mono ?_
        rintro e w2 ⟨rfl, rfl⟩
        go_wp2_with (fail)
        refine (HIG.out _).mono ?_
        rintro e w3 ⟨rfl, rfl⟩
        go_wp2
        go_ret2
        exact HG.out
      | true =>
        rw [hig] at HIG
        rw [spB_yes hit hif hig]
        have hsw := itB_sw hit
        have hv := (isSw_yes hsw).1
        have h48 := (valN_size hv).2
        have hai := arcs_in (s := s) hv
        obtain ⟨P, hrun, _⟩ := tree_one hai (itB_tree hit)
        have hma := mgU_len N s N.w.length
        have HAR := Lib.hid (fun (w' : World) (hw : Below w0.heap.size w0 w') => sArcs_any h N s S sc w' hsw (HR.out _ hw) (HRS.out _ hw))
        have hmf := (mf_one hai hrun f g).trans (spL_yes hit hif hig)
        have HPT := Lib.hid (fun A c B d (w' : World) (lo : Nat) hlo hO rA => sPath_any hai h48 (by omega) A c g N.l.length [f] 0 B d lo w' rfl (Way.one _ f) (fun x hx => by rw [List.mem_singleton.1 hx]; exact hif) (by omega) hlo hO rA)
        rw [hmf] at HPT
        clear hit hif hig hsw hv hai hrun hmf hma
        generalize spL N s f g = X at *
        generalize mgU N s N.w.length = ar at *
        go_enter Tryd.func38, Tryd.ntmps38
        go_wp2_with (fail)
        rw [← hw0]
        clear hw0
        refine HT.out.mono ?_
        rintro e w1 ⟨rfl, bel⟩
        have B1 := Lib.hid bel
        clear bel y0 y1 y2 HT
        go_wp2_with (fail)
        refine (HIF.out _).mono ?_
        rintro e w2 ⟨rfl, rfl⟩
        go_wp2_with (fail)
        refine (HIG.out _).mono ?_
        rintro e w3 ⟨rfl, rfl⟩
        obtain ⟨y0, y1, y2⟩ := HK.out _ B1.out
        go_wp2_with (fail)
        refine (HAR.out _ B1.out).mono ?_
        rintro e w4 ⟨A4, c4, rfl, own4, bel4⟩
        have B4 := Lib.hid (B1.out.trans (bel4.mono B1.out.size))
        have R4 := Lib.hid (RdA.of_own own4)
        obtain ⟨v1, hv1⟩ : ∃ x, x = w4.alloc (.cells #[.int .i64 f] 2) := ⟨_, rfl⟩
        have c1 : Below w4.heap.size w4 v1 := by rw [hv1]; exact (Below.refl _ _).alloc (Nat.le_refl _) _
        have o1 : v1.ownsRow w.heap.size 2 1 (.slice (some ⟨w4.heap.size, 0, none⟩) 1 1) 1 ([f].map (Value.int .i64)) := ⟨rfl, .inr ⟨w4.heap.size, 1, #[.int .i64 f], rfl, Nat.le_trans HB0.out.size B4.out.size, by rw [hv1]; exact heap_alloc_new _ _, Nat.le_refl _, by simp [maxLen], rfl, rfl⟩⟩
        have C1 := Lib.hid (B4.out.trans (c1.mono B4.out.size))
        have HP2 := Lib.hid (HPT.out A4 c4 _ _ v1 w.heap.size (Nat.le_trans HB0.out.size C1.out.size) o1 ((R4.out.below c1).more c1.size))
        clear own4 bel4 y0 y1 y2 c1 o1
        go_wp2_with (fail)
        rw [← hv1]
        clear hv1
        refine HP2.out.mono ?_
        rintro e w5 ⟨⟨A5, c5, rfl, own5⟩, bel5⟩
        have HG : Hid (GivesB w X true (.returned (.tuple #[.slice A5 X.length c5, .bool true])) w5) := Lib.hid ⟨A5, c5, rfl, own5, HB0.out.trans ((C1.out.trans (bel5.mono C1.out.size)).mono HB0.out.size)⟩
        clear own5 bel5
        go_wp2
        go_ret2
        exact HG.out
set_option maxRecDepth 100000 in
set_option maxHeartbeats 1000000 in
theorem isLink_any (h : NH) (N : Nt) (x : Int) (w : World) (hl : N.l.length ≤ 1048576) :
    Calls Tryd.prog 70 #[.agg #[.slice h.A N.w.length h.c, .slice h.L N.l.length h.d, .slice h.C N.c.length h.e], .int .i64 x] w fun e w' => e = .returned (.bool (inW N.l.length x)) ∧ Below w.heap.size w w' := by
  obtain ⟨w0, hw0⟩ : ∃ w0, w0 = w.alloc (.cells #[.slice h.A N.w.length h.c, .slice h.L N.l.length h.d, .slice h.C N.c.length h.e] 31) := ⟨_, rfl⟩
  obtain ⟨hb, hh, hsz⟩ := box3_any w (.slice h.A N.w.length h.c) (.slice h.L N.l.length h.d) (.slice h.C N.c.length h.e) 31
  rw [← hw0] at hb hh hsz
  have hs0 : w.heap.size + 1 ≤ w0.heap.size := by omega
  have HK : Hid (∀ w', Below w0.heap.size w0 w' → w'.cell? ⟨w.heap.size, 0, none⟩ = some (.slice h.A N.w.length h.c) ∧ w'.cell? ⟨w.heap.size, 1, none⟩ = some (.slice h.L N.l.length h.d) ∧ w'.cell? ⟨w.heap.size, 2, none⟩ = some (.slice h.C N.c.length h.e)) := Lib.hid fun w' hw => three_cells ((hw.block _ (by omega)).trans hh)
  have HB0 := Lib.hid hb
  obtain ⟨y0, y1, y2⟩ := three_cells hh
  clear hb hh hsz
  by_cases h0 : 0 ≤ x
  · have hd : decide (0 ≤ x) = true := decide_eq_true h0
    have HE : Hid (decide (x < (N.l.length : Int)) = inW N.l.length x) := Lib.hid (by
      unfold inW
      exact decide_eq_decide.2 (by omega))
    clear h0
    go_enter Tryd.func70, Tryd.ntmps70
    go_upto_region 1 with (fail)
    rw [← hw0]
    clear hw0
    go_wp2
    go_ret
    exact ⟨ret_bool HE.out, HB0.out⟩
  · have hd : decide (0 ≤ x) = false := decide_eq_false h0
    have HE : Hid (false = inW N.l.length x) := Lib.hid (by
      unfold inW
      exact (decide_eq_false (by omega)).symm)
    clear h0
    go_enter Tryd.func70, Tryd.ntmps70
    go_upto_region 1 with (fail)
    rw [← hw0]
    clear hw0
    go_wp2
    go_ret
    exact ⟨ret_bool HE.out, HB0.out⟩
set_option maxRecDepth 100000 in
set_option maxHeartbeats 1000000 in
theorem swPath_impl (h : NH) (N : Nt) (s : List Int) (S : Option Addr) (sc : Nat) (f g : Int) (w : World) (r : RdN w w.heap.size h N) (sm : SmallN N) (hsl : s.length ≤ 1048576) (rS : RdI w w.heap.size S s.length s) (ht : Arit w) (hu : Dual w) :
    Calls Tryd.prog 39 #[.agg #[.slice h.A N.w.length h.c, .slice h.L N.l.length h.d, .slice h.C N.c.length h.e], .slice S s.length sc, .int .i64 f, .int .i64 g] w (GivesB w (spL N s f g) (spB N s f g)) := by
  have hlm := sm.l
  obtain ⟨w0, hw0⟩ : ∃ w0, w0 = w.alloc (.cells #[.slice h.A N.w.length h.c, .slice h.L N.l.length h.d, .slice h.C N.c.length h.e] 31) := ⟨_, rfl⟩
  obtain ⟨hb, hh, hsz⟩ := box3_any w (.slice h.A N.w.length h.c) (.slice h.L N.l.length h.d) (.slice h.C N.c.length h.e) 31
  rw [← hw0] at hb hh hsz
  have hs0 : w.heap.size + 1 ≤ w0.heap.size := by omega
  have HK : Hid (∀ w', Below w0.heap.size w0 w' → w'.cell? ⟨w.heap.size, 0, none⟩ = some (.slice h.A N.w.length h.c) ∧ w'.cell? ⟨w.heap.size, 1, none⟩ = some (.slice h.L N.l.length h.d) ∧ w'.cell? ⟨w.heap.size, 2, none⟩ = some (.slice h.C N.c.length h.e)) := Lib.hid fun w' hw => three_cells ((hw.block _ (by omega)).trans hh)
  have HT := Lib.hid (isTree_impl h N s S sc w0 ((r.below hb).more hb.size) sm hsl ((rS.below hb).more hb.size) (ht.below hb ht.lt) (hu.below hb hu.lt))
  have HIF := Lib.hid (fun wx => isLink_any h N f wx hlm)
  have HIG := Lib.hid (fun wx => isLink_any h N g wx hlm)
  have HR := Lib.hid (fun (w' : World) (hw : Below w0.heap.size w0 w') => ((r.below (hb.trans (hw.mono hb.size))).more (Nat.le_trans hb.size hw.size)))
  have HRS := Lib.hid (fun (w' : World) (hw : Below w0.heap.size w0 w') => show RdI w' w'.heap.size S s.length s from ((rS.below (hb.trans (hw.mono hb.size))).more (Nat.le_trans hb.size hw.size)))
  have HTT := Lib.hid (fun (w' : World) (hw : Below w0.heap.size w0 w') => ht.below (hb.trans (hw.mono hb.size)) ht.lt)
  have HUU := Lib.hid (fun (w' : World) (hw : Below w0.heap.size w0 w') => hu.below (hb.trans (hw.mono hb.size)) hu.lt)
  have HB0 := Lib.hid hb
  obtain ⟨y0, y1, y2⟩ := three_cells hh
  clear hb hh hsz r rS ht hu
  cases hit : itB N s with
  | false =>
    have HP := Lib.hid (spB_t (f := f) (g := g) hit)
    have HPL := Lib.hid (spL_no HP.out)
    rw [HP.out, HPL.out]
    rw [hit] at HT
    clear hit
    go_enter Tryd.func39, Tryd.ntmps39
    go_wp2_with (fail)
    rw [← hw0]
    clear hw0
    refine HT.out.mono ?_
    rintro e w1 ⟨rfl, bel⟩
    have HG := Lib.hid (givesB_nilp w w1 (HB0.out.trans (bel.mono HB0.out.size)))
    clear bel y0 y1 y2 HT
    go_wp2
    go_ret2
    exact HG.out
  | true =>
    rw [hit] at HT
    cases hif : inW N.l.length f with
    | false =>
      have HP := Lib.hid (spB_f (s := s) (g := g) hif)
      have HPL := Lib.hid (spL_no HP.out)
      rw [HP.out, HPL.out]
      rw [hif] at HIF
      clear hit hif
      go_enter Tryd.func39, Tryd.ntmps39
      go_wp2_with (fail)
      rw [← hw0]
      clear hw0
      refine HT.out.mono ?_
      rintro e w1 ⟨rfl, bel⟩
      have B1 := Lib.hid bel
      clear bel y0 y1 y2 HT
      obtain ⟨y0, y1, y2⟩ := HK.out _ B1.out
      go_wp2_with (fail)
      refine (HIF.out _).mono ?_
      rintro e w2 ⟨rfl, bel2⟩
      have HG := Lib.hid (givesB_nilp w w2 (HB0.out.trans ((B1.out.trans (bel2.mono B1.out.size)).mono HB0.out.size)))
      clear bel2 y0 y1 y2
      go_wp2
      go_ret2
      exact HG.out
    | true =>
      rw [hif] at HIF
      cases hig : inW N.l.length g with
      | false =>
        have HP := Lib.hid (spB_g (s := s) (f := f) hig)
        have HPL := Lib.hid (spL_no HP.out)
        rw [HP.out, HPL.out]
        rw [hig] at HIG
        clear hit hif hig
        go_enter Tryd.func39, Tryd.ntmps39
        go_wp2_with (fail)
        rw [← hw0]
        clear hw0
        refine HT.out.mono ?_
        rintro e w1 ⟨rfl, bel⟩
        have B1 := Lib.hid bel
        clear bel y0 y1 y2 HT
        obtain ⟨y0, y1, y2⟩ := HK.out _ B1.out
        go_wp2_with (fail)
        refine (HIF.out _).mono ?_
        rintro e w2 ⟨rfl, bel2⟩
        have B2 := Lib.hid (B1.out.trans (bel2.mono B1.out.size))
        clear bel2 y0 y1 y2
        obtain ⟨y0, y1, y2⟩ := HK.out _ B2.out
        go_wp2_with (fail)
        refine (HIG.out _).mono ?_
        rintro e w3 ⟨rfl, bel3⟩
        have HG := Lib.hid (givesB_nilp w w3 (HB0.out.trans ((B2.out.trans (bel3.mono B2.out.size)).mono HB0.out.size)))
        clear bel3 y0 y1 y2
        go_wp2
        go_ret2
        exact HG.out
      | true =>
        rw [hig] at HIG
        rw [spB_yes hit hif hig]
        have hsw := itB_sw hit
        have hv := (isSw_yes hsw).1
        have h48 := (valN_size hv).2
        have hai := arcs_in (s := s) hv
        obtain ⟨P, hrun, _⟩ := tree_one hai (itB_tree hit)
        have hma := mgU_len N s N.w.length
        have hwm := sm.w
        have HSB := Lib.hid (fun (w' : World) (hw : Below w0.heap.size w0 w') => switchableOf_any h N w' hv (HR.out _ hw) sm (HTT.out _ hw) (HUU.out _ hw))
        have HGR := Lib.hid (graph_same hsw)
        have HG0 := Lib.hid (fun A P c d (w' : World) rA rP rS => graph_any N s A P S c d sc w' hsw rA rP rS)
        rw [HGR.out] at HG0
        have HPT := Lib.hid (fun B d (w' : World) rA => pathIn_any hai hrun h48 (by omega) B d g N.l.length [f] 0 (-1) f w' rfl rfl (Way.one _ f) (fun x hx => by rw [List.mem_singleton.1 hx]; exact hif) (by omega) (.inl ⟨rfl, rfl⟩) rA)
        have hpf := spL_yes hit hif hig
        rw [hpf] at HPT
        clear hit hif hig hsw hv hai hrun hpf hma HTT HUU HGR hwm
        generalize spL N s f g = X at *
        generalize mgU N s N.w.length = ar at *
        go_enter Tryd.func39, Tryd.ntmps39
        go_wp2_with (fail)
        rw [← hw0]
        clear hw0
        refine HT.out.mono ?_
        rintro e w1 ⟨rfl, bel⟩
        have B1 := Lib.hid bel
        clear bel y0 y1 y2 HT
        obtain ⟨y0, y1, y2⟩ := HK.out _ B1.out
        go_wp2_with (fail)
        refine (HIF.out _).mono ?_
        rintro e w2 ⟨rfl, bel2⟩
        have B2 := Lib.hid (B1.out.trans (bel2.mono B1.out.size))
        clear bel2 y0 y1 y2
        obtain ⟨y0, y1, y2⟩ := HK.out _ B2.out
        go_wp2_with (fail)
        refine (HIG.out _).mono ?_
        rintro e w3 ⟨rfl, bel3⟩
        have B3 := Lib.hid (B2.out.trans (bel3.mono B2.out.size))
        clear bel3 y0 y1 y2
        obtain ⟨y0, y1, y2⟩ := HK.out _ B3.out
        go_wp2_with (fail)
        refine (HSB.out _ B3.out).mono ?_
        rintro e w4 ⟨A4, c4, P4, d4, rfl, rA, rP, bel4⟩
        have B4 := Lib.hid (B3.out.trans (bel4.mono B3.out.size))
        have RA := Lib.hid rA; have RP := Lib.hid rP
        clear bel4 y0 y1 y2 rA rP
        go_wp2_with (fail)
        refine (HG0.out _ _ _ _ _ RA.out RP.out (HRS.out _ B4.out)).mono ?_
        rintro e w5 ⟨A5, c5, rfl, own5, bel5⟩
        have B5 := Lib.hid (B4.out.trans (bel5.mono B4.out.size))
        have R5 := Lib.hid (RdA.of_own own5)
        clear own5 bel5
        go_wp2_with (fail)
        refine (HPT.out _ _ _ R5.out).mono ?_
        rintro e w6 ⟨⟨b6, c6, rfl, own6⟩, bel6⟩
        have HG : Hid (GivesB w X true (.returned (.tuple #[.slice (some ⟨b6, 0, none⟩) X.length c6, .bool true])) w6) := Lib.hid ⟨_, c6, rfl, own6.mono (Nat.le_trans HB0.out.size B5.out.size), HB0.out.trans ((B5.out.trans (bel6.mono B5.out.size)).mono HB0.out.size)⟩
        clear own6 bel6
        go_wp2
        go_ret2
        exact HG.out
theorem sSwPath_w (h : NH) (N : Nt) (S : Option Addr) (n sc : Nat) (s : List Int) (f g : Int) (w : World) (r : RdN w w.heap.size h N) (rS : RdI w w.heap.size S n s) (hsl : n ≤ 1048576) (hn : N.w.length ≤ 1048576) (hl : N.l.length ≤ 1048576) (hc : N.c.length ≤ 1048576) :
    Calls Tryd.prog 38 #[.agg #[.slice h.A N.w.length h.c, .slice h.L N.l.length h.d, .slice h.C N.c.length h.e], .slice S n sc, .int .i64 f, .int .i64 g] w (GivesB w (spL N s f g) (spB N s f g)) := by
  obtain rfl := rS.1
  exact sSwPath_any h N s S sc f g w r hsl rS hn hl hc
theorem swPath_w (h : NH) (N : Nt) (S : Option Addr) (n sc : Nat) (s : List Int) (f g : Int) (w : World) (r : RdN w w.heap.size h N) (sm : SmallN N) (rS : RdI w w.heap.size S n s) (hsl : n ≤ 1048576) (ht : Arit w) (hu : Dual w) :
    Calls Tryd.prog 39 #[.agg #[.slice h.A N.w.length h.c, .slice h.L N.l.length h.d, .slice h.C N.c.length h.e], .slice S n sc, .int .i64 f, .int .i64 g] w (GivesB w (spL N s f g) (spB N s f g)) := by
  obtain rfl := rS.1
  exact swPath_impl h N s S sc f g w r sm hsl rS ht hu
end Go.Proofs.YtkhngbfhgpaghaaDoor
