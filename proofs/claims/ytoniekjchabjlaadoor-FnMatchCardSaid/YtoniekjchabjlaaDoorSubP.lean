/- The draw of a pattern and a formula. -/
import Derived.Test.YtoniekjchabjlaaDoorSubO
import Derived.Test.YtoniekjchabjlaaDoorSubB
namespace Go.Proofs.YtoniekjchabjlaaDoor
open Go.ChangeAt Go.ChangeShapes Go.RowKit Go.WideShapes

def DrawnPF (w : World) (e : Ending) (w' : World) : Prop :=
  ∃ (P : List Int) (A : Option Addr) (c : Nat) (F : List Int) (B : Option Addr) (d : Nat), e = .returned (.tuple #[.slice A P.length c, .slice B F.length d]) ∧ P.length ≤ 64 ∧ F.length ≤ 64 ∧ P.length ≤ c ∧ F.length ≤ d ∧ RdI w' w'.heap.size A P.length P ∧ RdI w' w'.heap.size B F.length F ∧ Below w.heap.size w w'
theorem own_farset {w : World} {base n size ba j : Nat} {e : TypeId} {v : Value} {xs : List Value} {u : Value} (h : w.ownsRow base e size v n xs) (hne : ∀ k, v.ownBlock = some k → k < ba) : (w.setCell ⟨ba, j, none⟩ u).ownsRow base e size v n xs :=
  own_same h fun k hk => Below.heap_setCell _ _ _ _ (by have := hne k hk; show k ≠ ba; omega)

set_option maxRecDepth 100000 in
set_option maxHeartbeats 8000000 in
theorem drawMatch_any (A : Option Addr) (n c : Nat) (code : List Int) (w : World) (h : RdB w w.heap.size A n code) (hn : n ≤ 4096) :
    Calls Tryd.prog 19 #[.slice A n c] w (DrawnPF w) := by
  go_enter Tryd.func19, Tryd.ntmps19
  go_wp2_with (fail)
  refine (fromCode_any A n c code w h hn).mono ?_
  rintro e w1 ⟨rfl, S1, B1⟩
  have hg1 := S1.lt
  go_wp2_with (fail)
  refine (pick_any _ n c A code 16 w1 S1 (by omega) (by omega)).mono ?_
  rintro e w2 ⟨fr, f1, f2, rfl, S2, G2⟩
  have B2 := B1.grown G2 B1.size (fun k hk => by injection hk with hk; omega)
  clear B1 S1
  go_wp2_with (fail)
  refine (pick_any _ n c A code 7 w2 S2 (by omega) (by omega)).mono ?_
  rintro e w3 ⟨t, t1, t2, rfl, S3, G3⟩
  have B3 := B2.grown G3 B2.size (fun k hk => by injection hk with hk; omega)
  have hg3 := S3.lt
  clear B2 S2 G2 G3
  have hwt : IntKind.i64.wrap (1 + t) = 1 + t := IntWalk.i64_in _ (by omega)
  obtain ⟨z, hz⟩ : ∃ z : Nat, (z : Int) = 1 + t := ⟨(1 + t).toNat, by omega⟩
  have HD := Lib.hid (drawForm_any _ n c A code fr z w3 S3 (by omega) (by omega))
  rw [hz] at HD
  have hz4 : z ≤ 7 := by omega
  have HB3 := Lib.hid B3
  clear S3 hz B3
  go_wp2_with (fail)
  refine HD.out.mono ?_
  rintro e w5 ⟨P, A5, c5, rfl, l1, l2, l3, own5, S5, G5⟩
  have HB5 := Lib.hid (HB3.out.grown G5 HB3.out.size (fun k hk => by injection hk with hk; omega))
  have HO5 := Lib.hid own5
  have hcap5 := (own_cap own5).1
  have hP64 : P.length ≤ 64 := by omega
  have hs5 := G5.size
  have HDB := Lib.hid (drawBinding_any _ n c A code w5 S5)
  clear own5 S5 G5 HD HB3 l2 l3
  go_wp2_with (fail)
  refine HDB.out.mono ?_
  rintro e w6 ⟨hs, gq, m, cq, qs, rfl, hm, hq, o6, _, S6, G6⟩
  have hm2 : m ≤ 1048576 := by omega
  have HB6 := Lib.hid (HB5.out.grown G6 HB5.out.size (fun k hk => by injection hk with hk; omega))
  have HO6 := Lib.hid (own_keep HO5.out G6 hg3)
  have HS6 := Lib.hid S6
  have hs6 := G6.size
  have HSF := Lib.hid (sSubstForm_any A5 P.length c5 P (some ⟨gq, 0, none⟩) m cq qs w6 (RdI.of_own HO6.out) (o6.rd hq) hm2)
  clear o6 S6 G6 HDB HB5
  cases hsf : sfB P qs with
  | false =>
    rw [hsf, sf_no hsf] at HSF
    go_wp2_with (fail)
    refine HSF.out.mono ?_
    rintro e w7 ⟨A7, c7, rfl, _, bel7⟩
    have HB7 := Lib.hid (HB6.out.trans (bel7.mono HB6.out.size))
    have HO7 := Lib.hid (own_below HO6.out bel7 (Nat.le_refl _))
    have HS7 := Lib.hid (HS6.out.below bel7 HS6.out.lt)
    clear bel7 HSF HB6 HO6 HS6 HO5
    go_wp2_with (fail)
    refine (drawAny_any _ n c A code w7 HS7.out).mono ?_
    rintro e w8 ⟨L, A8, c8, rfl, m1, _, o8, S8, G8⟩
    have HB8 := Lib.hid (HB7.out.grown G8 HB7.out.size (fun k hk => by injection hk with hk; omega))
    have HR : Hid (RdI w8 w8.heap.size A5 P.length P ∧ RdI w8 w8.heap.size A8 L.length L) := Lib.hid ⟨RdI.of_own (own_keep HO7.out G8 hg3), RdI.of_own o8⟩
    have hcap8 := (own_cap o8).1
    clear o8 S8 G8
    go_wp2
    go_ret2
    exact ⟨P, A5, c5, L, A8, c8, rfl, hP64, m1, hcap5, hcap8, HR.out.1, HR.out.2, HB8.out⟩
  | true =>
    obtain ⟨e1, _, _, e24, e3⟩ := sf_yes hsf
    have hF1 := (valid_len e3)
    rw [hsf, e1] at HSF
    generalize sbL qs P = F at *
    have hF0 : 1 ≤ F.length := by omega
    clear e1 e3 hF1 hsf
    go_wp2_with (fail)
    refine HSF.out.mono ?_
    rintro e w7 ⟨A7, c7, rfl, o7, bel7⟩
    have HB7 := Lib.hid (HB6.out.trans (bel7.mono HB6.out.size))
    have HP7 := Lib.hid (own_below HO6.out bel7 (Nat.le_refl _))
    have HS7 := Lib.hid (HS6.out.below bel7 HS6.out.lt)
    have HF7 := Lib.hid o7
    have hcap7 := (own_cap o7).1
    have hg6 := HS6.out.lt
    have hPb : ∀ k, (Value.slice A5 P.length c5).ownBlock = some k → k < w6.heap.size := fun k hk => (HO6.out.lt k hk).2
    have HPb := Lib.hid hPb
    clear bel7 HSF HB6 HO6 HS6 HO5 o7 hPb
    go_wp2_with (fail)
    refine (pick_any _ n c A code 5 w7 HS7.out (by omega) (by omega)).mono ?_
    rintro e w8 ⟨r, r1, r2, rfl, S8, G8⟩
    have HB8 := Lib.hid (HB7.out.grown G8 HB7.out.size (fun k hk => by injection hk with hk; omega))
    have HP8 := Lib.hid (own_keep HP7.out G8 hg3)
    have HF8 := Lib.hid (own_keep HF7.out G8 hg6)
    have HS8 := Lib.hid S8
    clear S8 G8 HB7 HP7 HF7 HS7
    by_cases hr : r = 0
    · have hr0 : (r == 0) = true := by rw [hr]; rfl
      clear hr
      go_wp2_with (fail)
      refine (drawAny_any _ n c A code w8 HS8.out).mono ?_
      rintro e w9 ⟨L, A8, c8, rfl, m1, _, o8, S9, G9⟩
      have HB9 := Lib.hid (HB8.out.grown G9 HB8.out.size (fun k hk => by injection hk with hk; omega))
      have HR : Hid (RdI w9 w9.heap.size A5 P.length P ∧ RdI w9 w9.heap.size A8 L.length L) := Lib.hid ⟨RdI.of_own (own_keep HP8.out G9 hg3), RdI.of_own o8⟩
      have hcap8 := (own_cap o8).1
      clear o8 S9 G9
      go_wp2
      go_ret2
      exact ⟨P, A5, c5, L, A8, c8, rfl, hP64, m1, hcap5, hcap8, HR.out.1, HR.out.2, HB9.out⟩
    · have hr0 : (r == 0) = false := by simpa using hr
      clear hr
      go_wp2_with (fail)
      refine (pick_any _ n c A code 4 w8 HS8.out (by omega) (by omega)).mono ?_
      rintro e w9 ⟨u, u1, u2, rfl, S9, G9⟩
      have HB9 := Lib.hid (HB8.out.grown G9 HB8.out.size (fun k hk => by injection hk with hk; omega))
      have HP9 := Lib.hid (own_keep HP8.out G9 hg3)
      have HF9 := Lib.hid (own_keep HF8.out G9 hg6)
      have HS9 := Lib.hid S9
      clear S9 G9 HB8 HP8 HF8 HS8
      by_cases hu : u = 0
      · have hu0 : (u == 0) = true := by rw [hu]; rfl
        clear hu
        go_wp2_with (fail)
        refine (pick_any _ n c A code (F.length : Int) w9 HS9.out (by omega) (by omega)).mono ?_
        rintro e w10 ⟨j0, j1, j2, rfl, S10, G10⟩
        obtain ⟨j, rfl⟩ : ∃ q : Nat, j0 = q := ⟨j0.toNat, by omega⟩
        have HB10 := Lib.hid (HB9.out.grown G10 HB9.out.size (fun k hk => by injection hk with hk; omega))
        have HP10 := Lib.hid (own_keep HP9.out G10 hg3)
        have HF10 := Lib.hid (own_keep HF9.out G10 hg6)
        have HS10 := Lib.hid S10
        clear S10 G10 HB9 HP9 HF9 HS9
        go_wp2_with (fail)
        refine (drawAtom_any _ n c A code w10 HS10.out).mono ?_
        rintro e w11 ⟨y, y1, y2, rfl, S11, G11⟩
        have HB11 := Lib.hid (HB10.out.grown G11 HB10.out.size (fun k hk => by injection hk with hk; omega))
        have HP11 := Lib.hid (own_keep HP10.out G11 hg3)
        have o11 := own_keep HF10.out G11 hg6
        obtain ⟨ba, capa, hva, _, _⟩ := o11.form (by omega)
        have hA7 : A7 = some ⟨ba, 0, none⟩ := by injection hva
        subst hA7
        have hjl : j < F.length := by omega
        have hcell := o11.cellAt (g := ba) j (by omega)
        obtain ⟨o, hoo⟩ : ∃ o, (F.map (Value.int .i64))[j]? = some o := ⟨_, List.getElem?_eq_getElem (by simpa using hjl)⟩
        rw [hoo] at hcell
        have hfr := o11.frozenAt (g := ba) j
        have hbb := (o11.lt ba rfl).1
        obtain ⟨s1, s2⟩ := o11.stored j (.int .i64 y)
        have e0 : (F.map (Value.int .i64)).set j (.int .i64 y) = (F.set j y).map (Value.int .i64) := by rw [List.map_set]
        rw [e0] at s1
        have HR : Hid (RdI (w11.setCell ⟨ba, j, none⟩ (.int .i64 y)) (w11.setCell ⟨ba, j, none⟩ (.int .i64 y)).heap.size A5 P.length P ∧ RdI (w11.setCell ⟨ba, j, none⟩ (.int .i64 y)) (w11.setCell ⟨ba, j, none⟩ (.int .i64 y)).heap.size (some ⟨ba, 0, none⟩) F.length (F.set j y) ∧ Below w.heap.size w (w11.setCell ⟨ba, j, none⟩ (.int .i64 y))) := Lib.hid
          ⟨RdI.of_own (own_farset HP11.out fun k hk => Nat.lt_of_lt_of_le (HPb.out k hk) hbb), RdI.of_own s1, HB11.out.grown s2 HB11.out.size (fun k hk => by injection hk with hk; omega)⟩
        have hle : (F.set j y).length = F.length := by simp
        rw [← hle] at HR
        clear s1 s2 e0 o11 S11 G11 hva hoo hbb
        go_wp2
        go_ret2
        exact ⟨P, A5, c5, F.set j y, some ⟨ba, 0, none⟩, c7, by rw [hle]; rfl, hP64, by omega, hcap5, by omega, HR.out.1, HR.out.2.1, HR.out.2.2⟩
      · have hu0 : (u == 0) = false := by simpa using hu
        have HR : Hid (RdI w9 w9.heap.size A5 P.length P ∧ RdI w9 w9.heap.size A7 F.length F) := Lib.hid ⟨RdI.of_own HP9.out, RdI.of_own HF9.out⟩
        clear hu
        go_wp2
        go_ret2
        exact ⟨P, A5, c5, F, A7, c7, rfl, hP64, by omega, hcap5, hcap7, HR.out.1, HR.out.2, HB9.out⟩
end Go.Proofs.YtoniekjchabjlaaDoor
