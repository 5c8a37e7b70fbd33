/- The model's search for a path. -/
import Derived.Test.YtkhngbfhgpaghaaDoorTpM
import Derived.Test.YtkhngbfhgpaghaaDoorSmT
import Derived.Test.YtkhngbfhgpaghaaDoorCpyX
import Derived.Deep.RegionHeldLaw
import Derived.Deep.DeepCutAuto
import Derived.BigQuiet
namespace Go.Proofs.YtkhngbfhgpaghaaDoor
set_option linter.unusedSimpArgs false
set_option linter.unusedVariables false
open Go.ChangeAt Go.ChangeShapes Go.RowKit Go.WideShapes

set_option maxRecDepth 100000 in
set_option maxHeartbeats 1000000 in
theorem sHas_any (A : Option Addr) (n c : Nat) (p : List Int) (x : Int) (w : World) (hl : n ≤ 1048576) (r : RdI w w.heap.size A n p) :
    Calls Tryd.prog 99 #[.slice A n c, .int .i64 x] w fun e w' => e = .returned (.bool (decide (x ∈ p))) ∧ w' = w := by
  have RS := Lib.hid r
  have hlen := r.1
  have HLN := Lib.hid hlen
  clear r hlen
  go_enter Tryd.func99, Tryd.ntmps99
  go_wp2
  go_loopw [5] (fun i wr => ∃ k : Nat, k ≤ n ∧ i = .int .i64 k ∧ (∀ m, m < k → ¬ p.getD m 0 = x) ∧ wr = w) (fun i _ => n - (intOf i).toNat)
  case atStart => exact ⟨0, Nat.zero_le _, rfl, fun m hm => absurd hm (by omega), rfl⟩
  case round =>
    obtain ⟨k, hk, rfl, hpl, rfl⟩ := hrel
    have HP := Lib.hid hpl
    clear hpl
    by_cases hlt : k < n
    · obtain ⟨b, off, hA, hbb, hcells⟩ := RS.out.2 (show 0 < n by omega)
      have x0 := hcells k hlt
      have HM := Lib.hid (getL_mem (d := 0) (show k < p.length by have := HLN.out; omega))
      have HPP : Hid (¬ p.getD k 0 = x → ∀ m, m < k + 1 → ¬ p.getD m 0 = x) := Lib.hid fun e m hm => by
        by_cases e2 : m < k
        · exact HP.out m e2
        · obtain rfl : m = k := by omega
          exact e
      generalize p.getD k 0 = z at *
      subst hA
      clear hcells
      by_cases hz : z = x
      · have hd : (z == x) = true := by simp [hz]
        have HE : Hid (true = decide (x ∈ p)) := Lib.hid (decide_eq_true (by rw [← hz]; exact HM.out)).symm
        clear hz
        go_wp2
        go_ret
        exact ⟨ret_bool HE.out, rfl⟩
      · have hd : (z == x) = false := by simp [hz]
        have HQ := Lib.hid (HPP.out hz)
        clear hz
        go_wp2
        go_roundw
        case rel => exact ⟨k + 1, by omega, by go_num, HQ.out, by first | rfl | trivial⟩
        case measure => simp [intOf]; omega
    · have hkl : k = n := by omega
      subst hkl
      have HE : Hid (false = decide (x ∈ p)) := Lib.hid (decide_eq_false fun hm => by
        obtain ⟨i, hi, e⟩ := tpMemAt hm
        exact HP.out i (by have := HLN.out; omega) e).symm
      go_wp2
      go_ret
      exact ⟨ret_bool HE.out, rfl⟩
/-- What one arc gives to the model's search. -/
def mfA (m : Nat) (ar : List Ac) (p : List Int) (u g : Int) (a : Ac) : Option (List Int) := match ox a u with
  | none => none
  | some v => if v ∈ p then none else mf m ar (p ++ [v]) g
theorem mf_end {m : Nat} {ar : List Ac} {p : List Int} {u g : Int} (hu : p.getD (p.length - 1) 0 = u) (h : u = g) : mf (m + 1) ar p g = some p := by
  unfold mf; rw [hu, if_pos h]
theorem mf_go {m : Nat} {ar : List Ac} {p : List Int} {u g : Int} (hu : p.getD (p.length - 1) 0 = u) (h : ¬ u = g) : mf (m + 1) ar p g = ar.findSome? (mfA m ar p u g) := by
  rw [← hu] at h ⊢
  unfold mf; rw [if_neg h]; rfl
theorem some_at {α β : Type} {d : α} {f : α → Option β} {r : β} : ∀ {l : List α} {k : Nat}, k < l.length → (∀ j, j < k → f (l.getD j d) = none) → f (l.getD k d) = some r → l.findSome? f = some r
  | [], _, h, _, _ => absurd h (by simp)
  | a :: l, 0, _, _, e => by
    simp only [List.findSome?_cons]
    rw [show f a = some r from e]
  | a :: l, k + 1, h, hn, e => by
    simp only [List.findSome?_cons]
    rw [show f a = none from hn 0 (by omega)]
    exact some_at (k := k) (by simpa using h) (fun j hj => hn (j + 1) (by omega)) e
theorem some_none {α β : Type} {d : α} {f : α → Option β} {l : List α} (h : ∀ j, j < l.length → f (l.getD j d) = none) : l.findSome? f = none := by
  refine List.findSome?_eq_none_iff.2 fun a ha => ?_
  obtain ⟨i, hi, rfl⟩ := List.getElem_of_mem ha
  have := h i hi
  simpa [List.getD, hi] using this
/-- What the model's search leaves: the path in memory of its own, or the row that it had. -/
def GivesPt (w : World) (lo : Nat) (o : Option (List Int)) (e : Ending) (w' : World) : Prop :=
  (match o with
    | some q => ∃ A c, e = .returned (.tuple #[.slice A q.length c, .bool true]) ∧ w'.ownsRow lo 2 1 (.slice A q.length c) q.length (q.map (Value.int .i64))
    | none => ∃ v, e = .returned (.tuple #[v, .bool false])) ∧ Below w.heap.size w w'
set_option maxRecDepth 100000 in
set_option maxHeartbeats 1000000 in
theorem sPath_any {n : Nat} {ar : List Ac} (hin : ArcsIn n ar) (hn : n ≤ 48) (hal : ar.length ≤ 1048576) (B : Option Addr) (d : Nat) (g : Int) : ∀ (m : Nat) (p : List Int) (l : Nat) (A : Option Addr) (c lo : Nat) (w : World), p.length = l + 1 → Way ar p → (∀ x ∈ p, inW n x = true) → l + m = n → lo ≤ w.heap.size → w.ownsRow lo 2 1 (.slice A (l + 1) c) (l + 1) (p.map (Value.int .i64)) → RdA w w.heap.size B ar.length ar →
    Calls Tryd.prog 69 #[.slice B ar.length d, .slice A (l + 1) c, .int .i64 g] w (GivesPt w lo (mf m ar p g)) := by
  intro m
  induction m with
  | zero =>
    intro p l A c lo w hp hw hi hm
    have := way_few hw hi
    omega
  | succ m ih =>
    intro p l A c lo w hp hw hi hm hlo hO r
    obtain ⟨i0, hi0, hz0, hz1, hz2⟩ := info_parts info_i64
    have HI := Lib.hid hi0; have HZ0 := Lib.hid hz0; have HZ1 := Lib.hid hz1; have HZ2 := Lib.hid hz2
    have IH := Lib.hid (fun (v : Int) (A' : Option Addr) (c' : Nat) (w' : World) (hpl : (p ++ [v]).length = l + 1 + 1) hw' hi' (hlo' : lo ≤ w'.heap.size) hO' r' => ih (p ++ [v]) (l + 1) A' c' lo w' hpl hw' hi' (by omega) hlo' hO' r')
    clear ih
    have RP : RdI w w.heap.size A (l + 1) p := by
      have q := RdI.of_own hO
      exact q
    have hll : p.getD (p.length - 1) 0 = p.getD l 0 := by rw [hp, Nat.add_sub_cancel]
    obtain ⟨u, hu⟩ : ∃ u, p.getD l 0 = u := ⟨_, rfl⟩
    rw [hu] at hll
    obtain ⟨gb, cap, hv, hbg, hgl⟩ := hO.form (by omega)
    have hA : A = some ⟨gb, 0, none⟩ ∧ c = cap := by injection hv with a b c'; exact ⟨a, c'⟩
    obtain ⟨rfl, rfl⟩ := hA
    have hp0 := own_int_at hO (show l < l + 1 by omega)
    rw [hu] at hp0
    have hl48 : l + 1 ≤ 48 := by omega
    have HPL := Lib.hid hp
    have hOH := Lib.hid hO
    clear hv hi0 hz0 hz1 hz2 hp
    by_cases hg : u = g
    · have hd : (u == g) = true := by simp [hg]
      have HE := Lib.hid (mf_end (m := m) (ar := ar) hll hg)
      have HG : Hid (GivesPt w lo (some p) (.returned (.tuple #[.slice (some ⟨gb, 0, none⟩) (l + 1) c, .bool true])) w) := Lib.hid ⟨⟨_, c, by rw [HPL.out], by rw [HPL.out]; exact hOH.out⟩, Below.refl _ _⟩
      rw [HE.out]
      clear hg hO r hw hi hll hu RP
      go_enter Tryd.func69, Tryd.ntmps69
      go_wp2
      go_ret2
      exact HG.out
    · have hd : (u == g) = false := by simp [hg]
      rw [mf_go hll hg]
      have HSA := Lib.hid (fun (rr : List Int) (k : Nat) (hk : k < ar.length) h1 h2 => some_at (d := Ac.nil) (f := mfA m ar p u g) (r := rr) (l := ar) (k := k) hk h1 h2)
      have HSN := Lib.hid (fun h => some_none (d := Ac.nil) (f := mfA m ar p u g) (l := ar) h)
      have HR := Lib.hid (fun (wx : World) (hx : Below w.heap.size w wx) => show RdA wx wx.heap.size B ar.length ar from (r.below hx).more hx.size)
      have HRP := Lib.hid (fun (wx : World) (hx : Below w.heap.size w wx) => show RdI wx wx.heap.size (some ⟨gb, 0, none⟩) (l + 1) p from (RP.below hx).more hx.size)
      have HW := Lib.hid hw; have HIN := Lib.hid hi; have HU := Lib.hid hu
      have HARC := Lib.hid (fun k (hk : k < ar.length) => hin _ (getL_mem (d := Ac.nil) hk))
      have HLO := Lib.hid hlo
      clear hg hO r hw hi hll hu RP hin hlo
      go_enter Tryd.func69, Tryd.ntmps69
      go_wp2
      go_loopw [9] (fun i wr => ∃ k : Nat, k ≤ ar.length ∧ i = .int .i64 k ∧ (∀ j, j < k → mfA m ar p u g (ar.getD j Ac.nil) = none) ∧ Below w.heap.size w wr) (fun i _ => ar.length - (intOf i).toNat)
      case atStart => exact ⟨0, Nat.zero_le _, rfl, fun j hj => absurd hj (by omega), Below.refl _ _⟩
      case round =>
        obtain ⟨k, hk, rfl, hno, hB⟩ := hrel
        have HB := Lib.hid hB
        have HN := Lib.hid hno
        clear hno hp0
        by_cases hlt : k < ar.length
        · obtain ⟨b, off, hBe, hbb, hcells⟩ := (HR.out _ hB).at (by omega)
          obtain ⟨x0, x1, x2⟩ := hcells k hlt
          have HNX : Hid (mfA m ar p u g (ar.getD k Ac.nil) = none → ∀ j, j < k + 1 → mfA m ar p u g (ar.getD j Ac.nil) = none) := Lib.hid fun e j hj => by
            by_cases q : j < k
            · exact HN.out j q
            · obtain rfl : j = k := by omega
              exact e
          have HYE := Lib.hid (fun rr e => HSA.out rr k hlt HN.out e)
          have hfin := HARC.out k hlt
          obtain ⟨a, ha⟩ : ∃ a, ar.getD k Ac.nil = a := ⟨_, rfl⟩
          have HAK := Lib.hid ha
          rw [ha] at x1 x2 HNX HYE hfin
          have HMF : Hid (∀ v, ox a u = some v → mfA m ar p u g a = if v ∈ p then none else mf m ar (p ++ [v]) g) := Lib.hid fun v e => by unfold mfA; rw [e]
          have HMN : Hid (ox a u = none → mfA m ar p u g a = none) := Lib.hid fun e => by unfold mfA; rw [e]
          have HPU : Hid (∀ v, ox a u = some v → ¬ v ∈ p → Way ar (p ++ [v])) := Lib.hid fun v e hm => HW.out.push (l := l) (by have := HPL.out; omega) HU.out hm hlt (by rw [HAK.out]; exact ox_joins e)
          generalize mfA m ar p u g a = F at *
          subst hBe
          clear hcells hB x0 ha
          obtain ⟨aw, af, a3⟩ := a
          dsimp only at x1 x2 hfin
          by_cases hf : af = u
          · have d1 : (af != u) = false := by simp [hf]
            have HOX : Hid (ox ⟨aw, af, a3⟩ u = some a3) := Lib.hid (by unfold ox; rw [if_pos hf])
            have hvin := hfin.2
            clear hf
            have HPV := Lib.hid (HPU.out a3 HOX.out)
            by_cases hm : a3 ∈ p
            · have HF := Lib.hid (HNX.out (by rw [HMF.out a3 HOX.out, if_pos hm]))
              have HH := Lib.hid (fun wx rx => sHas_any (some ⟨gb, 0, none⟩) (l + 1) c p a3 wx (by omega) rx)
              rw [decide_eq_true hm] at HH
              clear hm
              go_wp2_with (fail)
              refine (HH.out _ (HRP.out _ HB.out)).mono ?_
              rintro e w1 ⟨rfl, rfl⟩
              go_wp2
              go_roundw
              case rel => exact ⟨k + 1, by omega, by go_num, HF.out, HB.out⟩
              case measure => simp [intOf]; omega
            · have HFE := Lib.hid ((HMF.out a3 HOX.out).trans (if_neg hm))
              have HH := Lib.hid (fun wx rx => sHas_any (some ⟨gb, 0, none⟩) (l + 1) c p a3 wx (by omega) rx)
              rw [decide_eq_false hm] at HH
              have HW2 := Lib.hid (HPV.out hm)
              have HIV : Hid (∀ x ∈ p ++ [a3], inW n x = true) := Lib.hid fun x hx => by
                rcases List.mem_append.1 hx with h | h
                · exact HIN.out x h
                · rw [List.mem_singleton.1 h]; exact hvin
              have HL2 : Hid ((p ++ [a3]).length = l + 1 + 1) := Lib.hid (by rw [List.length_append, HPL.out]; rfl)
              clear hm
              go_wp2_with (fail)
              refine (HH.out _ (HRP.out _ HB.out)).mono ?_
              rintro e w1 ⟨rfl, rfl⟩
              go_wp2_with (fail)
              refine (copyInts_x (some ⟨gb, 0, none⟩) (l + 1) c p _ (HRP.out _ HB.out) (by omega)).mono ?_
              rintro e w2 ⟨A2, c2, rfl, own2, bel2⟩
              rw [HPL.out] at own2 ⊢
              have O2 := Lib.hid own2
              have B2 := Lib.hid (HB.out.trans (bel2.mono HB.out.size))
              have hs2 := bel2.size
              have hsw := HB.out.size
              clear own2 bel2
              go_wp2_with (at_builtin; refine wpList_append_own _ rfl _ _ 24 rfl w1.heap.size 2 i0 (.int .i64 0) 1 8 Tryd.underlying24 HI.out HZ0.out HZ1.out HZ2.out rfl (by decide) _ _ _ rfl (O2.out.alloc _) ⟨w2.heap.size, 0, none⟩ 1 1 [.int .i64 a3] rfl rfl ?c1 ?c2 ?c3 ?c4 ?c5 ?_)
              case c1 => exact cell_one_new _ _ _
              case c2 => intro u hu; simp at hu; subst hu; rfl
              case c3 => unfold maxLen; omega
              case c4 => omega
              case c5 => simp; omega
              intro v' w3 hown' hgrow _
              have hb3 := (B2.out.alloc B2.out.size (.cells #[.int .i64 a3] 2)).grown hgrow (by simp; omega) (fun q hq => Nat.le_trans hsw (O2.out.lt q hq).1)
              have B3 := Lib.hid hb3
              have hown2 : w3.ownsRow w1.heap.size 2 1 v' (l + 1 + 1) ((p ++ [a3]).map (Value.int .i64)) := by
                rw [List.map_append]; exact hown'
              obtain ⟨A3, c3, rfl⟩ := own_shape1r hown2
              have O3 := Lib.hid (hown2.mono (show lo ≤ w1.heap.size by have := HLO.out; omega))
              clear hown' hgrow hown2 hb3
              go_wp2_with (fail)
              refine (IH.out a3 A3 c3 _ HL2.out HW2.out HIV.out (by have := HLO.out; have := B3.out.size; omega) O3.out (HR.out _ B3.out)).mono ?_
              rintro e w4 ⟨hres, bel4⟩
              have B4 := Lib.hid (B3.out.trans (bel4.mono B3.out.size))
              clear bel4
              cases ho : mf m ar (p ++ [a3]) g with
              | some q =>
                rw [ho] at hres
                obtain ⟨A5, c5, rfl, own5⟩ := hres
                have HE := Lib.hid (HYE.out q (HFE.out.trans ho))
                have HG : Hid (GivesPt w lo (some q) (.returned (.tuple #[.slice A5 q.length c5, .bool true])) w4) := Lib.hid ⟨⟨A5, c5, rfl, own5⟩, B4.out⟩
                clear own5 ho
                go_wp2
                go_ret2
                rw [HE.out]
                exact HG.out
              | none =>
                rw [ho] at hres
                obtain ⟨v5, rfl⟩ := hres
                have HF := Lib.hid (HNX.out (HFE.out.trans ho))
                clear ho
                go_wp2
                go_roundw
                case rel => exact ⟨k + 1, by omega, by go_num, HF.out, B4.out⟩
                case measure => simp [intOf]; omega
          · have d1 : (af != u) = true := by simp [hf]
            by_cases ht : a3 = u
            · have d2 : (a3 != u) = false := by simp [ht]
              have HOX : Hid (ox ⟨aw, af, a3⟩ u = some af) := Lib.hid (by unfold ox; rw [if_neg hf, if_pos ht])
              have hvin := hfin.1
              clear hf ht
              have HPV := Lib.hid (HPU.out af HOX.out)
              by_cases hm : af ∈ p
              · have HF := Lib.hid (HNX.out (by rw [HMF.out af HOX.out, if_pos hm]))
                have HH := Lib.hid (fun wx rx => sHas_any (some ⟨gb, 0, none⟩) (l + 1) c p af wx (by omega) rx)
                rw [decide_eq_true hm] at HH
                clear hm
                go_wp2_with (fail)
                refine (HH.out _ (HRP.out _ HB.out)).mono ?_
                rintro e w1 ⟨rfl, rfl⟩
                go_wp2
                go_roundw
                case rel => exact ⟨k + 1, by omega, by go_num, HF.out, HB.out⟩
                case measure => simp [intOf]; omega
              · have HFE := Lib.hid ((HMF.out af HOX.out).trans (if_neg hm))
                have HH := Lib.hid (fun wx rx => sHas_any (some ⟨gb, 0, none⟩) (l + 1) c p af wx (by omega) rx)
                rw [decide_eq_false hm] at HH
                have HW2 := Lib.hid (HPV.out hm)
                have HIV : Hid (∀ x ∈ p ++ [af], inW n x = true) := Lib.hid fun x hx => by
                  rcases List.mem_append.1 hx with h | h
                  · exact HIN.out x h
                  · rw [List.mem_singleton.1 h]; exact hvin
                have HL2 : Hid ((p ++ [af]).length = l + 1 + 1) := Lib.hid (by rw [List.length_append, HPL.out]; rfl)
                clear hm
                go_wp2_with (fail)
                refine (HH.out _ (HRP.out _ HB.out)).mono ?_
                rintro e w1 ⟨rfl, rfl⟩
                go_wp2_with (fail)
                refine (copyInts_x (some ⟨gb, 0, none⟩) (l + 1) c p _ (HRP.out _ HB.out) (by omega)).mono ?_
                rintro e w2 ⟨A2, c2, rfl, own2, bel2⟩
                rw [HPL.out] at own2 ⊢
                have O2 := Lib.hid own2
                have B2 := Lib.hid (HB.out.trans (bel2.mono HB.out.size))
                have hs2 := bel2.size
                have hsw := HB.out.size
                clear own2 bel2
                go_wp2_with (at_builtin; refine wpList_append_own _ rfl _ _ 24 rfl w1.heap.size 2 i0 (.int .i64 0) 1 8 Tryd.underlying24 HI.out HZ0.out HZ1.out HZ2.out rfl (by decide) _ _ _ rfl (O2.out.alloc _) ⟨w2.heap.size, 0, none⟩ 1 1 [.int .i64 af] rfl rfl ?c1 ?c2 ?c3 ?c4 ?c5 ?_)
                case c1 => exact cell_one_new _ _ _
                case c2 => intro u hu; simp at hu; subst hu; rfl
                case c3 => unfold maxLen; omega
                case c4 => omega
                case c5 => simp; omega
                intro v' w3 hown' hgrow _
                have hb3 := (B2.out.alloc B2.out.size (.cells #[.int .i64 af] 2)).grown hgrow (by simp; omega) (fun q hq => Nat.le_trans hsw (O2.out.lt q hq).1)
                have B3 := Lib.hid hb3
                have hown2 : w3.ownsRow w1.heap.size 2 1 v' (l + 1 + 1) ((p ++ [af]).map (Value.int .i64)) := by
                  rw [List.map_append]; exact hown'
                obtain ⟨A3, c3, rfl⟩ := own_shape1r hown2
                have O3 := Lib.hid (hown2.mono (show lo ≤ w1.heap.size by have := HLO.out; omega))
                clear hown' hgrow hown2 hb3
                go_wp2_with (fail)
                refine (IH.out af A3 c3 _ HL2.out HW2.out HIV.out (by have := HLO.out; have := B3.out.size; omega) O3.out (HR.out _ B3.out)).mono ?_
                rintro e w4 ⟨hres, bel4⟩
                have B4 := Lib.hid (B3.out.trans (bel4.mono B3.out.size))
                clear bel4
                cases ho : mf m ar (p ++ [af]) g with
                | some q =>
                  rw [ho] at hres
                  obtain ⟨A5, c5, rfl, own5⟩ := hres
                  have HE := Lib.hid (HYE.out q (HFE.out.trans ho))
                  have HG : Hid (GivesPt w lo (some q) (.returned (.tuple #[.slice A5 q.length c5, .bool true])) w4) := Lib.hid ⟨⟨A5, c5, rfl, own5⟩, B4.out⟩
                  clear own5 ho
                  go_wp2
                  go_ret2
                  rw [HE.out]
                  exact HG.out
                | none =>
                  rw [ho] at hres
                  obtain ⟨v5, rfl⟩ := hres
                  have HF := Lib.hid (HNX.out (HFE.out.trans ho))
                  clear ho
                  go_wp2
                  go_roundw
                  case rel => exact ⟨k + 1, by omega, by go_num, HF.out, B4.out⟩
                  case measure => simp [intOf]; omega
            · have d2 : (a3 != u) = true := by simp [ht]
              have HF := Lib.hid (HNX.out (HMN.out (by unfold ox; rw [if_neg hf, if_neg ht])))
              clear hf ht
              go_wp2
              go_roundw
              case rel => exact ⟨k + 1, by omega, by go_num, HF.out, HB.out⟩
              case measure => simp [intOf]; omega
        · have hkl : k = ar.length := by omega
          subst hkl
          have HE := Lib.hid (HSN.out HN.out)
          have HG : Hid (GivesPt w lo none (.returned (.tuple #[.slice (some ⟨gb, 0, none⟩) (l + 1) c, .bool false])) wr) := Lib.hid ⟨⟨_, rfl⟩, hB⟩
          clear hB
          go_wp2
          go_ret2
          rw [HE.out]
          exact HG.out
end Go.Proofs.YtkhngbfhgpaghaaDoor
