/- The program's search for a path. -/
import Derived.Test.YtkhngbfhgpaghaaDoorTpS
import Derived.Test.YtkhngbfhgpaghaaDoorSwF
import Derived.Deep.RegionHeldLaw
import Derived.Deep.DeepCutAuto
import Derived.BigQuiet
namespace Go.Proofs.YtkhngbfhgpaghaaDoor
set_option linter.unusedSimpArgs false
set_option linter.unusedVariables false
open Go.ChangeAt Go.ChangeShapes Go.RowKit Go.WideShapes

/-- The other end, or -1. -/
def oxI (a : Ac) (u : Int) : Int := if a.f = u then a.t else if a.t = u then a.f else -1
theorem oxI_some {a : Ac} {u v : Int} (h : ox a u = some v) : oxI a u = v := by
  unfold ox at h; unfold oxI
  split at h
  · rename_i e; injection h with h; rw [if_pos e, h]
  · rename_i e
    split at h
    · rename_i e2; injection h with h; rw [if_neg e, if_pos e2, h]
    · cases h
theorem oxI_none {a : Ac} {u : Int} (h : ox a u = none) : oxI a u = -1 := by
  unfold ox at h; unfold oxI
  split at h
  · cases h
  · rename_i e
    split at h
    · cases h
    · rename_i e2; rw [if_neg e, if_neg e2]
set_option maxHeartbeats 1000000 in
theorem otherEnd_any (a : Ac) (u : Int) (w : World) : Calls Tryd.prog 101 #[.agg #[.int .i64 a.w, .int .i64 a.f, .int .i64 a.t], .int .i64 u] w fun e w' => e = .returned (.int .i64 (oxI a u)) ∧ Below w.heap.size w w' := by
  obtain ⟨aw, af, a3⟩ := a
  obtain ⟨w1, hw1⟩ : ∃ u, u = w.alloc (.cells #[.int .i64 aw, .int .i64 af, .int .i64 a3] 77) := ⟨_, rfl⟩
  have hb : Below w.heap.size w w1 := by rw [hw1]; exact (Below.refl _ _).alloc (Nat.le_refl _) _
  have hg : w1.heap[w.heap.size]? = some (.cells #[.int .i64 aw, .int .i64 af, .int .i64 a3] 77 (0, 0)) := by rw [hw1]; exact heap_alloc_new _ _
  obtain ⟨x0, x1, x2⟩ := three_cells hg
  have HB := Lib.hid hb
  clear hb hg
  dsimp only
  by_cases h1 : af = u
  · have d1 : (u == af) = true := by simp [h1]
    have HE : Hid (a3 = oxI ⟨aw, af, a3⟩ u) := Lib.hid (by unfold oxI; rw [if_pos h1])
    clear h1
    go_enter Tryd.func101, Tryd.ntmps101
    go_upto_region 1 with (fail)
    rw [← hw1]
    clear hw1
    go_wp2
    go_ret
    exact ⟨ret_i64 HE.out, HB.out⟩
  · have d1 : (u == af) = false := by simp; exact fun e => h1 e.symm
    by_cases h2 : a3 = u
    · have d2 : (u == a3) = true := by simp [h2]
      have HE : Hid (af = oxI ⟨aw, af, a3⟩ u) := Lib.hid (by unfold oxI; rw [if_neg h1, if_pos h2])
      clear h1 h2
      go_enter Tryd.func101, Tryd.ntmps101
      go_upto_region 1 with (fail)
      rw [← hw1]
      clear hw1
      go_wp2
      go_ret
      exact ⟨ret_i64 HE.out, HB.out⟩
    · have d2 : (u == a3) = false := by simp; exact fun e => h2 e.symm
      have HE : Hid (-1 = oxI ⟨aw, af, a3⟩ u) := Lib.hid (by unfold oxI; rw [if_neg h1, if_neg h2])
      clear h1 h2
      go_enter Tryd.func101, Tryd.ntmps101
      go_upto_region 1 with (fail)
      rw [← hw1]
      clear hw1
      go_wp2
      go_ret
      exact ⟨ret_i64 HE.out, HB.out⟩
/-- What one arc gives to the program's search. -/
def pfA (m : Nat) (ar : List Ac) (u g bf : Int) (a : Ac) : Option (List Int) := match ox a u with
  | none => none
  | some v => if v = bf then none else (pf m ar v g u).map (u :: ·)
theorem pf_end {m : Nat} {ar : List Ac} {u g bf : Int} (h : u = g) : pf (m + 1) ar u g bf = some [g] := by unfold pf; rw [if_pos h]
theorem pf_go {m : Nat} {ar : List Ac} {u g bf : Int} (h : ¬ u = g) : pf (m + 1) ar u g bf = ar.findSome? (pfA m ar u g bf) := by unfold pf; rw [if_neg h]; rfl
theorem pf_len {ar : List Ac} {g : Int} : ∀ {m : Nat} {u bf : Int} {q : List Int}, pf m ar u g bf = some q → 0 < q.length ∧ q.length ≤ m
  | 0, _, _, _, h => by cases h
  | m + 1, u, bf, q, h => by
    by_cases hg : u = g
    · rw [pf_end hg] at h; injection h with h; rw [← h]; simp
    · rw [pf_go hg] at h
      obtain ⟨a, _, ha⟩ := List.exists_of_findSome?_eq_some h
      unfold pfA at ha
      split at ha
      · cases ha
      · split at ha
        · cases ha
        · obtain ⟨r, hr, rfl⟩ := Option.map_eq_some_iff.1 ha
          have := pf_len hr
          simp only [List.length_cons]; omega
/-- No arc leads back. -/
theorem not_back {n : Nat} {ar : List Ac} (hin : ArcsIn n ar) {P : List Int} (hr : runP n ar ar.length = some P) {p : List Int} {l : Nat} {bf : Int} (hl : p.length = l + 1) (hw : Way ar p) (hb : l = 0 ∧ bf = -1 ∨ 0 < l ∧ bf = p.getD (l - 1) 0) {b : Nat} (hbl : b < ar.length) {v : Int} (ho : ox (ar.getD b Ac.nil) (p.getD l 0) = some v) (hv : ¬ v = bf) : ¬ v ∈ p := fun hm => by
  obtain ⟨i, hi, e⟩ := tpMemAt hm
  have hc := no_close hin hr hw hl.symm hi hbl (by rw [e]; exact ox_joins ho)
  rcases hb with ⟨h0, _⟩ | ⟨_, h1⟩
  · omega
  · exact hv (by rw [h1, ← e, ← hc]; rfl)
/-- What the program's search leaves: a path in new memory, or nil. -/
def GivesPo (w : World) (o : Option (List Int)) (e : Ending) (w' : World) : Prop :=
  (match o with
    | some q => ∃ b c, e = .returned (.slice (some ⟨b, 0, none⟩) q.length c) ∧ w'.ownsRow w.heap.size 2 1 (.slice (some ⟨b, 0, none⟩) q.length c) q.length (q.map (Value.int .i64))
    | none => e = .returned (.slice none 0 0)) ∧ Below w.heap.size w w'
set_option maxRecDepth 100000 in
set_option maxHeartbeats 1000000 in
theorem pathIn_any {n : Nat} {ar : List Ac} (hin : ArcsIn n ar) {P0 : List Int} (hrun : runP n ar ar.length = some P0) (hn : n ≤ 48) (hal : ar.length ≤ 1048576) (B : Option Addr) (d : Nat) (g : Int) : ∀ (m : Nat) (p : List Int) (l : Nat) (bf u : Int) (w : World), p.length = l + 1 → p.getD l 0 = u → Way ar p → (∀ x ∈ p, inW n x = true) → l + m = n → (l = 0 ∧ bf = -1 ∨ 0 < l ∧ bf = p.getD (l - 1) 0) → RdA w w.heap.size B ar.length ar →
    Calls Tryd.prog 71 #[.slice B ar.length d, .int .i64 u, .int .i64 g, .int .i64 bf] w (GivesPo w (pf m ar u g bf)) := by
  intro m
  induction m with
  | zero =>
    intro p l bf u w hp hpu hw hi hm
    have := way_few hw hi
    omega
  | succ m ih =>
    intro p l bf u w hp hpu hw hi hm hbf r
    by_cases hg : u = g
    · have hd : (u == g) = true := by simp [hg]
      have HE := Lib.hid (pf_end (m := m) (ar := ar) (bf := bf) hg)
      rw [HE.out]
      have HG : Hid (GivesPo w (some [g]) (.returned (.slice (some ⟨w.heap.size, 0, none⟩) 1 1)) (w.alloc (.cells #[.int .i64 g] 2))) := Lib.hid ⟨⟨w.heap.size, 1, rfl, ⟨rfl, .inr ⟨w.heap.size, 1, #[.int .i64 g], rfl, Nat.le_refl _, heap_alloc_new _ _, Nat.le_refl _, by simp [maxLen], rfl, rfl⟩⟩⟩, (Below.refl _ _).alloc (Nat.le_refl _) _⟩
      clear ih hg r hw hi hin hrun hpu
      go_enter Tryd.func71, Tryd.ntmps71
      go_wp2
      go_ret
      exact HG.out
    · have hd : (u == g) = false := by simp [hg]
      have HFI := Lib.hid (pf_go (m := m) (ar := ar) (bf := bf) hg)
      rw [HFI.out]
      have IH := Lib.hid (fun (v : Int) (w' : World) (hw' : Way ar (p ++ [v])) hi' r' => ih (p ++ [v]) (l + 1) u v w' (by rw [List.length_append, hp]; rfl) (tpGetEnd hp.symm) hw' hi' (by omega) (.inr ⟨by omega, by rw [Nat.add_sub_cancel, tpGetLt (by omega), hpu]⟩) r')
      have HSA := Lib.hid (fun (rr : List Int) (k : Nat) (hk : k < ar.length) h1 h2 => some_at (d := Ac.nil) (f := pfA m ar u g bf) (r := rr) (l := ar) (k := k) hk h1 h2)
      have HSN := Lib.hid (fun h => some_none (d := Ac.nil) (f := pfA m ar u g bf) (l := ar) h)
      have HNB := Lib.hid (fun b hb v ho hv => not_back hin hrun hp hw hbf (b := b) hb (v := v) (by rw [hpu]; exact ho) hv)
      have HPW := Lib.hid (fun v b hb hm hj => hw.push (l := l) (u := u) (v := v) hp.symm hpu hm (b := b) hb hj)
      have HR := Lib.hid (fun (wx : World) (hx : Below w.heap.size w wx) => show RdA wx wx.heap.size B ar.length ar from (r.below hx).more hx.size)
      have HIN := Lib.hid hi
      have HARC := Lib.hid (fun k (hk : k < ar.length) => hin _ (getL_mem (d := Ac.nil) hk))
      have hm49 : m ≤ 48 := by omega
      clear ih hg r hw hi hin hrun hpu hp hbf hm
      go_enter Tryd.func71, Tryd.ntmps71
      go_wp2
      go_loopw [20] (fun i wr => ∃ k : Nat, k ≤ ar.length ∧ i = .int .i64 k ∧ (∀ j, j < k → pfA m ar u g bf (ar.getD j Ac.nil) = none) ∧ Below w.heap.size w wr) (fun i _ => ar.length - (intOf i).toNat)
      case atStart => exact ⟨0, Nat.zero_le _, rfl, fun j hj => absurd hj (by omega), Below.refl _ _⟩
      case round =>
        obtain ⟨k, hk, rfl, hno, hB⟩ := hrel
        have HB := Lib.hid hB
        have HN := Lib.hid hno
        clear hno
        by_cases hlt : k < ar.length
        · obtain ⟨b, off, hBe, hbb, hcells⟩ := (HR.out _ hB).at (by omega)
          obtain ⟨x0, x1, x2⟩ := hcells k hlt
          have HNX : Hid (pfA m ar u g bf (ar.getD k Ac.nil) = none → ∀ j, j < k + 1 → pfA m ar u g bf (ar.getD j Ac.nil) = none) := Lib.hid fun e j hj => by
            by_cases q : j < k
            · exact HN.out j q
            · obtain rfl : j = k := by omega
              exact e
          have HYE := Lib.hid (fun rr e => HSA.out rr k hlt HN.out e)
          have hfin := HARC.out k hlt
          have HNB2 := Lib.hid (fun v ho hv => HNB.out k hlt v ho hv)
          have HPW2 := Lib.hid (fun v hm hj => HPW.out v k hlt hm hj)
          obtain ⟨a, ha⟩ : ∃ a, ar.getD k Ac.nil = a := ⟨_, rfl⟩
          rw [ha] at x0 x1 x2 HNX HYE hfin HNB2 HPW2
          have HMF : Hid (∀ v, ox a u = some v → pfA m ar u g bf a = if v = bf then none else (pf m ar v g u).map (u :: ·)) := Lib.hid fun v e => by unfold pfA; rw [e]
          have HMN : Hid (ox a u = none → pfA m ar u g bf a = none) := Lib.hid fun e => by unfold pfA; rw [e]
          generalize pfA m ar u g bf a = F at *
          subst hBe
          clear hcells ha
          have HOE := Lib.hid (fun wx => otherEnd_any a u wx)
          obtain ⟨u1, hu1⟩ : ∃ u1, u1 = wr.alloc (.cells #[.int .i64 a.w, .int .i64 a.f, .int .i64 a.t] 77) := ⟨_, rfl⟩
          have bu : Below wr.heap.size wr u1 := by rw [hu1]; exact (Below.refl _ _).alloc (Nat.le_refl _) _
          have gu : u1.heap[wr.heap.size]? = some (.cells #[.int .i64 a.w, .int .i64 a.f, .int .i64 a.t] 77 (0, 0)) := by rw [hu1]; exact heap_alloc_new _ _
          obtain ⟨z0, z1, z2⟩ := three_cells gu
          have HBU := Lib.hid (hB.trans (bu.mono hB.size))
          clear hB bu gu
          cases ho : ox a u with
          | none =>
            have HF := Lib.hid (HNX.out (HMN.out ho))
            rw [oxI_none ho] at HOE
            clear ho
            generalize a.w = aw at *; generalize a.f = af at *; generalize a.t = a3 at *
            go_upto_region 6 with (fail)
            rw [← hu1]
            clear hu1
            go_wp2_with (fail)
            refine (HOE.out _).mono ?_
            rintro e w2 ⟨rfl, bel2⟩
            have B2 := Lib.hid (HBU.out.trans (bel2.mono HBU.out.size))
            clear bel2
            go_wp2
            go_roundw
            case rel => exact ⟨k + 1, by omega, by go_num, HF.out, B2.out⟩
            case measure => simp [intOf]; omega
          | some v =>
            have hj := ox_joins ho
            have hvin : inW n v = true := by
              rcases hj with ⟨_, e⟩ | ⟨e, _⟩
              · rw [← e]; exact hfin.2
              · rw [← e]; exact hfin.1
            have hv0 := (inW_yes hvin).1
            have hvm : (v == -1) = false := by simp; omega
            rw [oxI_some ho] at HOE
            by_cases hvb : v = bf
            · have hd2 : (v == bf) = true := by simp [hvb]
              have HF := Lib.hid (HNX.out (by rw [HMF.out v ho, if_pos hvb]))
              clear ho hj hvb
              generalize a.w = aw at *; generalize a.f = af at *; generalize a.t = a3 at *
              go_upto_region 6 with (fail)
              rw [← hu1]
              clear hu1
              go_wp2_with (fail)
              refine (HOE.out _).mono ?_
              rintro e w2 ⟨rfl, bel2⟩
              have B2 := Lib.hid (HBU.out.trans (bel2.mono HBU.out.size))
              clear bel2
              go_wp2
              go_roundw
              case rel => exact ⟨k + 1, by omega, by go_num, HF.out, B2.out⟩
              case measure => simp [intOf]; omega
            · have hd2 : (v == bf) = false := by simp [hvb]
              have HFE := Lib.hid ((HMF.out v ho).trans (if_neg hvb))
              have hnm := HNB2.out v ho hvb
              have HW2 := Lib.hid (HPW2.out v hnm hj)
              have HIV : Hid (∀ x ∈ p ++ [v], inW n x = true) := Lib.hid fun x hx => by
                rcases List.mem_append.1 hx with h | h
                · exact HIN.out x h
                · rw [List.mem_singleton.1 h]; exact hvin
              clear ho hj hvb hnm
              generalize a.w = aw at *; generalize a.f = af at *; generalize a.t = a3 at *
              go_upto_region 6 with (fail)
              rw [← hu1]
              clear hu1
              go_wp2_with (fail)
              refine (HOE.out _).mono ?_
              rintro e w2 ⟨rfl, bel2⟩
              have B2 := Lib.hid (HBU.out.trans (bel2.mono HBU.out.size))
              clear bel2
              go_wp2_with (fail)
              refine (IH.out v _ HW2.out HIV.out (HR.out _ B2.out)).mono ?_
              rintro e w4 ⟨hres, bel4⟩
              have B4 := Lib.hid (B2.out.trans (bel4.mono B2.out.size))
              clear bel4
              cases hq : pf m ar v g u with
              | none =>
                rw [hq] at hres
                obtain rfl := hres
                have HF := Lib.hid (HNX.out (by rw [HFE.out, hq]; rfl))
                clear hq
                go_wp2
                go_roundw
                case rel => exact ⟨k + 1, by omega, by go_num, HF.out, B4.out⟩
                case measure => simp [intOf]; omega
              | some q =>
                obtain ⟨hq0, hq1⟩ := pf_len hq
                rw [hq] at hres
                obtain ⟨b5, c5, rfl, own5⟩ := hres
                have HE := Lib.hid (HYE.out (u :: q) (by rw [HFE.out, hq]; rfl))
                have R5 := RdI.of_own own5
                obtain ⟨v1, hv1⟩ : ∃ x, x = w4.alloc (.cells #[.int .i64 u] 2) := ⟨_, rfl⟩
                obtain ⟨v2, hv2⟩ : ∃ x, x = v1.alloc (.cells #[.slice (some ⟨w4.heap.size, 0, none⟩) 1 1, .slice (some ⟨b5, 0, none⟩) q.length c5] 24) := ⟨_, rfl⟩
                have s1 : v1.heap.size = w4.heap.size + 1 := by rw [hv1]; simp
                have s2 : v2.heap.size = w4.heap.size + 1 + 1 := by rw [hv2]; simp [s1]
                have c1 : Below w4.heap.size w4 v1 := by rw [hv1]; exact (Below.refl _ _).alloc (Nat.le_refl _) _
                have c2 : Below v1.heap.size v1 v2 := by rw [hv2]; exact (Below.refl _ _).alloc (Nat.le_refl _) _
                have g1 : v1.heap[w4.heap.size]? = some (.cells #[.int .i64 u] 2 (0, 0)) := by rw [hv1]; exact heap_alloc_new _ _
                have g2 : v2.heap[w4.heap.size + 1]? = some (.cells #[.slice (some ⟨w4.heap.size, 0, none⟩) 1 1, .slice (some ⟨b5, 0, none⟩) q.length c5] 24 (0, 0)) := by rw [hv2, ← s1]; exact heap_alloc_new _ _
                have g1' := (c2.block w4.heap.size (by omega)).trans g1
                have cc := c1.trans (c2.mono c1.size)
                have pa : Part v2 v2.heap.size (.slice (some ⟨w4.heap.size, 0, none⟩) 1 1) [u] := ⟨w4.heap.size, 0, 1, rfl, by omega, by simp, fun j hj => by
                  obtain rfl : j = 0 := by simp at hj; omega
                  exact cell_of_row _ _ 0 _ _ (0, 0) g1'⟩
                have pb : Part v2 v2.heap.size (.slice (some ⟨b5, 0, none⟩) q.length c5) q := Part.of_rd ((R5.below cc).more cc.size) hq0
                have HC := Lib.hid (concat_any (w4.heap.size + 1) 2 2 [.slice (some ⟨w4.heap.size, 0, none⟩) 1 1, .slice (some ⟨b5, 0, none⟩) q.length c5] [[u], q] v2 rfl (by decide) (by decide) (fun i hi => by match i, hi with | 0, _ => exact cell_of_row _ _ 0 _ _ (0, 0) g2 | 1, _ => exact cell_of_row _ _ 1 _ _ (0, 0) g2) (by omega) (fun i hi => by match i, hi with | 0, _ => exact pa | 1, _ => exact pb) (by simp; omega))
                have HFL : Hid ([[u], q].flatten = u :: q) := Lib.hid (by simp)
                rw [HFL.out] at HC
                have CC := Lib.hid (B4.out.trans (cc.mono B4.out.size))
                clear pa pb g1 g2 g1' c1 c2 cc R5 own5 hq s1
                go_wp2_with (fail)
                rw [← hv1, ← hv2]
                clear hv1 hv2
                refine HC.out.mono ?_
                rintro e w6 ⟨A6, c6, rfl, own6, bel6⟩
                obtain ⟨b6, cap6, hv6, hb6, _⟩ := own6.form (by simp)
                have hA6 : A6 = some ⟨b6, 0, none⟩ := by injection hv6
                subst hA6
                have HG : Hid (GivesPo w (some (u :: q)) (.returned (.slice (some ⟨b6, 0, none⟩) (u :: q).length c6)) w6) := Lib.hid ⟨⟨b6, c6, rfl, own6.mono CC.out.size⟩, CC.out.trans (bel6.mono CC.out.size)⟩
                clear own6 bel6 hv6
                go_wp2
                go_ret
                rw [HE.out]
                exact HG.out
        · have hkl : k = ar.length := by omega
          subst hkl
          have HE := Lib.hid (HSN.out HN.out)
          have HG : Hid (GivesPo w none (.returned (.slice none 0 0)) wr) := Lib.hid ⟨rfl, hB⟩
          clear hB
          go_wp2
          go_ret
          rw [HE.out]
          exact HG.out
end Go.Proofs.YtkhngbfhgpaghaaDoor
