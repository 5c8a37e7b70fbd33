/- slices.CompactFunc at a row of formulas in memory of its own: the walk. -/
import Derived.Test.YtdgejhlpncnenaaDoorComp
import Derived.Test.YtdgejhlpncnenaaDoorSrt
import Derived.Test.YtdgejhlpncnenaaDoorSubF
namespace Go.Proofs.YtdgejhlpncnenaaDoor
open Go.ChangeShapes Go.WideShapes Go.ChangeAt Go.RowKit

/-- The row as the walk has it when p places are looked at: the kept headers in front, and those from p - 1 on as they were. -/
def CompAt (w : World) (lo g n c : Nat) (hs : Nat → Option Addr × Nat) (qs : List (List Int)) (p : Nat) (wr : World) : Prop :=
  ∃ xs, wr.ownsRow lo 24 1 (.slice (some ⟨g, 0, none⟩) n c) n xs ∧ xs.take (kp qs p).length = (kp qs p).map (hv hs qs) ∧ (∀ m, p ≤ m + 1 → m < n → xs[m]? = some (hv hs qs m)) ∧
    (∀ k, k ≠ g → k < w.heap.size → wr.heap[k]? = w.heap[k]?) ∧ Below lo w wr
section
variable {w wr : World} {lo hi g n c p : Nat} {hs : Nat → Option Addr × Nat} {qs : List (List Int)}
theorem CompAt.start (h : OwnQ w lo hi (.slice (some ⟨g, 0, none⟩) n c) hs qs) (hn : qs.length = n) (hp : p ≤ n) (hk : kp qs p = List.range p) : CompAt w lo g n c hs qs p w := by
  subst hn
  refine ⟨rowV hs qs, h.outer, ?_, fun m _ hm => rowV_at hm, fun _ _ _ => rfl, Below.refl _ _⟩
  rw [hk, List.length_range]
  apply List.ext_getElem?
  intro j
  by_cases hj : j < p
  · rw [List.getElem?_take_of_lt hj, rowV_at (by omega)]; simp [hj]
  · rw [List.getElem?_eq_none (by simp; omega), List.getElem?_eq_none (by simp; omega)]
theorem CompAt.drew (h : CompAt w lo g n c hs qs p wr) (m : Nat) : CompAt w lo g n c hs qs p (wr.drewN m) := by
  obtain ⟨xs, h1, h2, h3, h4, h5⟩ := h
  exact ⟨xs, own_same h1 fun _ _ => rfl, h2, h3, h4, below_drewN h5 m⟩
theorem CompAt.cell (h : CompAt w lo g n c hs qs p wr) {m : Nat} (hp : p ≤ m + 1) (hm : m < n) : wr.cell? ⟨g, m, none⟩ = some (hv hs qs m) := by
  obtain ⟨xs, h1, h2, h3, h4, h5⟩ := h
  rw [h1.cellAt m (by omega), h3 m hp hm]
theorem CompAt.frozen (h : CompAt w lo g n c hs qs p wr) (m : Nat) : wr.frozen? ⟨g, m, none⟩ = false := by
  obtain ⟨xs, h1, _⟩ := h
  exact h1.frozenAt m
theorem CompAt.full (h : CompAt w lo g n c hs qs p wr) {m : Nat} (hm : m < n) : ∃ v, wr.cell? ⟨g, m, none⟩ = some v := by
  obtain ⟨xs, h1, _⟩ := h
  rw [h1.cellAt m (by omega)]
  have := h1.1
  exact ⟨xs[m]'(by omega), List.getElem?_eq_getElem (by omega)⟩
theorem CompAt.read (h : CompAt w lo g n c hs qs p wr) (ho : OwnQ w lo hi (.slice (some ⟨g, 0, none⟩) n c) hs qs) {m : Nat} (hm : m < qs.length) : RdI wr wr.heap.size (hs m).1 (qs.getD m []).length (qs.getD m []) := by
  obtain ⟨xs, _, _, _, h4, _⟩ := h
  refine RdI.of_own (own_same (ho.inner m hm) fun k e => h4 k (fun e' => ?_) (ho.lt hm e))
  have e1 : (hv hs qs m).ownBlock = some k := e
  rcases ho.apart0 m hm with h0 | h0
  · rw [h0] at e1; cases e1
  · subst e'; exact h0 e1
theorem CompAt.drop (h : CompAt w lo g n c hs qs p wr) (h0 : p ≠ 0) (he : qs.getD p [] = qs.getD (p - 1) []) : CompAt w lo g n c hs qs (p + 1) wr := by
  obtain ⟨xs, h1, h2, h3, h4, h5⟩ := h
  exact ⟨xs, h1, by rw [kp_drop h0 he]; exact h2, fun m hm hmn => h3 m (by omega) hmn, h4, h5⟩
theorem CompAt.keep (h : CompAt w lo g n c hs qs p wr) (hp : p < n) (hd : p = 0 ∨ qs.getD p [] ≠ qs.getD (p - 1) []) (hl : (kp qs p).length = p) : CompAt w lo g n c hs qs (p + 1) wr := by
  obtain ⟨xs, h1, h2, h3, h4, h5⟩ := h
  refine ⟨xs, h1, ?_, fun m hm hmn => h3 m (by omega) hmn, h4, h5⟩
  rw [kp_keep hd, List.length_append, List.length_singleton, List.map_append, ← h2, hl, List.take_add_one, h3 p (by omega) hp]
  rfl
theorem CompAt.put (h : CompAt w lo g n c hs qs p wr) (hlt : (kp qs p).length < p) (hp : p < n) (hd : p = 0 ∨ qs.getD p [] ≠ qs.getD (p - 1) []) : CompAt w lo g n c hs qs (p + 1) (wr.setCell ⟨g, (kp qs p).length, none⟩ (hv hs qs p)) := by
  obtain ⟨xs, h1, h2, h3, h4, h5⟩ := h
  obtain ⟨s1, s2⟩ := h1.stored (kp qs p).length (hv hs qs p)
  have hlo := (h1.lt g rfl).1
  have hl := h1.1
  refine ⟨_, s1, ?_, fun m hm hmn => ?_, fun k hk hkl => ?_, h5.setCell hlo _⟩
  · rw [kp_keep hd, List.length_append, List.length_singleton, List.map_append, ← h2]
    apply List.ext_getElem?
    intro j
    rw [List.getElem?_take, List.getElem?_set, List.getElem?_append, List.length_take, Nat.min_eq_left (by omega)]
    by_cases hj : j < (kp qs p).length
    · rw [if_pos (by omega), if_neg (by omega), if_pos hj, List.getElem?_take_of_lt hj]
    · by_cases hj2 : j = (kp qs p).length
      · subst hj2
        rw [if_pos (by omega), if_pos rfl, if_pos (by omega), if_neg (by omega)]; simp
      · rw [if_neg (by omega), if_neg hj]
        rw [List.getElem?_eq_none (by simp; omega)]
  · rw [List.getElem?_set, if_neg (by omega)]
    exact h3 m (by omega) hmn
  · rw [heap_setCell_other wr ⟨g, _, none⟩ k _ hk]
    exact h4 k hk hkl
theorem CompAt.done (h : CompAt w lo g n c hs qs n wr) (ho : OwnQ w lo hi (.slice (some ⟨g, 0, none⟩) n c) hs qs) (hn : qs.length = n) (vs : List Value) :
    OwnQ (wr.setCells g (kp qs n).length vs) lo hi (.slice (some ⟨g, 0, none⟩) (kp qs n).length c) (selH hs (kp qs n)) (cmpctL qs) ∧ Below lo w (wr.setCells g (kp qs n).length vs) := by
  subst hn
  obtain ⟨xs, h1, h2, h3, h4, h5⟩ := h
  obtain ⟨xs', o1, o2, o3⟩ := own_setCells vs (kp qs qs.length).length wr xs h1
  have hlo := (h1.lt g rfl).1
  have hg2 := (h1.lt g rfl).2
  have hk := kp_len qs qs.length
  have hsz := h5.size
  have o4 := own_short o1 hk
  rw [o2, h2] at o4
  have e : cmpctL qs = selQ qs (kp qs qs.length) := by
    have := cmpct_kp qs qs.length (Nat.le_refl _)
    rwa [List.take_length] at this
  rw [e]
  refine ⟨ho.select (fun i hi' => by have := kp_lt qs _ i hi'; omega) (kp_nd qs _) rfl (fun k hk hkl => ?_) o4, h5.grown o3 (by omega) (by intro k hk; cases hk; exact hlo)⟩
  have hkg : k ≠ g := fun e => hk (by rw [e]; rfl)
  rw [o3.block k (by omega) (by intro e; cases e; exact hkg rfl)]
  exact h4 k hkg hkl
end

theorem kp_len_drop {qs : List (List Int)} {k : Nat} (h0 : k ≠ 0) (h : kp qs k = List.range k) (he : qs.getD k [] = qs.getD (k - 1) []) : (kp qs (k + 1)).length = k := by
  rw [kp_drop h0 he, h, List.length_range]
theorem cmpct_short {qs : List (List Int)} (h : qs.length < 2) : cmpctL qs = qs := by
  rcases qs with _ | ⟨x, _ | ⟨y, r⟩⟩
  · rfl
  · rfl
  · simp at h; omega
theorem cmpct_len (qs : List (List Int)) : (cmpctL qs).length = (kp qs qs.length).length := by
  have := cmpct_kp qs qs.length (Nat.le_refl _)
  rw [List.take_length] at this
  rw [this, selQ_len]
theorem zeroS (w : World) : (zeroValue 24).run Tryd.prog w = .ok (.slice none 0 0) w := by kernel_rfl
theorem hv_eq (hs : Nat → Option Addr × Nat) (qs : List (List Int)) (m : Nat) : hv hs qs m = .slice (hs m).1 (qs.getD m []).length (hs m).2 := rfl
/-- The call that compares neighbours, from wherever the draws are. -/
theorem nb_call {w wr : World} {lo hi g n c p : Nat} {hs : Nat → Option Addr × Nat} {qs : List (List Int)} (h : CompAt w lo g n c hs qs p wr) (ho : OwnQ w lo hi (.slice (some ⟨g, 0, none⟩) n c) hs qs) (hq : ∀ q ∈ qs, q.length ≤ 1000) {a b : Nat} (ha : a < qs.length) (hb : b < qs.length) (t : Nat) :
    Calls Tryd.prog 41 #[hv hs qs a, hv hs qs b] (wr.drewN t) fun e w' => e = .returned (.bool (decide (qs.getD a [] = qs.getD b []))) ∧ ∃ m, w' = (wr.drewN t).drewN m :=
  have h' := h.drew t
  equal_d _ _ _ _ _ _ _ _ _ _ _ (h'.read ho ha) (h'.read ho hb) (by have := hq _ (getD_mem ha); omega) (by have := hq _ (getD_mem hb); omega)

set_option maxHeartbeats 4000000 in
theorem compact_any : CompactOk := by
  intro w lo hi n c g hs qs ho hn hn1 hnc hq
  by_cases h2 : n < 2
  · have hd : decide ((n : Int) < 2) = true := by simp; omega
    have HE := Lib.hid (cmpct_short (qs := qs) (by omega))
    have HO := Lib.hid ho
    have HN := Lib.hid hn
    clear ho hn hq
    go_enter Tryd.func40, Tryd.ntmps40
    go_wp2
    go_ret
    exact ⟨hs, ret_len (by rw [HE.out]; exact HN.out.symm), by rw [HE.out, HN.out]; exact HO.out, Below.refl _ _⟩
  · have hd : decide ((n : Int) < 2) = false := by simp; omega
    have H0 := Lib.hid (CompAt.start ho hn (p := 1) (by omega) (by rw [kp_keep (.inl rfl)]; rfl))
    have HO := Lib.hid ho; have HN := Lib.hid hn; have HQ := Lib.hid hq
    have HK1 : Hid (kp qs 1 = List.range 1) := Lib.hid (by rw [kp_keep (.inl rfl)]; rfl)
    clear ho hn hq
    go_enter Tryd.func40, Tryd.ntmps40
    go_wp2
    go_loopw [5] (fun i wr => ∃ k : Nat, k + 1 ≤ n ∧ i = .int .i64 ((k : Int) + 1) ∧ kp qs (k + 1) = List.range (k + 1) ∧ CompAt w lo g n c hs qs (k + 1) wr) (fun i _ => n - (intOf i).toNat)
    case atStart => exact ⟨0, by omega, rfl, HK1.out, H0.out⟩
    case round =>
      obtain ⟨k, hk, rfl, hkp, hat⟩ := hrel
      clear hd
      have HAT := Lib.hid hat; have HKP := Lib.hid hkp
      by_cases hlt : k + 1 < n
      · have hlq : k + 1 < qs.length := by have := HN.out; omega
        have hca := hat.cell (m := k + 1) (by omega) hlt
        have hcb := hat.cell (m := k) (by omega) (by omega)
        have HCL := Lib.hid (nb_call hat HO.out HQ.out (a := k + 1) (b := k) hlq (by omega))
        clear hat hkp
        by_cases he : qs.getD (k + 1) [] = qs.getD k []
        · rw [decide_eq_true he] at HCL
          have HEQ := Lib.hid he
          clear he
          generalize hv hs qs (k + 1) = va at *
          generalize hv hs qs k = vb at *
          go_wp2
          go_quiet (first | (go_at_call 41; refine Calls.quiet_of (HCL.out _)))
          have HAT2 := Lib.hid ((HAT.out.drew nq).drop (by omega) (show qs.getD (k + 1) [] = qs.getD (k + 1 - 1) [] from HEQ.out))
          have HL0 := Lib.hid (kp_len_drop (by omega) HKP.out (show qs.getD (k + 1) [] = qs.getD (k + 1 - 1) [] from HEQ.out))
          clear hca hcb HCL HAT HKP HEQ
          generalize wr.drewN nq = wq at *
          go_wp2
          go_loopw [5, 7] (fun i j wx => ∃ l K : Nat, k + 1 + (l + 1) ≤ n ∧ i = .int .i64 K ∧ j = .int .i64 ((l : Int) + 1) ∧ (kp qs (k + 1 + (l + 1))).length = K ∧ K < k + 1 + (l + 1) ∧ CompAt w lo g n c hs qs (k + 1 + (l + 1)) wx) (fun _ j _ => n - (k + 1) - (intOf j).toNat)
          case atStart => exact ⟨0, k + 1, by omega, by go_num, rfl, HL0.out, by omega, HAT2.out⟩
          case round =>
            obtain ⟨l, K, hl, rfl, rfl, hKl, hKp, hat⟩ := hrel
            have HAT := Lib.hid hat; have HKL := Lib.hid hKl
            by_cases hlt2 : k + 1 + (l + 1) < n
            · have hlq2 : k + 1 + (l + 1) < qs.length := by have := HN.out; omega
              have hca := hat.cell (m := k + 1 + (l + 1)) (by omega) hlt2
              have hcb := hat.cell (m := k + 1 + l) (by omega) (by omega)
              have HCL := Lib.hid (nb_call hat HO.out HQ.out (a := k + 1 + (l + 1)) (b := k + 1 + l) hlq2 (by omega))
              clear hat hKl
              by_cases he : qs.getD (k + 1 + (l + 1)) [] = qs.getD (k + 1 + l) []
              · rw [decide_eq_true he] at HCL
                have HEQ := Lib.hid he
                clear he
                generalize hv hs qs (k + 1 + (l + 1)) = va at *
                generalize hv hs qs (k + 1 + l) = vb at *
                go_wp2
                go_quiet (first | (go_at_call 41; refine Calls.quiet_of (HCL.out _)))
                have HAT3 := Lib.hid ((HAT.out.drew nq).drop (by omega) (show qs.getD (k + 1 + (l + 1)) [] = qs.getD (k + 1 + (l + 1) - 1) [] from HEQ.out))
                have HL3 := Lib.hid (kp_drop (qs := qs) (i := k + 1 + (l + 1)) (by omega) HEQ.out)
                go_wp2
                go_roundw
                case rel => exact ⟨l + 1, K, by omega, rfl, by go_num, by rw [← HKL.out]; exact congrArg List.length HL3.out, by omega, HAT3.out⟩
                case measure => simp [intOf]; omega
              · rw [decide_eq_false he] at HCL
                have HNE := Lib.hid he
                clear he
                obtain ⟨aA, aL, aC, hva⟩ : ∃ a b d, hv hs qs (k + 1 + (l + 1)) = .slice a b d := ⟨_, _, _, rfl⟩
                have HVA := Lib.hid hva
                rw [hva] at hca HCL
                clear hva
                generalize hv hs qs (k + 1 + l) = vb at *
                go_wp2
                go_quiet (first | (go_at_call 41; refine Calls.quiet_of (HCL.out _)))
                have hat4 := HAT.out.drew nq
                have hf := hat4.frozen K
                obtain ⟨o, ho⟩ := hat4.full (m := K) (by omega)
                have hca4 := hat4.cell (m := k + 1 + (l + 1)) (by omega) hlt2
                rw [HVA.out] at hca4
                have hp4 := hat4.put (by rw [HKL.out]; exact hKp) hlt2 (.inr HNE.out)
                rw [HKL.out, HVA.out] at hp4
                have HAT4 := Lib.hid hp4
                have HL4 := Lib.hid (kp_keep (qs := qs) (i := k + 1 + (l + 1)) (.inr HNE.out))
                clear hat4 hp4 hca hcb HCL HAT
                generalize wr.drewN nq = wz at *
                go_wp2
                go_roundw
                case rel => exact ⟨l + 1, K + 1, by omega, by go_num, by go_num, by rw [← HKL.out]; exact (congrArg List.length HL4.out).trans (by simp), by omega, HAT4.out⟩
                case measure => simp [intOf]; omega
            · have hpn : k + 1 + (l + 1) = n := by omega
              rw [hpn] at hat hKl
              have hdn := hat.done HO.out HN.out (List.replicate (n - K) (.slice none 0 0))
              rw [hKl] at hdn
              have hkn : K < n := by omega
              have hKc : K ≤ c := by omega
              have hcl : ∀ ty, (Builtin.clear_ #[26] ty #[.slice (some ⟨g, K, none⟩) (n - K) (c - K)]).run Tryd.prog wr = .ok (.tuple #[]) (wr.setCells g K (List.replicate (n - K) (.slice none 0 0))) := fun ty =>
                Lib.run_clear_slice wr _ 24 ty (.slice none 0 0) Tryd.underlying26 zeroS rfl rfl g K (n - K) (c - K) (by omega) (fun j hj => by obtain ⟨v, hv⟩ := hat.full (m := K + j) (by omega); rw [hv]; rfl) (fun j _ => hat.frozen _)
              have HDN := Lib.hid hdn
              have HLN : Hid ((cmpctL qs).length = K) := Lib.hid (by rw [cmpct_len, HN.out]; exact hKl)
              clear hat hKl hdn HAT HKL hpn
              go_wp2
              go_ret
              exact ⟨_, ret_len HLN.out.symm, by rw [HLN.out]; exact HDN.out.1, HDN.out.2⟩
        · rw [decide_eq_false he] at HCL
          have HNE := Lib.hid he
          clear he
          generalize hv hs qs (k + 1) = va at *
          generalize hv hs qs k = vb at *
          go_wp2
          go_quiet (first | (go_at_call 41; refine Calls.quiet_of (HCL.out _)))
          have HK3 := Lib.hid (range_kp HKP.out (.inr HNE.out))
          have HAT3 := HAT.out.drew nq
          go_wp2
          go_roundw
          case rel => exact ⟨k + 1, by omega, by go_num, HK3.out, HAT3.keep hlt (.inr HNE.out) (by rw [HKP.out, List.length_range])⟩
          case measure => simp [intOf]; omega
      · have hkn : k + 1 = n := by omega
        rw [hkn] at hat hkp
        have hdn := hat.done HO.out HN.out []
        have HLN : Hid ((cmpctL qs).length = n) := Lib.hid (by rw [cmpct_len, HN.out, hkp, List.length_range])
        rw [hkp, List.length_range] at hdn
        have HDN := Lib.hid hdn
        clear hat hkp hdn HAT HKP
        go_wp2
        go_ret
        exact ⟨_, ret_len HLN.out.symm, by rw [HLN.out]; exact HDN.out.1, HDN.out.2⟩
end Go.Proofs.YtdgejhlpncnenaaDoor
