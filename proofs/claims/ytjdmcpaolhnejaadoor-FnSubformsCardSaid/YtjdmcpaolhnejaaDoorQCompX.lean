/- slices.CompactFunc at a row of formulas in memory of its own: the walk. OperandOf: of the program and of the model: the walks. OperatorOf: of the program and of the model. FragmentOf: of the program and of the model. LeavesOf: of the program and of the model. What the dual keeps: validity, depth, fragment, the leaves but for their sign. Plain mathematics. A formula is made again of its operator and its operands. Plain mathematics. Mathematics for FnSubforms: the parts of a formula are formulas, the first operand is one of them, and the formula itself is the last. SymbolCount: of the program and of the model. -/
import Derived.Test.YtjdmcpaolhnejaaDoorQInsF
import Derived.Test.YtjdmcpaolhnejaaDoorQInsW
import Derived.Test.YtjdmcpaolhnejaaDoorQValid
import Derived.Test.YtjdmcpaolhnejaaDoorAny
namespace Go.Proofs.YtjdmcpaolhnejaaDoor
set_option linter.unusedSimpArgs false
set_option linter.unusedVariables false
section
open Go.ChangeShapes Go.WideShapes Go.ChangeAt Go.RowKit

/-- The row as the walk has it when p places are looked at: the kept headers in front, and those from p - 1 on as they were. -/
def CompAt (w : World) (lo g n c : Nat) (hs : Nat → Option Addr × Nat) (qs : List (List Int)) (p : Nat) (wr : World) : Prop :=
  ∃ xs, wr.ownsRow lo 22 1 (.slice (some ⟨g, 0, none⟩) n c) n xs ∧ xs.take (kp qs p).length = (kp qs p).map (hv hs qs) ∧ (∀ m, p ≤ m + 1 → m < n → xs[m]? = some (hv hs qs m)) ∧
    (∀ k, k ≠ g → k < w.heap.size → wr.heap[k]? = w.heap[k]?) ∧ Below lo w wr
section
variable {w wr : World} {lo hi g n c p : Nat} {hs : Nat → Option Addr × Nat} {qs : List (List Int)}
theorem CompAt.start (h : OwnQ w lo hi (.slice (some ⟨g, 0, none⟩) n c) hs qs) (hn : qs.length = n) (hp : p ≤ n) (hk : kp qs p = List.range p) : CompAt w lo g n c hs qs p w := by
  subst hn
  refine ⟨rowV hs qs, h.outer, ?_, fun m _ hm => rowV_at hm, fun _ _ _ => rfl, Below.refl _ _⟩
  rw [hk, List.length_range]
  apply List.ext_getElem?
  intro j
  by_cases hj : j < p
  · rw [List.getElem?_take_of_lt hj, rowV_at (by omega)]; simp [hj]
  · rw [List.getElem?_eq_none (by simp; omega), List.getElem?_eq_none (by simp; omega)]
theorem CompAt.drew (h : CompAt w lo g n c hs qs p wr) (m : Nat) : CompAt w lo g n c hs qs p (wr.drewN m) := by
  obtain ⟨xs, h1, h2, h3, h4, h5⟩ := h
  exact ⟨xs, own_same h1 fun _ _ => rfl, h2, h3, h4, below_drewN h5 m⟩
theorem CompAt.cell (h : CompAt w lo g n c hs qs p wr) {m : Nat} (hp : p ≤ m + 1) (hm : m < n) : wr.cell? ⟨g, m, none⟩ = some (hv hs qs m) := by
  obtain ⟨xs, h1, h2, h3, h4, h5⟩ := h
  rw [h1.cellAt m (by omega), h3 m hp hm]
theorem CompAt.frozen (h : CompAt w lo g n c hs qs p wr) (m : Nat) : wr.frozen? ⟨g, m, none⟩ = false := by
  obtain ⟨xs, h1, _⟩ := h
  exact h1.frozenAt m
theorem CompAt.full (h : CompAt w lo g n c hs qs p wr) {m : Nat} (hm : m < n) : ∃ v, wr.cell? ⟨g, m, none⟩ = some v := by
  obtain ⟨xs, h1, _⟩ := h
  rw [h1.cellAt m (by omega)]
  have := h1.1
  exact ⟨xs[m]'(by omega), List.getElem?_eq_getElem (by omega)⟩
theorem CompAt.read (h : CompAt w lo g n c hs qs p wr) (ho : OwnQ w lo hi (.slice (some ⟨g, 0, none⟩) n c) hs qs) {m : Nat} (hm : m < qs.length) : RdI wr wr.heap.size (hs m).1 (qs.getD m []).length (qs.getD m []) := by
  obtain ⟨xs, _, _, _, h4, _⟩ := h
  refine RdI.of_own (own_same (ho.inner m hm) fun k e => h4 k (fun e' => ?_) (ho.lt hm e))
  have e1 : (hv hs qs m).ownBlock = some k := e
  rcases ho.apart0 m hm with h0 | h0
  · rw [h0] at e1; cases e1
  · subst e'; exact h0 e1
theorem CompAt.drop (h : CompAt w lo g n c hs qs p wr) (h0 : p ≠ 0) (he : qs.getD p [] = qs.getD (p - 1) []) : CompAt w lo g n c hs qs (p + 1) wr := by
  obtain ⟨xs, h1, h2, h3, h4, h5⟩ := h
  exact ⟨xs, h1, by rw [kp_drop h0 he]; exact h2, fun m hm hmn => h3 m (by omega) hmn, h4, h5⟩
theorem CompAt.keep (h : CompAt w lo g n c hs qs p wr) (hp : p < n) (hd : p = 0 ∨ qs.getD p [] ≠ qs.getD (p - 1) []) (hl : (kp qs p).length = p) : CompAt w lo g n c hs qs (p + 1) wr := by
  obtain ⟨xs, h1, h2, h3, h4, h5⟩ := h
  refine ⟨xs, h1, ?_, fun m hm hmn => h3 m (by omega) hmn, h4, h5⟩
  rw [kp_keep hd, List.length_append, List.length_singleton, List.map_append, ← h2, hl, List.take_add_one, h3 p (by omega) hp]
  rfl
theorem CompAt.put (h : CompAt w lo g n c hs qs p wr) (hlt : (kp qs p).length < p) (hp : p < n) (hd : p = 0 ∨ qs.getD p [] ≠ qs.getD (p - 1) []) : CompAt w lo g n c hs qs (p + 1) (wr.setCell ⟨g, (kp qs p).length, none⟩ (hv hs qs p)) := by
  obtain ⟨xs, h1, h2, h3, h4, h5⟩ := h
  obtain ⟨s1, s2⟩ := h1.stored (kp qs p).length (hv hs qs p)
  have hlo := (h1.lt g rfl).1
  have hl := h1.1
  refine ⟨_, s1, ?_, fun m hm hmn => ?_, fun k hk hkl => ?_, h5.setCell hlo _⟩
  · rw [kp_keep hd, List.length_append, List.length_singleton, List.map_append, ← h2]
    apply List.ext_getElem?
    intro j
    rw [List.getElem?_take, List.getElem?_set, List.getElem?_append, List.length_take, Nat.min_eq_left (by omega)]
    by_cases hj : j < (kp qs p).length
    · rw [if_pos (by omega), if_neg (by omega), if_pos hj, List.getElem?_take_of_lt hj]
    · by_cases hj2 : j = (kp qs p).length
      · subst hj2
        rw [if_pos (by omega), if_pos rfl, if_pos (by omega), if_neg (by omega)]; simp
      · rw [if_neg (by omega), if_neg hj]
        rw [List.getElem?_eq_none (by simp; omega)]
  · rw [List.getElem?_set, if_neg (by omega)]
    exact h3 m (by omega) hmn
  · rw [heap_setCell_other wr ⟨g, _, none⟩ k _ hk]
    exact h4 k hk hkl
theorem CompAt.done (h : CompAt w lo g n c hs qs n wr) (ho : OwnQ w lo hi (.slice (some ⟨g, 0, none⟩) n c) hs qs) (hn : qs.length = n) (vs : List Value) :
    OwnQ (wr.setCells g (kp qs n).length vs) lo hi (.slice (some ⟨g, 0, none⟩) (kp qs n).length c) (selH hs (kp qs n)) (cmpctL qs) ∧ Below lo w (wr.setCells g (kp qs n).length vs) := by
  subst hn
  obtain ⟨xs, h1, h2, h3, h4, h5⟩ := h
  obtain ⟨xs', o1, o2, o3⟩ := own_setCells vs (kp qs qs.length).length wr xs h1
  have hlo := (h1.lt g rfl).1
  have hg2 := (h1.lt g rfl).2
  have hk := kp_len qs qs.length
  have hsz := h5.size
  have o4 := own_short o1 hk
  rw [o2, h2] at o4
  have e : cmpctL qs = selQ qs (kp qs qs.length) := by
    have := cmpct_kp qs qs.length (Nat.le_refl _)
    rwa [List.take_length] at this
  rw [e]
  refine ⟨ho.select (fun i hi' => by have := kp_lt qs _ i hi'; omega) (kp_nd qs _) rfl (fun k hk hkl => ?_) o4, h5.grown o3 (by omega) (by intro k hk; cases hk; exact hlo)⟩
  have hkg : k ≠ g := fun e => hk (by rw [e]; rfl)
  rw [o3.block k (by omega) (by intro e; cases e; exact hkg rfl)]
  exact h4 k hkg hkl
end

theorem kp_len_drop {qs : List (List Int)} {k : Nat} (h0 : k ≠ 0) (h : kp qs k = List.range k) (he : qs.getD k [] = qs.getD (k - 1) []) : (kp qs (k + 1)).length = k := by
  rw [kp_drop h0 he, h, List.length_range]
theorem cmpct_short {qs : List (List Int)} (h : qs.length < 2) : cmpctL qs = qs := by
  rcases qs with _ | ⟨x, _ | ⟨y, r⟩⟩
  · rfl
  · rfl
  · simp at h; omega
theorem cmpct_len (qs : List (List Int)) : (cmpctL qs).length = (kp qs qs.length).length := by
  have := cmpct_kp qs qs.length (Nat.le_refl _)
  rw [List.take_length] at this
  rw [this, selQ_len]
theorem zeroS (w : World) : (zeroValue 22).run Tryd.prog w = .ok (.slice none 0 0) w := by kernel_rfl
theorem hv_eq (hs : Nat → Option Addr × Nat) (qs : List (List Int)) (m : Nat) : hv hs qs m = .slice (hs m).1 (qs.getD m []).length (hs m).2 := rfl
/-- The call that compares neighbours, from wherever the draws are. -/
theorem nb_call {w wr : World} {lo hi g n c p : Nat} {hs : Nat → Option Addr × Nat} {qs : List (List Int)} (h : CompAt w lo g n c hs qs p wr) (ho : OwnQ w lo hi (.slice (some ⟨g, 0, none⟩) n c) hs qs) (hq : ∀ q ∈ qs, q.length ≤ 1000) {a b : Nat} (ha : a < qs.length) (hb : b < qs.length) (t : Nat) :
    Calls Tryd.prog 35 #[hv hs qs a, hv hs qs b] (wr.drewN t) fun e w' => e = .returned (.bool (decide (qs.getD a [] = qs.getD b []))) ∧ ∃ m, w' = (wr.drewN t).drewN m :=
  have h' := h.drew t
  equal_d _ _ _ _ _ _ _ _ _ _ _ (h'.read ho ha) (h'.read ho hb) (by have := hq _ (getD_mem ha); omega) (by have := hq _ (getD_mem hb); omega)

set_option maxHeartbeats 4000000 in
theorem compact_any : CompactOk := by
  intro w lo hi n c g hs qs ho hn hn1 hnc hq
  by_cases h2 : n < 2
  · have hd : decide ((n : Int) < 2) = true := by simp; omega
    have HE := Lib.hid (cmpct_short (qs := qs) (by omega))
    have HO := Lib.hid ho
    have HN := Lib.hid hn
    clear ho hn hq
    go_enter Tryd.func34, Tryd.ntmps34
    go_wp2
    go_ret
    exact ⟨hs, ret_len (by rw [HE.out]; exact HN.out.symm), by rw [HE.out, HN.out]; exact HO.out, Below.refl _ _⟩
  · have hd : decide ((n : Int) < 2) = false := by simp; omega
    have H0 := Lib.hid (CompAt.start ho hn (p := 1) (by omega) (by rw [kp_keep (.inl rfl)]; rfl))
    have HO := Lib.hid ho; have HN := Lib.hid hn; have HQ := Lib.hid hq
    have HK1 : Hid (kp qs 1 = List.range 1) := Lib.hid (by rw [kp_keep (.inl rfl)]; rfl)
    clear ho hn hq
    go_enter Tryd.func34, Tryd.ntmps34
    go_wp2
    go_loopw [5] (fun i wr => ∃ k : Nat, k + 1 ≤ n ∧ i = .int .i64 ((k : Int) + 1) ∧ kp qs (k + 1) = List.range (k + 1) ∧ CompAt w lo g n c hs qs (k + 1) wr) (fun i _ => n - (intOf i).toNat)
    case atStart => exact ⟨0, by omega, rfl, HK1.out, H0.out⟩
    case round =>
      obtain ⟨k, hk, rfl, hkp, hat⟩ := hrel
      clear hd
      have HAT := Lib.hid hat; have HKP := Lib.hid hkp
      by_cases hlt : k + 1 < n
      · have hlq : k + 1 < qs.length := by have := HN.out; omega
        have hca := hat.cell (m := k + 1) (by omega) hlt
        have hcb := hat.cell (m := k) (by omega) (by omega)
        have HCL := Lib.hid (nb_call hat HO.out HQ.out (a := k + 1) (b := k) hlq (by omega))
        clear hat hkp
        by_cases he : qs.getD (k + 1) [] = qs.getD k []
        · rw [decide_eq_true he] at HCL
          have HEQ := Lib.hid he
          clear he
          generalize hv hs qs (k + 1) = va at *
          generalize hv hs qs k = vb at *
          go_wp2
          go_quiet (first | (go_at_call 35; refine Calls.quiet_of (HCL.out _)))
          have HAT2 := Lib.hid ((HAT.out.drew nq).drop (by omega) (show qs.getD (k + 1) [] = qs.getD (k + 1 - 1) [] from HEQ.out))
          have HL0 := Lib.hid (kp_len_drop (by omega) HKP.out (show qs.getD (k + 1) [] = qs.getD (k + 1 - 1) [] from HEQ.out))
          clear hca hcb HCL HAT HKP HEQ
          generalize wr.drewN nq = wq at *
          go_wp2
          go_loopw [5, 7] (fun i j wx => ∃ l K : Nat, k + 1 + (l + 1) ≤ n ∧ i = .int .i64 K ∧ j = .int .i64 ((l : Int) + 1) ∧ (kp qs (k + 1 + (l + 1))).length = K ∧ K < k + 1 + (l + 1) ∧ CompAt w lo g n c hs qs (k + 1 + (l + 1)) wx) (fun _ j _ => n - (k + 1) - (intOf j).toNat)
          case atStart => exact ⟨0, k + 1, by omega, by go_num, rfl, HL0.out, by omega, HAT2.out⟩
          case round =>
            obtain ⟨l, K, hl, rfl, rfl, hKl, hKp, hat⟩ := hrel
            have HAT := Lib.hid hat; have HKL := Lib.hid hKl
            by_cases hlt2 : k + 1 + (l + 1) < n
            · have hlq2 : k + 1 + (l + 1) < qs.length := by have := HN.out; omega
              have hca := hat.cell (m := k + 1 + (l + 1)) (by omega) hlt2
              have hcb := hat.cell (m := k + 1 + l) (by omega) (by omega)
              have HCL := Lib.hid (nb_call hat HO.out HQ.out (a := k + 1 + (l + 1)) (b := k + 1 + l) hlq2 (by omega))
              clear hat hKl
              by_cases he : qs.getD (k + 1 + (l + 1)) [] = qs.getD (k + 1 + l) []
              · rw [decide_eq_true he] at HCL
                have HEQ := Lib.hid he
                clear he
                generalize hv hs qs (k + 1 + (l + 1)) = va at *
                generalize hv hs qs (k + 1 + l) = vb at *
                go_wp2
                go_quiet (first | (go_at_call 35; refine Calls.quiet_of (HCL.out _)))
                have HAT3 := Lib.hid ((HAT.out.drew nq).drop (by omega) (show qs.getD (k + 1 + (l + 1)) [] = qs.getD (k + 1 + (l + 1) - 1) [] from HEQ.out))
                have HL3 := Lib.hid (kp_drop (qs := qs) (i := k + 1 + (l + 1)) (by omega) HEQ.out)
                go_wp2
                go_roundw
                case rel => exact ⟨l + 1, K, by omega, rfl, by go_num, by rw [← HKL.out]; exact congrArg List.length HL3.out, by omega, HAT3.out⟩
                case measure => simp [intOf]; omega
              · rw [decide_eq_false he] at HCL
                have HNE := Lib.hid he
                clear he
                obtain ⟨aA, aL, aC, hva⟩ : ∃ a b d, hv hs qs (k + 1 + (l + 1)) = .slice a b d := ⟨_, _, _, rfl⟩
                have HVA := Lib.hid hva
                rw [hva] at hca HCL
                clear hva
                generalize hv hs qs (k + 1 + l) = vb at *
                go_wp2
                go_quiet (first | (go_at_call 35; refine Calls.quiet_of (HCL.out _)))
                have hat4 := HAT.out.drew nq
                have hf := hat4.frozen K
                obtain ⟨o, ho⟩ := hat4.full (m := K) (by omega)
                have hca4 := hat4.cell (m := k + 1 + (l + 1)) (by omega) hlt2
                rw [HVA.out] at hca4
                have hp4 := hat4.put (by rw [HKL.out]; exact hKp) hlt2 (.inr HNE.out)
                rw [HKL.out, HVA.out] at hp4
                have HAT4 := Lib.hid hp4
                have HL4 := Lib.hid (kp_keep (qs := qs) (i := k + 1 + (l + 1)) (.inr HNE.out))
                clear hat4 hp4 hca hcb HCL HAT
                generalize wr.drewN nq = wz at *
                go_wp2
                go_roundw
                case rel => exact ⟨l + 1, K + 1, by omega, by go_num, by go_num, by rw [← HKL.out]; exact (congrArg List.length HL4.out).trans (by simp), by omega, HAT4.out⟩
                case measure => simp [intOf]; omega
            · have hpn : k + 1 + (l + 1) = n := by omega
              rw [hpn] at hat hKl
              have hdn := hat.done HO.out HN.out (List.replicate (n - K) (.slice none 0 0))
              rw [hKl] at hdn
              have hkn : K < n := by omega
              have hKc : K ≤ c := by omega
              have hcl : ∀ ty, (Builtin.clear_ #[23] ty #[.slice (some ⟨g, K, none⟩) (n - K) (c - K)]).run Tryd.prog wr = .ok (.tuple #[]) (wr.setCells g K (List.replicate (n - K) (.slice none 0 0))) := fun ty =>
                Lib.run_clear_slice wr _ 22 ty (.slice none 0 0) Tryd.underlying23 zeroS rfl rfl g K (n - K) (c - K) (by omega) (fun j hj => by obtain ⟨v, hv⟩ := hat.full (m := K + j) (by omega); rw [hv]; rfl) (fun j _ => hat.frozen _)
              have HDN := Lib.hid hdn
              have HLN : Hid ((cmpctL qs).length = K) := Lib.hid (by rw [cmpct_len, HN.out]; exact hKl)
              clear hat hKl hdn HAT HKL hpn
              go_wp2
              go_ret
              exact ⟨_, ret_len HLN.out.symm, by rw [HLN.out]; exact HDN.out.1, HDN.out.2⟩
        · rw [decide_eq_false he] at HCL
          have HNE := Lib.hid he
          clear he
          generalize hv hs qs (k + 1) = va at *
          generalize hv hs qs k = vb at *
          go_wp2
          go_quiet (first | (go_at_call 35; refine Calls.quiet_of (HCL.out _)))
          have HK3 := Lib.hid (range_kp HKP.out (.inr HNE.out))
          have HAT3 := HAT.out.drew nq
          go_wp2
          go_roundw
          case rel => exact ⟨k + 1, by omega, by go_num, HK3.out, HAT3.keep hlt (.inr HNE.out) (by rw [HKP.out, List.length_range])⟩
          case measure => simp [intOf]; omega
      · have hkn : k + 1 = n := by omega
        rw [hkn] at hat hkp
        have hdn := hat.done HO.out HN.out []
        have HLN : Hid ((cmpctL qs).length = n) := Lib.hid (by rw [cmpct_len, HN.out, hkp, List.length_range])
        rw [hkp, List.length_range] at hdn
        have HDN := Lib.hid hdn
        clear hat hkp hdn HAT HKP
        go_wp2
        go_ret
        exact ⟨_, ret_len HLN.out.symm, by rw [HLN.out]; exact HDN.out.1, HDN.out.2⟩
end
section
open Go.RowKit

set_option maxHeartbeats 2000000 in
theorem soperand_in (A : Option Addr) (c : Nat) (f : List Int) (k : Int) (w : World) (h : RdI w w.heap.size A f.length f) (hnc : f.length ≤ c) (hb : opndB f k = true) :
    Calls Tryd.prog 42 #[.slice A f.length c, .int .i64 k] w (Gives w ((f.drop (opS f k)).take (opE f k - opS f k))) := by
  obtain ⟨hv, hk0, hka⟩ := of_decide_eq_true hb
  have l1 := valid_len hv
  obtain ⟨b1, off1, rfl, hb1, hc1⟩ := h.2 (by omega)
  obtain ⟨e1, e2, e3, e4, e5⟩ := opnd_in hb
  have hP := part_cut (c := c - opS f k) hb1 hc1 e2 e3
  have hzl : ((f.drop (opS f k)).take (opE f k - opS f k)).length ≤ 1000 := by simp; omega
  have HCL := Lib.hid (copyInts_any _ _ w hP hzl)
  have he24 : f.length ≤ 1048576 := by omega
  have HE := Lib.hid e1
  have HF := Lib.hid e5
  generalize (f.drop (opS f k)).take (opE f k - opS f k) = J at HCL ⊢
  generalize opS f k = S at *
  generalize opE f k = E at *
  have hcS : ¬ c = S := by omega
  have hSE : S ≤ E := by omega
  have hEc : E ≤ c := by omega
  clear hP hzl e1 e5 l1 hb hka hc1 e4 hv
  rcases HF.out with ⟨rfl, rfl⟩ | ⟨rfl, hS⟩
  · clear HF
    go_enter Tryd.func42, Tryd.ntmps42
    go_wp2
    refine wp_loop_rounds 1 ?_
    rw [rounds_succ]
    go_wp2_with (first | (go_at_call 29; refine (sformEnd_any _ _ _ f 1 _ h he24).mono ?_; rw [show fe f 1 = (E : Int) from HE.out]; rintro e w' ⟨rfl, rfl⟩) | (go_at_call 28; refine HCL.out.mono ?_; rintro e w2 ⟨A2, c2, rfl, hown2, hbel2⟩))
    go_ret
    exact ⟨_, _, rfl, hown2, hbel2⟩
  · clear HF
    have HS := Lib.hid hS
    clear hS
    go_enter Tryd.func42, Tryd.ntmps42
    go_wp2
    refine wp_loop_rounds 2 ?_
    rw [rounds_succ]
    go_wp2_with (go_at_call 29; refine (sformEnd_any _ _ _ f 1 _ h he24).mono ?_; rw [HS.out]; rintro e w' ⟨rfl, rfl⟩)
    rw [rounds_succ]
    go_wp2_with (first | (go_at_call 29; refine (sformEnd_any _ _ _ f S _ h he24).mono ?_; rw [HE.out]; rintro e w' ⟨rfl, rfl⟩) | (go_at_call 28; refine HCL.out.mono ?_; rintro e w2 ⟨A2, c2, rfl, hown2, hbel2⟩))
    go_ret
    exact ⟨_, _, rfl, hown2, hbel2⟩

set_option maxHeartbeats 1000000 in
theorem sOperandOf_any (A : Option Addr) (n c : Nat) (f : List Int) (k : Int) (w : World) (h : RdI w w.heap.size A n f) (hnc : n ≤ c) :
    Calls Tryd.prog 19 #[.slice A n c, .int .i64 k] w (GivesB w (opndL f k) (opndB f k)) := by
  have hl := h.len
  subst hl
  cases hv : validB f with
  | false =>
    have hno : ¬ (validB f = true ∧ 0 ≤ k ∧ k < arZ (f.getD 0 0)) := by rw [hv]; simp
    rw [opndL_no (opndB_no hno), opndB_no hno]
    clear hno
    go_enter Tryd.func19, Tryd.ntmps19
    go_wp2_with (go_at_call 16; refine (sValidForm_any _ _ _ f _ h).mono ?_; rintro e w' ⟨rfl, rfl⟩)
    go_ret2
    exact givesB_nil w
  | true =>
    have l1 := valid_len hv
    obtain ⟨b1, off1, rfl, hb1, hc1⟩ := h.2 (by omega)
    have hc : w.cell? ⟨b1, off1, none⟩ = some (.int .i64 (f.getD 0 0)) := hc1 0 (by omega)
    have h0 : 0 < f.length := by omega
    have hx1 := arZ_lo (f.getD 0 0)
    have hx2 := arZ_hi (f.getD 0 0)
    by_cases hk : 0 ≤ k ∧ k < arZ (f.getD 0 0)
    · have hb : opndB f k = true := opndB_yes ⟨hv, hk⟩
      rw [opndL_yes hb, hb]
      have HO := Lib.hid (soperand_in (some ⟨b1, off1, none⟩) c f k w h hnc hb)
      generalize (f.drop (opS f k)).take (opE f k - opS f k) = J at HO ⊢
      generalize f.getD 0 0 = x at *
      have HK : Hid (0 ≤ k ∧ k ≤ arZ x - 1) := Lib.hid (by omega)
      clear hk hb hc1 l1 hnc
      go_enter Tryd.func19, Tryd.ntmps19
      go_wp2_with (first | (go_at_call 16; refine (sValidForm_any _ _ _ f _ h).mono ?_; rintro e w' ⟨rfl, rfl⟩) | (go_at_call 41; refine (arity_any x _).mono ?_; rintro e w' ⟨rfl, rfl⟩) | (go_at_call 40; refine (inRange_yes _ _ _ _ HK.out).mono ?_; rintro e w' ⟨rfl, rfl⟩) | (go_at_call 42; refine HO.out.mono ?_; rintro e w2 ⟨A2, c2, rfl, hown2, hbel2⟩))
      go_ret2
      exact ⟨_, _, rfl, hown2, hbel2⟩
    · have hno : ¬ (validB f = true ∧ 0 ≤ k ∧ k < arZ (f.getD 0 0)) := fun h' => hk h'.2
      rw [opndL_no (opndB_no hno), opndB_no hno]
      generalize f.getD 0 0 = x at *
      have HK : Hid (¬ (0 ≤ k ∧ k ≤ arZ x - 1)) := Lib.hid (by omega)
      clear hno hk hc1 l1 hnc
      go_enter Tryd.func19, Tryd.ntmps19
      go_wp2_with (first | (go_at_call 16; refine (sValidForm_any _ _ _ f _ h).mono ?_; rintro e w' ⟨rfl, rfl⟩) | (go_at_call 41; refine (arity_any x _).mono ?_; rintro e w' ⟨rfl, rfl⟩) | (go_at_call 40; refine (inRange_no _ _ _ _ HK.out).mono ?_; rintro e w' ⟨rfl, rfl⟩))
      go_ret2
      exact givesB_nil w
end
section
open Go.RowKit
end
section
open Go.RowKit
end
section
open Go.RowKit
end
section
open Go.RowKit
end
section
open Go.RowKit

theorem scan_move : ∀ (xs : List Int) (m a b : Int) (q : Nat), 1 ≤ m → 0 ≤ a → 0 ≤ b → scan xs m a = a + q → scan xs m b = b + q ∧ scan (xs.take q) m b = b + q
  | [], _, a, _, q, _, ha, _, h => by rw [scan_nil] at h; omega
  | x :: xs, m, a, b, q, hm, ha, hb, h => by
    by_cases hx : arZ x = -1
    · rw [scan_bad _ _ _ hx] at h; omega
    · have hx0 : 0 ≤ arZ x := by have := arZ_lo x; omega
      by_cases hr : m + arZ x = 1
      · rw [scan_end _ _ _ hx0 hr] at h
        have hq : q = 1 := by omega
        subst hq
        exact ⟨by rw [scan_end _ _ _ hx0 hr]; rfl, by rw [List.take_succ_cons, scan_end _ _ _ hx0 hr]; rfl⟩
      · rw [scan_on _ _ _ hx0 hr] at h
        have hbd := scan_bd xs (m + arZ x - 1) (a + 1) (by omega)
        obtain ⟨q', rfl⟩ : ∃ q', q = q' + 1 := ⟨q - 1, by omega⟩
        obtain ⟨h1, h2⟩ := scan_move xs (m + arZ x - 1) (a + 1) (b + 1) q' (by omega) (by omega) (by omega) (by omega)
        refine ⟨by rw [scan_on _ _ _ hx0 hr, h1]; omega, ?_⟩
        rw [List.take_succ_cons, scan_on _ _ _ hx0 hr, h2]; omega

/-- What a formula's end cuts out is valid. -/
theorem seg_valid {f : List Int} {s e : Nat} (h : fe f s = e) (h1 : s < e) (h2 : e ≤ f.length) (h3 : f.length ≤ 24) : validB ((f.drop s).take (e - s)) = true := by
  rw [fe_any] at h
  have h4 := (scan_move (f.drop s) 1 s 0 (e - s) (by omega) (by omega) (by omega) (by omega)).2
  have hl : ((f.drop s).take (e - s)).length = e - s := by rw [List.length_take, List.length_drop]; omega
  generalize (f.drop s).take (e - s) = g at h4 hl
  have e1 := fe_any g 0
  rw [show ((0 : Nat) : Int) = 0 from rfl, List.drop_zero, h4] at e1
  simp only [validB, decide_eq_true_eq]
  rw [feI_small (by omega), e1]
  omega
end
section
open Go.ChangeShapes Go.WideShapes Go.ChangeAt Go.RowKit

theorem part_valid {f : List Int} (hv : validB f = true) {k : Nat} (hk : k < f.length) : validB (partAt f k) = true := by
  have h1 := fe_some hv hk
  have h2 := valid_len hv
  have h3 := seg_valid (f := f) (s := k) (e := (fe f k).toNat) (by omega) (by omega) (by omega) h2.2.1
  exact h3
theorem insK_iff (f : List Int) : ∀ (k : Nat) (z : List Int), z ∈ insK f k ↔ ∃ j, j < k ∧ z = partAt f j
  | 0, z => by simp [insK]
  | k + 1, z => by
    rw [insK_step, insL_mem, insK_iff f k z]
    constructor
    · rintro (h | ⟨j, h1, h2⟩)
      · exact ⟨k, by omega, h⟩
      · exact ⟨j, by omega, h2⟩
    · rintro ⟨j, h1, h2⟩
      by_cases e : j = k
      · subst e; exact .inl h2
      · exact .inr ⟨j, by omega, h2⟩
theorem subL_iff {f : List Int} (hv : validB f = true) (z : List Int) : z ∈ subL f ↔ ∃ j, j < f.length ∧ z = partAt f j := by
  rw [subL_yes hv]; exact insK_iff f _ z
theorem part_zero {f : List Int} (hv : validB f = true) : partAt f 0 = f := by
  have h := (valid_len hv).2.2
  unfold partAt
  rw [show fe f ((0 : Nat) : Int) = f.length from h]
  simp
theorem cmpL_long {a b : List Int} (h : b.length < a.length) : cmpL a b = 1 := by
  have e : cmZ (a.length : Int) b.length = 1 := by
    rcases cmZ_cases (a.length : Int) b.length with h1 | h1 | h1 <;> omega
  unfold cmpL
  rw [e, if_neg (by decide)]
theorem sub_in {f : List Int} (hv : validB f = true) : 0 < (subL f).length := by
  have h := valid_len hv
  have : f ∈ subL f := (subL_iff hv f).2 ⟨0, by omega, (part_zero hv).symm⟩
  exact List.length_pos_of_mem this
theorem getD_at {qs : List (List Int)} {i : Nat} (h : i < qs.length) : qs.getD i [] ∈ qs := by simp [List.getD, h]
theorem sub_last {f : List Int} (hv : validB f = true) : (subL f).getD ((subL f).length - 1) [] = f := by
  have h0 := sub_in hv
  have hs : SoS (subL f) := by rw [subL_yes hv]; exact insK_sos f _
  have h := valid_len hv
  have hm : f ∈ subL f := (subL_iff hv f).2 ⟨0, by omega, (part_zero hv).symm⟩
  obtain ⟨i, hi, he⟩ := List.getElem_of_mem hm
  have hg : (subL f).getD i [] = f := by simp [List.getD, hi, he]
  by_cases e : i = (subL f).length - 1
  · rw [← e]; exact hg
  · exfalso
    have hl := sos_get hs (i := i) (j := (subL f).length - 1) (by omega) (by omega)
    rw [hg] at hl
    obtain ⟨j, hj, hz⟩ := (subL_iff hv _).1 (getD_at (qs := subL f) (i := (subL f).length - 1) (by omega))
    rw [hz] at hl
    by_cases j0 : j = 0
    · subst j0
      rw [part_zero hv] at hl
      have := cmpL_neg f f
      omega
    · have : (partAt f j).length < f.length := by
        unfold partAt; rw [List.length_take, List.length_drop]; omega
      rw [cmpL_long this] at hl
      omega
theorem sub_valid {f : List Int} (hv : validB f = true) {i : Nat} (hi : i < (subL f).length) : validB ((subL f).getD i []) = true := by
  obtain ⟨j, hj, hz⟩ := (subL_iff hv _).1 (getD_at hi)
  rw [hz]; exact part_valid hv hj
theorem sub_before {f : List Int} (hv : validB f = true) {i : Nat} (h0 : 1 ≤ i) (hi : i < (subL f).length) : befB ((subL f).getD (i - 1) []) ((subL f).getD i []) = true := by
  have hs : SoS (subL f) := by rw [subL_yes hv]; exact insK_sos f _
  have hl := sos_get hs (i := i - 1) (j := i) (by omega) hi
  unfold befB
  rw [sub_valid hv (by omega), sub_valid hv hi, decide_eq_true hl]
  rfl
theorem opnd_part {f : List Int} (h : opndB f 0 = true) : opndL f 0 = partAt f 1 ∧ 1 < f.length := by
  obtain ⟨_, h2, h3, _, _⟩ := opnd_in h
  have hS : opS f 0 = 1 := by simp [opS]
  rw [hS] at h2
  refine ⟨?_, by omega⟩
  rw [opndL_yes h]
  unfold opE partAt
  rw [hS]
theorem opnd_at {f : List Int} (hv : validB f = true) (h : opndB f 0 = true) : ∃ i, i < (subL f).length ∧ (subL f).getD i [] = opndL f 0 := by
  obtain ⟨h1, h2⟩ := opnd_part h
  have hm : opndL f 0 ∈ subL f := (subL_iff hv _).2 ⟨1, h2, h1⟩
  obtain ⟨i, hi, he⟩ := List.getElem_of_mem hm
  exact ⟨i, hi, by simp [List.getD, hi, he]⟩

set_option maxHeartbeats 400000 in
theorem drawSub_any (A : Option Addr) (n c : Nat) (code : List Int) (w : World) (h : RdB w w.heap.size A n code) (hn : n ≤ 4096) :
    Calls Tryd.prog 15 #[.slice A n c] w (DrawnFrom w) := by
  go_enter Tryd.func15, Tryd.ntmps15
  go_wp2_with (fail)
  refine (fromCode_any A n c code w h hn).mono ?_
  rintro e w1 ⟨rfl, S1, B1⟩
  go_wp2_with (fail)
  refine (drawAny_any _ n c A code w1 S1).mono ?_
  intro e w2 hD
  obtain ⟨L, A', c', rfl, hrest⟩ := drawnFrom_of B1 hD
  have HR := Lib.hid hrest
  clear hD hrest S1 B1
  go_wp2
  go_ret
  exact ⟨L, A', c', rfl, HR.out⟩
end
section
open Go.RowKit

/-- How often x stands among the first k of f. -/
def cntT (f : List Int) (x : Int) : Nat → Nat
  | 0 => 0
  | k + 1 => cntT f x k + (if f.getD k 0 = x then 1 else 0)
theorem cntT_le (f : List Int) (x : Int) : ∀ k, cntT f x k ≤ k
  | 0 => Nat.le_refl _
  | k + 1 => by have := cntT_le f x k; unfold cntT; split <;> omega
theorem cntT_succ (f : List Int) (x : Int) (k : Nat) : cntT f x (k + 1) = cntT f x k + (if f.getD k 0 = x then 1 else 0) := rfl
theorem cntT_hit {f : List Int} {x : Int} {k : Nat} (h : (f.getD k 0 == x) = true) : cntT f x (k + 1) = cntT f x k + 1 := by
  rw [cntT_succ, if_pos (by simpa using h)]
theorem cntT_miss {f : List Int} {x : Int} {k : Nat} (h : (f.getD k 0 == x) = false) : cntT f x (k + 1) = cntT f x k := by
  rw [cntT_succ, if_neg (by simpa using h)]; rfl
/-- SymbolCount. -/
def cntZ (f : List Int) (x : Int) : Int := if validB f then (cntT f x f.length : Int) else -1
theorem cntZ_yes {f : List Int} (x : Int) (h : validB f = true) : cntZ f x = (cntT f x f.length : Int) := by unfold cntZ; rw [if_pos h]
theorem cntZ_no {f : List Int} (x : Int) (h : validB f = false) : cntZ f x = -1 := by unfold cntZ; rw [if_neg (by rw [h]; decide)]

set_option maxHeartbeats 1000000 in
theorem symbolCount_impl (A : Option Addr) (n c : Nat) (f : List Int) (x : Int) (w : World) (h : RdI w w.heap.size A n f) (ht : Arit w) (hnc : n ≤ c) :
    Calls Tryd.prog 17 #[.slice A n c, .int .i64 x] w fun e w' => e = .returned (.int .i64 (cntZ f x)) ∧ w = w' := by
  have hl := h.len
  subst hl
  cases hv : validB f with
  | false =>
    rw [cntZ_no x hv]
    go_enter Tryd.func17, Tryd.ntmps17
    go_wp2_with (go_at_call 30; refine (validForm_impl _ _ _ f _ h ht hnc).mono ?_; rintro e w' ⟨rfl, rfl⟩)
    go_ret
    exact ⟨rfl, rfl⟩
  | true =>
    rw [cntZ_yes x hv]
    have hlen := valid_len hv
    have hl24 : f.length ≤ 24 := hlen.2.1
    clear hlen
    go_enter Tryd.func17, Tryd.ntmps17
    go_wp2_with (go_at_call 30; refine (validForm_impl _ _ _ f _ h ht hnc).mono ?_; rintro e w' ⟨rfl, rfl⟩)
    go_loop [5, 13] (fun v i => ∃ k : Nat, k ≤ f.length ∧ i = .int .i64 k ∧ v = .int .i64 (cntT f x k)) (fun _ i => f.length - (intOf i).toNat)
    case atStart => exact ⟨0, Nat.zero_le _, rfl, rfl⟩
    case round =>
      obtain ⟨k, hk, rfl, rfl⟩ := hrel
      by_cases hlt : k < f.length
      · obtain ⟨b, off, rfl, hbb, hcells⟩ := h.2 (by omega)
        have hc := hcells k hlt
        have hcl := cntT_le f x k
        cases he : (f.getD k 0 == x) with
        | true =>
          have HE := Lib.hid (cntT_hit he)
          generalize f.getD k 0 = z at hc he
          generalize cntT f x k = q at HE hcl
          clear hcells h ht hnc
          go_wp2
          go_round
          case rel => exact ⟨k + 1, by omega, by go_num, by rw [HE.out]; go_num⟩
          case measure => simp [intOf]; omega
        | false =>
          have HE := Lib.hid (cntT_miss he)
          generalize f.getD k 0 = z at hc he
          generalize cntT f x k = q at HE hcl
          clear hcells h ht hnc
          go_wp2
          go_round
          case rel => exact ⟨k + 1, by omega, by go_num, by rw [HE.out]⟩
          case measure => simp [intOf]; omega
      · have hkl : k = f.length := by omega
        subst hkl
        go_wp2
        go_ret
        exact ⟨rfl, rfl⟩

end
end Go.Proofs.YtjdmcpaolhnejaaDoor
