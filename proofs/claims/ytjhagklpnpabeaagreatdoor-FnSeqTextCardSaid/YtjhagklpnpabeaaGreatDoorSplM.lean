/- Mathematics for ReadSeq: a text is cut at ", " into the texts of the formulas, and only so. Mathematics for the model's ReadSeq: where the texts of the formulas stand in the text of a sequent. Mathematics for the model's ReadSeq: what its loop knows at a place of the text. The model's ReadSeq: the bytes and the pieces of a text as its code reads them. -/
import Derived.Test.YtjhagklpnpabeaaGreatDoorMsetI
import Derived.Test.YtjhagklpnpabeaaGreatDoorSeqT
import Derived.Test.YtjhagklpnpabeaaGreatDoorRead
import Derived.Lib.Split
import Derived.Lib.IndexLaws
import Derived.Lib.Join
namespace Go.Proofs.YtjhagklpnpabeaaGreatDoor
open Go.ChangeAt Go.ChangeShapes Go.Lib Go.RowKit Go.WideShapes

theorem txt_list (q : List Int) : txt q = (textL q).map fun z => UInt8.ofNat z.toNat := by simp [txt, mkB]
theorem txt_no32 (q : List Int) : ∀ j : Nat, (txt q)[j]? ≠ some 32 := by
  intro j h
  rw [txt_list, List.getElem?_map] at h
  cases hz : (textL q)[j]? with
  | none => rw [hz] at h; simp at h
  | some z =>
    rw [hz] at h
    have hb := textL_byte q z (List.mem_of_getElem? hz)
    have h2 : UInt8.ofNat z.toNat = 32 := by simpa using h
    have h3 := congrArg UInt8.toNat h2
    rw [UInt8.toNat_ofNat'] at h3
    have h4 : (32 : UInt8).toNat = 32 := rfl
    rw [h4] at h3
    omega
/-- Nothing of a list without spaces holds ", ". -/
theorem index_none {x : List UInt8} (h : ∀ j : Nat, x[j]? ≠ some 32) : index x [44, 32] = -1 := by
  refine index_past (i := x.length) (by simp) (fun j hj => ?_) (by simp)
  cases ho : occAt x [44, 32] j with
  | false => rfl
  | true => exact absurd (occAt_second rfl ho) (h (j + 1))
theorem index_at {x r : List UInt8} (h : ∀ j : Nat, x[j]? ≠ some 32) : index (x ++ ([44, 32] ++ r)) [44, 32] = x.length := by
  refine index_hit (fun j hj => ?_) (by simp) ?_
  · cases ho : occAt (x ++ ([44, 32] ++ r)) [44, 32] j with
    | false => rfl
    | true =>
      have h2 := occAt_second rfl ho
      by_cases e : j + 1 < x.length
      · rw [List.getElem?_append_left e] at h2
        exact absurd h2 (h (j + 1))
      · have e2 : j + 1 = x.length := by omega
        rw [e2, List.getElem?_append_right (Nat.le_refl _), Nat.sub_self] at h2
        simp at h2
  · unfold occAt
    rw [List.drop_left]
    simp
theorem cut_texts : ∀ {ts : List (List UInt8)} {k : Nat}, ts ≠ [] → (∀ t ∈ ts, ∀ j : Nat, t[j]? ≠ some 32) → ts.length ≤ k + 1 → splitK [44, 32] 0 k (join ts [44, 32]) = ts
  | [], _, h, _, _ => absurd rfl h
  | [x], k, _, h, _ => by
    have hx := index_none (h x (by simp))
    rw [join_one]
    cases k with
    | zero => rfl
    | succ k => unfold splitK; rw [hx]; rfl
  | x :: y :: r, 0, _, _, hl => by simp at hl
  | x :: y :: r, k + 1, _, h, hl => by
    have ih := cut_texts (ts := y :: r) (k := k) (by simp) (fun t ht => h t (by simp [ht])) (by simp at hl ⊢; omega)
    have e : join (x :: y :: r) [44, 32] = x ++ ([44, 32] ++ join (y :: r) [44, 32]) := by
      rw [join_cons, join_cons]
      simp [joinTail]
    have hi := index_at (r := join (y :: r) [44, 32]) (h x (by simp))
    rw [e]
    unfold splitK
    have hne : ¬ (index (x ++ ([44, 32] ++ join (y :: r) [44, 32])) [44, 32] == -1) = true := by
      rw [hi]; simp
    rw [if_neg hne, hi, Int.toNat_natCast, Nat.add_zero]
    have e1 : (x ++ ([44, 32] ++ join (y :: r) [44, 32])).take x.length = x := List.take_left
    have e2 : (x ++ ([44, 32] ++ join (y :: r) [44, 32])).drop (x.length + [(44 : UInt8), 32].length) = join (y :: r) [44, 32] := by
      rw [← List.append_assoc, show x.length + [(44 : UInt8), 32].length = (x ++ [44, 32]).length by simp, List.drop_left]
    rw [e1, e2, ih]
theorem index_occ : ∀ {s sub : List UInt8} {i : Nat}, index s sub = i → occAt s sub i = true
  | [], sub, i, h => by
    unfold index at h
    by_cases e : sub.isEmpty = true
    · rw [if_pos e] at h
      have : i = 0 := by omega
      subst this
      have : sub = [] := by simpa using e
      subst this
      rfl
    · rw [if_neg e] at h; omega
  | b :: l, sub, i, h => by
    unfold index at h
    by_cases e : sub.isPrefixOf (b :: l) = true
    · rw [if_pos e] at h
      have : i = 0 := by omega
      subst this
      exact e
    · rw [if_neg e] at h
      by_cases e2 : (index l sub == -1) = true
      · rw [if_pos e2] at h; omega
      · rw [if_neg e2] at h
        have h1 := index_ge l sub
        have h2 : ¬ index l sub = -1 := fun x => e2 (by rw [x]; rfl)
        obtain ⟨j, rfl⟩ : ∃ j, i = j + 1 := ⟨i - 1, by omega⟩
        have := index_occ (s := l) (sub := sub) (i := j) (by omega)
        unfold occAt at this ⊢
        simpa using this
/-- The pieces, joined again, are the text. -/
theorem join_cut : ∀ (k : Nat) (s : List UInt8), join (splitK [44, 32] 0 k s) [44, 32] = s
  | 0, s => join_one _ _
  | k + 1, s => by
    unfold splitK
    by_cases h : (index s [44, 32] == -1) = true
    · rw [if_pos h, join_one]
    · rw [if_neg h]
      obtain ⟨i, hi⟩ : ∃ i : Nat, index s [44, 32] = i := by
        have h1 := index_ge s [44, 32]
        have h2 : ¬ index s [44, 32] = -1 := fun e => h (by rw [e]; rfl)
        exact ⟨(index s [44, 32]).toNat, by omega⟩
      have ho := index_occ hi
      have e0 : s.drop i = [44, 32] ++ s.drop (i + 2) := by
        unfold occAt at ho
        obtain ⟨r, hr⟩ := List.isPrefixOf_iff_prefix.1 ho
        have : s.drop (i + 2) = r := by rw [← List.drop_drop, ← hr]; rfl
        rw [this, hr]
      have hne : splitK [44, 32] 0 k (s.drop (i + 2)) ≠ [] := by
        cases k with
        | zero => simp [splitK]
        | succ k => unfold splitK; split <;> simp
      have ih := join_cut k (s.drop (i + 2))
      rw [hi, Int.toNat_natCast, Nat.add_zero, show i + [(44 : UInt8), 32].length = i + 2 from rfl]
      obtain ⟨y, r, hyr⟩ := List.exists_cons_of_ne_nil hne
      rw [hyr] at ih ⊢
      have e : join (s.take i :: y :: r) [44, 32] = s.take i ++ ([44, 32] ++ join (y :: r) [44, 32]) := by
        rw [join_cons, join_cons]
        simp [joinTail]
      rw [e, ih, ← e0, List.take_append_drop]

theorem tail_bytes (qs : List (List Int)) : joinTail [44, 32] (qs.map txt) = (tailT qs).map fun z => UInt8.ofNat z.toNat := by
  induction qs with
  | nil => rfl
  | cons q qs ih =>
    have e : joinTail [44, 32] ((q :: qs).map txt) = ([44, 32] ++ txt q) ++ joinTail [44, 32] (qs.map txt) := by simp [joinTail]
    rw [e, ih, txt_list, tailT, List.map_append, List.map_append, List.append_assoc]
    rfl
theorem seq_bytes (qs : List (List Int)) : (mkB (seqL qs)).data.toList = join (qs.map txt) [44, 32] := by
  have hm : ∀ t : List Int, (mkB t).data.toList = t.map fun z => UInt8.ofNat z.toNat := fun t => by simp [mkB]
  rw [hm]
  cases qs with
  | nil => rfl
  | cons q qs =>
    rw [List.map_cons, join_cons, tail_bytes, txt_list, seqL, List.map_append]
theorem rdB_txt {p : ByteArray} (h : rdB p = true) : txt (rdL p) = p.data.toList := by
  have h2 : ((mkB (textL (pfL (bl p)))).toList == p.toList) = true := by
    unfold rdB at h
    simp only [Bool.and_eq_true] at h
    exact h.2
  have h3 := eq_of_beq h2
  rw [ByteArray.toList_eq, ByteArray.toList_eq] at h3
  rw [rdL_yes h]
  exact h3
theorem rdB_of {q : List Int} {p : ByteArray} (hv : validB q = true) (h : p.data.toList = txt q) : rdB p = true ∧ rdL p = q := by
  have e : p = mkB (textL q) := ba_ext h
  subst e
  have hb : bl (mkB (textL q)) = textL q := bl_mkB (fun c hc => by have := textL_byte q c hc; omega)
  have hp := pf_text hv (by have := textL_len q; omega) (nsp_id (fun c hc => by have := textL_byte q c hc; omega))
  have h1 : rdB (mkB (textL q)) = true := rdB_yes (by rw [hb]; exact hp.2) (by rw [hb, hp.1]; simp)
  exact ⟨h1, by rw [rdL_yes h1, hb]; exact hp.1⟩
/-- The pieces of a text, as the program cuts it. -/
def pieces (s : ByteArray) : List ByteArray := splitB ⟨#[44, 32]⟩ 0 (min 11 (s.size + 1) - 1) s
theorem pieces_data (s : ByteArray) : (pieces s).map (·.data.toList) = splitK [44, 32] 0 (min 11 (s.size + 1) - 1) s.data.toList := splitB_data _ _ _ _
/-- ReadSeq: is there a sequent with this text; the sequent. -/
noncomputable def rqB (s : ByteArray) : Bool := decide (s.size = 0) || ((pieces s).all rdB && validQ ((pieces s).map rdL))
noncomputable def rqL (s : ByteArray) : List (List Int) := if s.size = 0 then [] else if rqB s = true then (pieces s).map rdL else []
theorem rqB_none {s : ByteArray} (h : s.size = 0) : rqB s = true ∧ rqL s = [] := by
  refine ⟨by unfold rqB; rw [decide_eq_true h]; rfl, by unfold rqL; rw [if_pos h]⟩
theorem rq_text {s : ByteArray} (h : rqB s = true) : validQ (rqL s) = true ∧ mkB (seqL (rqL s)) = s := by
  by_cases h0 : s.size = 0
  · rw [(rqB_none h0).2]
    refine ⟨by decide, ba_ext ?_⟩
    have : s.data.toList = [] := List.eq_nil_of_length_eq_zero (by simpa using h0)
    rw [this, seq_bytes]
    rfl
  · have hL : rqL s = (pieces s).map rdL := by unfold rqL; rw [if_neg h0, if_pos h]
    have h2 := h
    unfold rqB at h2
    rw [decide_eq_false h0, Bool.false_or, Bool.and_eq_true] at h2
    obtain ⟨ha, hv⟩ := h2
    rw [hL]
    refine ⟨hv, ba_ext ?_⟩
    rw [seq_bytes, List.map_map]
    have e : (pieces s).map (txt ∘ rdL) = (pieces s).map (·.data.toList) := List.map_congr_left fun p hp => rdB_txt (List.all_eq_true.1 ha p hp)
    rw [e, pieces_data, join_cut]
theorem size_texts : ∀ V : List (List Int), (∀ q ∈ V, validB q = true) → V.length ≤ (join (V.map txt) [44, 32]).length
  | [], _ => Nat.zero_le _
  | q :: V, h => by
    have h1 : 1 ≤ (txt q).length := by rw [txt_list, List.length_map]; exact (textL_yes (h q (by simp))).bd.2.2.1
    have h2 : ∀ W : List (List Int), W.length ≤ (joinTail [44, 32] (W.map txt)).length := fun W => by
      induction W with
      | nil => exact Nat.zero_le _
      | cons x W ih =>
        have e : joinTail [44, 32] ((x :: W).map txt) = ([44, 32] ++ txt x) ++ joinTail [44, 32] (W.map txt) := by simp [joinTail]
        rw [e, List.length_append, List.length_append, List.length_cons]
        have : [(44 : UInt8), 32].length = 2 := rfl
        omega
    rw [List.map_cons, join_cons, List.length_append, List.length_cons]
    have := h2 V
    omega
theorem rq_only {V : List (List Int)} {s : ByteArray} (hv : validQ V = true) (hs : mkB (seqL V) = s) : rqB s = true ∧ rqL s = V := by
  have hvm : ∀ q ∈ V, validB q = true := fun q hq => validQ_mem hv hq
  have hd : s.data.toList = join (V.map txt) [44, 32] := by rw [← hs, seq_bytes]
  have hsz : s.size = (join (V.map txt) [44, 32]).length := by rw [← hd]; simp
  have hl := size_texts V hvm
  have h10 := validQ_len hv
  by_cases hV : V = []
  · subst hV
    exact rqB_none hsz
  · have h0 : ¬ s.size = 0 := by
      intro e
      exact hV (List.eq_nil_of_length_eq_zero (by omega))
    have hcut := cut_texts (ts := V.map txt) (k := min 11 (s.size + 1) - 1) (by simpa using hV) (fun t ht => by
      obtain ⟨q, _, rfl⟩ := List.mem_map.1 ht
      exact txt_no32 q) (by rw [List.length_map]; omega)
    have hp : (pieces s).map (·.data.toList) = V.map txt := by rw [pieces_data, hd, hcut]
    have hlen : (pieces s).length = V.length := by have := congrArg List.length hp; simpa using this
    have hat : ∀ i (h1 : i < (pieces s).length) (h2 : i < V.length), rdB (pieces s)[i] = true ∧ rdL (pieces s)[i] = V[i] := by
      intro i h1 h2
      refine rdB_of (hvm _ (List.getElem_mem h2)) ?_
      have := congrArg (fun l => l[i]?) hp
      simpa [h1, h2] using this
    have ha : (pieces s).all rdB = true := List.all_eq_true.2 fun p hp' => by
      obtain ⟨i, hi, rfl⟩ := List.getElem_of_mem hp'
      exact (hat i hi (by omega)).1
    have hm : (pieces s).map rdL = V := List.ext_getElem (by simpa using hlen) (fun i h1 h2 => by
      rw [List.getElem_map]
      exact (hat i (by simpa using h1) h2).2)
    have hb : rqB s = true := by
      unfold rqB
      rw [ha, hm, hv, decide_eq_false h0]
      rfl
    refine ⟨hb, ?_⟩
    unfold rqL
    rw [if_neg h0, if_pos hb, hm]

theorem splitK_len : ∀ (k : Nat) (s t : List UInt8), t ∈ splitK [44, 32] 0 k s → t.length ≤ s.length
  | 0, s, t, h => by
    obtain rfl := List.mem_singleton.1 h
    exact Nat.le_refl _
  | k + 1, s, t, h => by
    unfold splitK at h
    by_cases e : (index s [44, 32] == -1) = true
    · rw [if_pos e] at h
      obtain rfl := List.mem_singleton.1 h
      exact Nat.le_refl _
    · rw [if_neg e] at h
      rcases List.mem_cons.1 h with rfl | h
      · rw [List.length_take]; omega
      · have := splitK_len k _ t h
        rw [List.length_drop] at this
        omega
theorem piece_size {s p : ByteArray} (h : p ∈ pieces s) : p.size ≤ s.size := by
  have h1 : p.data.toList ∈ (pieces s).map (·.data.toList) := List.mem_map.2 ⟨p, h, rfl⟩
  rw [pieces_data] at h1
  have := splitK_len _ _ _ h1
  simpa using this
theorem pieces_len (s : ByteArray) : (pieces s).length ≤ min 11 (s.size + 1) := by
  have := splitB_length_le ⟨#[44, 32]⟩ 0 (min 11 (s.size + 1) - 1) s
  have h2 : (pieces s).length ≤ min 11 (s.size + 1) - 1 + 1 := this
  omega
theorem rqB_bad {s : ByteArray} (h0 : ¬ s.size = 0) {p : ByteArray} (hp : p ∈ pieces s) (hb : rdB p = false) : rqB s = false ∧ rqL s = [] := by
  have ha : (pieces s).all rdB = false := List.all_eq_false.2 ⟨p, hp, by rw [hb]; decide⟩
  have hr : rqB s = false := by unfold rqB; rw [ha, decide_eq_false h0]; rfl
  exact ⟨hr, by unfold rqL; rw [if_neg h0, if_neg (by rw [hr]; decide)]⟩
theorem rqB_inv {s : ByteArray} (h0 : ¬ s.size = 0) (hb : validQ ((pieces s).map rdL) = false) : rqB s = false ∧ rqL s = [] := by
  have hr : rqB s = false := by unfold rqB; rw [hb, decide_eq_false h0, Bool.and_false]; rfl
  exact ⟨hr, by unfold rqL; rw [if_neg h0, if_neg (by rw [hr]; decide)]⟩
theorem rqB_ok {s : ByteArray} (h0 : ¬ s.size = 0) (ha : ∀ p ∈ pieces s, rdB p = true) (hb : validQ ((pieces s).map rdL) = true) : rqB s = true ∧ rqL s = (pieces s).map rdL := by
  have hr : rqB s = true := by unfold rqB; rw [hb, List.all_eq_true.2 ha, decide_eq_false h0]; rfl
  exact ⟨hr, by unfold rqL; rw [if_neg h0, if_pos hr]⟩

/-- No text of a formula holds a comma. -/
theorem sg_no44 (x : Int) (h : 0 ≤ arZ x) : ∀ c ∈ sg x, c ≠ 44 := by
  intro c hc
  rcases sym_cases x with ⟨hl, _, hb⟩ | ⟨_, ho, hb⟩ | ⟨_, _, h', _⟩
  · have ho : operB x = false := oper_not.2 (by omega)
    unfold sg at hc
    rw [if_neg (by rw [ho]; decide)] at hc
    split at hc
    · simp only [List.mem_cons, List.not_mem_nil, or_false] at hc
      omega
    · simp only [List.mem_cons, List.not_mem_nil, or_false] at hc
      omega
  · have := oper_iff.1 ho
    rw [sg_one ho] at hc
    have : x = 11 ∨ x = 12 ∨ x = 13 ∨ x = 14 ∨ x = 15 ∨ x = 16 ∨ x = 17 ∨ x = 18 := by omega
    rcases this with rfl | rfl | rfl | rfl | rfl | rfl | rfl | rfl <;> (simp [opTab] at hc; omega)
  · omega
theorem Tx.no44 {f : List Int} {a e : Nat} {t : List Int} (h : Tx f a e t) : ∀ c ∈ t, c ≠ 44 := by
  induction h with
  | leaf _ h0 => exact sg_no44 _ (by omega)
  | one _ h1 _ _ ih =>
    intro c hc
    rcases List.mem_append.1 hc with hc | hc
    · exact sg_no44 _ (by omega) c hc
    · exact ih c hc
  | two _ h2 _ _ _ _ ih1 ih2 =>
    intro c hc
    simp only [List.mem_cons, List.mem_append, List.not_mem_nil, or_false] at hc
    rcases hc with rfl | ((hc | hc) | hc) | rfl
    · omega
    · exact ih1 c hc
    · exact sg_no44 _ (by omega) c hc
    · exact ih2 c hc
    · omega
theorem txt_no44 (q : List Int) : ∀ j : Nat, (txt q)[j]? ≠ some 44 := by
  intro j h
  rw [txt_list, List.getElem?_map] at h
  cases hz : (textL q)[j]? with
  | none => rw [hz] at h; simp at h
  | some z =>
    rw [hz] at h
    have hm := List.mem_of_getElem? hz
    have hb := textL_byte q z hm
    have hn : z ≠ 44 := by
      cases hv : validB q with
      | false => rw [textL_no hv] at hm; simp at hm
      | true => exact (textL_yes hv).no44 z hm
    have h2 : UInt8.ofNat z.toNat = 44 := by simpa using h
    have h3 := congrArg UInt8.toNat h2
    rw [UInt8.toNat_ofNat'] at h3
    have h4 : (44 : UInt8).toNat = 44 := rfl
    rw [h4] at h3
    omega

theorem rqL_small (s : ByteArray) : (rqL s).length ≤ 1048576 ∧ total (rqL s) ≤ 1048576 := by
  cases h : rqB s with
  | true =>
    have hv := (rq_text h).1
    have h1 := validQ_len hv
    unfold validQ at hv
    simp only [Bool.and_eq_true, decide_eq_true_eq] at hv
    exact ⟨by omega, by omega⟩
  | false =>
    have he : rqL s = [] := by
      unfold rqL
      rw [h]
      split <;> simp
    rw [he]
    simp [total]

/-- What stands ahead of the text of formula j. -/
noncomputable def preT (V : List (List Int)) (j : Nat) : List UInt8 := ((V.take j).map fun q => txt q ++ [44, 32]).flatten
theorem preT_zero (V : List (List Int)) : preT V 0 = [] := by simp [preT]
theorem preT_next {V : List (List Int)} {j : Nat} (h : j < V.length) : preT V (j + 1) = preT V j ++ (txt (V.getD j []) ++ [44, 32]) := by
  unfold preT
  rw [List.take_succ_eq_append_getElem h, List.map_append, List.flatten_append]
  simp [List.getD, h]
theorem tail_cons (q : List Int) (W : List (List Int)) : Lib.joinTail [44, 32] ((q :: W).map txt) = [44, 32] ++ Lib.join ((q :: W).map txt) [44, 32] := by
  rw [List.map_cons, Lib.join_cons]
  simp [Lib.joinTail]
theorem join_spot : ∀ {V : List (List Int)} {j : Nat}, j < V.length → Lib.join (V.map txt) [44, 32] = preT V j ++ (txt (V.getD j []) ++ Lib.joinTail [44, 32] ((V.drop (j + 1)).map txt))
  | [], _, h => by simp at h
  | q :: V, 0, _ => by
    rw [preT_zero, List.map_cons, Lib.join_cons]
    simp [List.getD]
  | q :: V, j + 1, h => by
    have hj : j < V.length := by simp at h; omega
    have ih := join_spot hj
    have hp : preT (q :: V) (j + 1) = (txt q ++ [44, 32]) ++ preT V j := by simp [preT]
    have hg : (q :: V).getD (j + 1) [] = V.getD j [] := by simp [List.getD]
    cases V with
    | nil => simp at hj
    | cons y W =>
      rw [List.map_cons, Lib.join_cons, tail_cons, ih, hp, hg, List.append_assoc, List.append_assoc]
      rfl
/-- The bytes of a text that stands at a place. -/
theorem spot_in {p t r : List UInt8} {i : Nat} (h : i < t.length) : (p ++ (t ++ r))[p.length + i]? = t[i]? := by
  rw [List.getElem?_append_right (by omega), show p.length + i - p.length = i by omega, List.getElem?_append_left h]
theorem spot_end {p t r : List UInt8} {i : Nat} : (p ++ (t ++ r))[p.length + t.length + i]? = r[i]? := by
  rw [List.getElem?_append_right (by omega), show p.length + t.length + i - p.length = t.length + i by omega, List.getElem?_append_right (by omega), show t.length + i - t.length = i by omega]
theorem spot_cut {p t r : List UInt8} : ((p ++ (t ++ r)).drop p.length).take t.length = t := by
  rw [List.drop_left, List.take_left]
theorem tail_end {V : List (List Int)} {j : Nat} (h : j + 1 = V.length) : Lib.joinTail [44, 32] ((V.drop (j + 1)).map txt) = [] := by
  rw [h, List.drop_length]
  rfl
theorem tail_more {V : List (List Int)} {j : Nat} (h : j + 1 < V.length) : ∃ r, Lib.joinTail [44, 32] ((V.drop (j + 1)).map txt) = 44 :: 32 :: r := by
  have e : V.drop (j + 1) = V[j + 1] :: V.drop (j + 2) := List.drop_eq_getElem_cons h
  rw [e, tail_cons]
  exact ⟨_, rfl⟩

/-- At place k, with the current text begun at fr, the row cur is right for every sequent whose text is s. -/
def SeqAt (s : ByteArray) (fr k : Nat) (cur : List (List Int)) : Prop :=
  ∀ V : List (List Int), validQ V = true → V ≠ [] → mkB (seqL V) = s →
    (∃ j : Nat, j < V.length ∧ fr = (preT V j).length ∧ fr ≤ k ∧ k ≤ fr + (txt (V.getD j [])).length ∧ cur = V.take j) ∨ (k = s.size + 1 ∧ cur = V)
/-- The bytes of s in [fr, k). -/
def pieceAt (s : ByteArray) (fr k : Nat) : ByteArray := ⟨((s.data.toList.drop fr).take (k - fr)).toArray⟩
theorem seqAt_start (s : ByteArray) : SeqAt s 0 0 [] := by
  intro V _ hne _
  exact .inl ⟨0, List.length_pos_iff.2 hne, by simp [preT], Nat.le_refl _, by omega, by simp⟩
theorem spot_of_p {s : ByteArray} {V : List (List Int)} (hs : mkB (seqL V) = s) {j : Nat} (hj : j < V.length) :
    s.data.toList = preT V j ++ (txt (V.getD j []) ++ Lib.joinTail [44, 32] ((V.drop (j + 1)).map txt)) := by
  rw [← hs, seq_bytes, join_spot hj]
theorem size_of {s : ByteArray} {p t r : List UInt8} (h : s.data.toList = p ++ (t ++ r)) : s.size = p.length + t.length + r.length := by
  have := congrArg List.length h
  simp only [List.length_append, Array.length_toList] at this
  have h2 : s.size = s.data.size := rfl
  omega
theorem seqAt_skip {s : ByteArray} {fr k : Nat} {cur : List (List Int)} (h : SeqAt s fr k cur) (hk : k < s.size) (hc : s.data.toList[k]? ≠ some 44) : SeqAt s fr (k + 1) cur := by
  intro V hv hne hs
  rcases h V hv hne hs with ⟨j, hj, hfr, h1, h2, hcur⟩ | ⟨e, _⟩
  · have hd := spot_of_p hs hj
    have hz := size_of hd
    refine .inl ⟨j, hj, hfr, by omega, ?_, hcur⟩
    by_cases he : k = fr + (txt (V.getD j [])).length
    · exfalso
      by_cases hl : j + 1 < V.length
      · obtain ⟨r, hr⟩ := tail_more hl
        apply hc
        rw [hd, show k = (preT V j).length + (txt (V.getD j [])).length + 0 by omega, spot_end, hr]
        rfl
      · rw [tail_end (V := V) (j := j) (by omega)] at hz
        rw [List.length_nil] at hz
        omega
    · omega
  · omega
/-- At a comma or at the end the text of one formula is complete. -/
theorem seqAt_stop {s : ByteArray} {fr k : Nat} {cur : List (List Int)} (h : SeqAt s fr k cur) (hk : k ≤ s.size) (hc : k < s.size → s.data.toList[k]? = some 44)
    {V : List (List Int)} (hv : validQ V = true) (hne : V ≠ []) (hs : mkB (seqL V) = s) :
    ∃ j : Nat, j < V.length ∧ fr = (preT V j).length ∧ k = fr + (txt (V.getD j [])).length ∧ cur = V.take j ∧ rdB (pieceAt s fr k) = true ∧ rdL (pieceAt s fr k) = V.getD j [] := by
  rcases h V hv hne hs with ⟨j, hj, hfr, h1, h2, hcur⟩ | ⟨e, _⟩
  · have hd := spot_of_p hs hj
    have hz := size_of hd
    have he : k = fr + (txt (V.getD j [])).length := by
      by_cases he : k = fr + (txt (V.getD j [])).length
      · exact he
      · exfalso
        have h3 := hc (by omega)
        rw [hd, show k = (preT V j).length + (k - fr) by omega, spot_in (by omega)] at h3
        exact txt_no44 _ _ h3
    have hp : (pieceAt s fr k).data.toList = txt (V.getD j []) := by
      show (s.data.toList.drop fr).take (k - fr) = _
      rw [hd, hfr, show k - (preT V j).length = (txt (V.getD j [])).length by omega, spot_cut]
    have hm : V.getD j [] ∈ V := by
      rw [List.getD_eq_getElem?_getD, List.getElem?_eq_getElem hj]
      exact List.getElem_mem hj
    obtain ⟨r1, r2⟩ := rdB_of (validQ_mem hv hm) hp
    exact ⟨j, hj, hfr, he, hcur, r1, r2⟩
  · omega
theorem seqAt_more {s : ByteArray} {fr k : Nat} {cur : List (List Int)} (h : SeqAt s fr k cur) (hk : k + 1 < s.size) (hc : s.data.toList[k]? = some 44) :
    SeqAt s (k + 2) (k + 2) (cur ++ [rdL (pieceAt s fr k)]) := by
  intro V hv hne hs
  obtain ⟨j, hj, hfr, he, hcur, _, hr⟩ := seqAt_stop h (by omega) (fun _ => hc) hv hne hs
  have hz := size_of (spot_of_p hs hj)
  by_cases hl : j + 1 < V.length
  · have hn : (preT V (j + 1)).length = k + 2 := by
      rw [preT_next hj, List.length_append, List.length_append]
      have : [(44 : UInt8), 32].length = 2 := rfl
      omega
    exact .inl ⟨j + 1, hl, hn.symm, Nat.le_refl _, by omega, by rw [hr, hcur, take_getD hj]⟩
  · exfalso
    rw [tail_end (V := V) (j := j) (by omega)] at hz
    rw [List.length_nil] at hz
    omega
theorem seqAt_end {s : ByteArray} {fr : Nat} {cur : List (List Int)} (h : SeqAt s fr s.size cur) :
    SeqAt s (s.size + 2) (s.size + 1) (cur ++ [rdL (pieceAt s fr s.size)]) := by
  intro V hv hne hs
  obtain ⟨j, hj, hfr, he, hcur, _, hr⟩ := seqAt_stop h (Nat.le_refl _) (fun h => absurd h (Nat.lt_irrefl _)) hv hne hs
  have hz := size_of (spot_of_p hs hj)
  by_cases hl : j + 1 < V.length
  · exfalso
    obtain ⟨r, hr⟩ := tail_more hl
    rw [hr, List.length_cons, List.length_cons] at hz
    omega
  · refine .inr ⟨rfl, ?_⟩
    rw [hr, hcur, take_getD hj, show j + 1 = V.length by omega, List.take_length]
/-- A nonempty text that is a sequent's names one. -/
theorem rq_some {s : ByteArray} (h0 : ¬ s.size = 0) (h : rqB s = true) : validQ (rqL s) = true ∧ rqL s ≠ [] ∧ mkB (seqL (rqL s)) = s := by
  obtain ⟨h1, h2⟩ := rq_text h
  refine ⟨h1, fun e => ?_, h2⟩
  rw [e] at h2
  exact h0 (by rw [← h2]; rfl)
theorem rq_no {s : ByteArray} (h : ¬ rqB s = true) (h0 : ¬ s.size = 0) : rqB s = false ∧ rqL s = [] :=
  ⟨by simpa using h, by unfold rqL; rw [if_neg h0, if_neg h]⟩
/-- The early answers 'false'. -/
theorem seqAt_unread {s : ByteArray} {fr k : Nat} {cur : List (List Int)} (h0 : ¬ s.size = 0) (h : SeqAt s fr k cur) (hk : k ≤ s.size) (hc : k < s.size → s.data.toList[k]? = some 44)
    (hb : rdB (pieceAt s fr k) = false) : rqB s = false ∧ rqL s = [] := by
  refine rq_no (fun e => ?_) h0
  obtain ⟨a, b, c⟩ := rq_some h0 e
  obtain ⟨j, _, _, _, _, hr, _⟩ := seqAt_stop h hk hc a b c
  rw [hb] at hr
  cases hr
theorem seqAt_full {s : ByteArray} {fr k : Nat} {cur : List (List Int)} (h0 : ¬ s.size = 0) (h : SeqAt s fr k cur) (hk : k ≤ s.size) (hc : k < s.size → s.data.toList[k]? = some 44)
    (hb : cur.length = 10) : rqB s = false ∧ rqL s = [] := by
  refine rq_no (fun e => ?_) h0
  obtain ⟨a, b, c⟩ := rq_some h0 e
  obtain ⟨j, hj, _, _, hcur, _, _⟩ := seqAt_stop h hk hc a b c
  have := validQ_len a
  rw [hcur, List.length_take] at hb
  omega
theorem seqAt_bad {s : ByteArray} {fr k : Nat} {cur : List (List Int)} (h0 : ¬ s.size = 0) (h : SeqAt s fr k cur) (hk : k < s.size) (hc : s.data.toList[k]? = some 44)
    (hb : ¬ s.data.toList[k + 1]? = some 32) : rqB s = false ∧ rqL s = [] := by
  refine rq_no (fun e => ?_) h0
  obtain ⟨a, b, c⟩ := rq_some h0 e
  obtain ⟨j, hj, hfr, he, _, _, _⟩ := seqAt_stop h (Nat.le_of_lt hk) (fun _ => hc) a b c
  have hd := spot_of_p c hj
  have hz := size_of hd
  by_cases hl : j + 1 < (rqL s).length
  · obtain ⟨r, hr⟩ := tail_more hl
    apply hb
    rw [hd, show k + 1 = (preT (rqL s) j).length + (txt ((rqL s).getD j [])).length + 1 by omega, spot_end, hr]
    rfl
  · rw [tail_end (V := rqL s) (j := j) (by omega)] at hz
    rw [List.length_nil] at hz
    omega
/-- Behind the loop. -/
theorem seqAt_exit {s : ByteArray} {fr k : Nat} {cur : List (List Int)} (h0 : ¬ s.size = 0) (h : SeqAt s fr k cur) (hk : s.size < k) (e : rqB s = true) : cur = rqL s := by
  obtain ⟨a, b, c⟩ := rq_some h0 e
  rcases h _ a b c with ⟨j, hj, hfr, _, h2, _⟩ | ⟨_, hcur⟩
  · exfalso
    have hz := size_of (spot_of_p c hj)
    omega
  · exact hcur
theorem seqAt_yes {s : ByteArray} {cur : List (List Int)} (hv : validQ cur = true) (ht : seqT cur = s) : rqB s = true ∧ rqL s = cur :=
  rq_only hv (by rw [← seqT_yes hv]; exact ht)
theorem seqAt_no {s : ByteArray} {fr k : Nat} {cur : List (List Int)} (h0 : ¬ s.size = 0) (h : SeqAt s fr k cur) (hk : s.size < k) (hn : validQ cur = false ∨ ¬ seqT cur = s) : rqB s = false ∧ rqL s = [] := by
  refine rq_no (fun e => ?_) h0
  have hc := seqAt_exit h0 h hk e
  obtain ⟨a, _, c⟩ := rq_some h0 e
  rw [← hc] at a c
  rcases hn with hn | hn
  · rw [hn] at a; cases a
  · exact hn (by rw [seqT_yes a]; exact c)

theorem byte_at {s : ByteArray} {k : Nat} (hk : k < s.size) : ∃ c : UInt8, s.data.toList[k]? = some c ∧
    ∀ w : World, (Instr.index 9 (.string s) (.int .i64 (k : Int))).run Tryz.prog w = .ok (.int .u8 (c.toNat : Int)) w := by
  have hk' : k < s.data.toList.length := by simpa using hk
  refine ⟨s.data.toList[k], List.getElem?_eq_getElem hk', fun w => ?_⟩
  rw [run_index_string w 9 s .i64 _ Tryz.underlying9, dif_pos ⟨by omega, by omega⟩]
  congr 2
theorem piece_at {s : ByteArray} {fr k : Nat} (h1 : fr ≤ k) (h2 : k ≤ s.size) (w : World) :
    (Instr.slice 9 (.string s) (some (.int .i64 (fr : Int))) (some (.int .i64 (k : Int))) none).run Tryz.prog w = .ok (.string (pieceAt s fr k)) w := by
  have h := run_slice_string (P := Tryz.prog) w 9 s .i64 .i64 (fr : Int) (k : Int) Tryz.underlying9 (by omega) (by omega) (by omega)
  have e : s.extract fr k = pieceAt s fr k := ba_ext (by
    unfold pieceAt
    simp only [ByteArray.data_extract]
    simp [List.extract_eq_take_drop])
  have e1 : ((fr : Int)).toNat = fr := by omega
  have e2 : ((k : Int)).toNat = k := by omega
  rw [e1, e2, e] at h
  exact h
theorem pieceAt_size {s : ByteArray} {fr k : Nat} : (pieceAt s fr k).size ≤ s.size := by
  show ((s.data.toList.drop fr).take (k - fr)).toArray.size ≤ s.data.size
  simp
  omega
end Go.Proofs.YtjhagklpnpabeaaGreatDoor
