/- Mathematics: contraction of edges and pairs; nodes of a linked list and their partners. -/
import Derived.Test.YtlcapifgpcimpaaDoorEgM
namespace Go.Proofs.YtlcapifgpcimpaaDoor
set_option linter.unusedSimpArgs false
set_option linter.unusedVariables false
open Go.ChangeAt Go.ChangeShapes Go.RowKit Go.WideShapes

/-- A node behind the merging of lo and hi. -/
def rnE (lo hi x : Int) : Int := if x = hi then lo else if x > hi then x - 1 else x
def loE (e : Ed) : Int := min e.a e.b
def hiE (e : Ed) : Int := max e.a e.b
def rnD (t e : Ed) : Ed := ⟨rnE (loE t) (hiE t) e.a, rnE (loE t) (hiE t) e.b, e.p⟩
/-- Can it be contracted? -/
def canE (es : List Ed) (e : Ed) : Bool := decide (e.a ≠ e.b) && (decide (e.p = -1) || es.all fun y => !decide (y.p = e.p) || decide (loE y = loE e ∧ hiE y = hiE e))
def ctrE (es : List Ed) (k : Nat) : List Ed := (if (es.getD k Ed.nil).p = -1 then es.eraseIdx k else es.filter fun y => !decide (y.p = (es.getD k Ed.nil).p)).map (rnD (es.getD k Ed.nil))
def ctrG (G : Gr) (k : Nat) : Gr := ⟨G.n - 1, ctrE G.e k⟩
def cntP (es : List Ed) (p : Int) : Nat := es.countP fun y => decide (y.p = p)
/-- Each pair has two edges. -/
def TwoP (es : List Ed) : Prop := ∀ e ∈ es, e.p = -1 ∨ cntP es e.p = 2
/-- The first wanted edge that can be contracted, of those from k on. -/
def IsFst (W : Nat → Ed → Bool) (es : List Ed) (k : Nat) : Prop := k < es.length ∧ W k (es.getD k Ed.nil) = true ∧ canE es (es.getD k Ed.nil) = true ∧ ∀ j, j < k → (W j (es.getD j Ed.nil) && canE es (es.getD j Ed.nil)) = false
def NoFst (W : Nat → Ed → Bool) (es : List Ed) : Prop := ∀ j, j < es.length → (W j (es.getD j Ed.nil) && canE es (es.getD j Ed.nil)) = false
/-- A node of the list: its block, its edge, its partner's block. -/
structure Nd where
  x : Nat
  e : Ed
  q : Option Nat
def edsN (ns : List Nd) : List Ed := ns.map (·.e)
theorem edsN_len (ns : List Nd) : (edsN ns).length = ns.length := by simp [edsN]
theorem edsN_app (K R : List Nd) : edsN (K ++ R) = edsN K ++ edsN R := by simp [edsN]
/-- Partners are each other's. -/
structure PdN (ns : List Nd) : Prop where
  nodup : (ns.map (·.x)).Nodup
  one : ∀ n ∈ ns, n.e.p = -1 → n.q = none
  two : ∀ n ∈ ns, n.e.p ≠ -1 → (n.q = none ∧ ∀ l ∈ ns, l.e.p = n.e.p → l.x = n.x) ∨ ∃ m ∈ ns, m.x ≠ n.x ∧ n.q = some m.x ∧ m.e.p = n.e.p ∧ m.q = some n.x ∧ ∀ l ∈ ns, l.e.p = n.e.p → l.x = n.x ∨ l.x = m.x
theorem nodup_inj : ∀ {ns : List Nd}, (ns.map (·.x)).Nodup → ∀ {n m : Nd}, n ∈ ns → m ∈ ns → n.x = m.x → n = m
  | [], _, n, m, h, _, _ => absurd h (by simp)
  | y :: ys, hd, n, m, hn, hm, e => by
    rw [List.map_cons, List.nodup_cons] at hd
    rcases List.mem_cons.1 hn with rfl | hn'
    · rcases List.mem_cons.1 hm with rfl | hm'
      · rfl
      · exact absurd (List.mem_map.2 ⟨m, hm', e.symm⟩) hd.1
    · rcases List.mem_cons.1 hm with rfl | hm'
      · exact absurd (List.mem_map.2 ⟨n, hn', e⟩) hd.1
      · exact nodup_inj hd.2 hn' hm' e
/-- Is a node kept when t is contracted? -/
def kpN (t n : Nd) : Bool := !(decide (n.x = t.x) || decide (some n.x = t.q))
def ctN (t : Nd) (ns : List Nd) : List Nd := (ns.filter (kpN t)).map fun n => ⟨n.x, rnD t.e n.e, n.q⟩
theorem ctN_nil (t : Nd) : ctN t [] = [] := rfl
theorem ctN_app (t : Nd) (K R : List Nd) : ctN t (K ++ R) = ctN t K ++ ctN t R := by simp [ctN]
theorem ctN_yes {t n : Nd} (h : kpN t n = true) : ctN t [n] = [⟨n.x, rnD t.e n.e, n.q⟩] := by simp [ctN, h]
theorem ctN_no {t n : Nd} (h : kpN t n = false) : ctN t [n] = [] := by simp [ctN, h]
theorem ctN_eds (t : Nd) (ns : List Nd) : edsN (ctN t ns) = (edsN (ns.filter (kpN t))).map (rnD t.e) := by simp [edsN, ctN, Function.comp_def]
theorem filter_none {ns : List Nd} {t : Nd} (h : ∀ n ∈ ns, n.x ≠ t.x) : (ns.filter fun n => !decide (n.x = t.x)) = ns := by
  rw [List.filter_eq_self]
  intro n hn
  simp [h n hn]
theorem filter_erase : ∀ {ns : List Nd}, (ns.map (·.x)).Nodup → ∀ {k : Nat} {t : Nd}, ns[k]? = some t → (ns.filter fun n => !decide (n.x = t.x)) = ns.eraseIdx k
  | [], _, k, t, h => absurd h (by simp)
  | y :: ys, hd, 0, t, h => by
    rw [List.map_cons, List.nodup_cons] at hd
    have e : y = t := by simpa using h
    subst e
    rw [List.filter_cons_of_neg (by simp), List.eraseIdx_cons_zero]
    exact filter_none fun n hn e => hd.1 (List.mem_map.2 ⟨n, hn, e⟩)
  | y :: ys, hd, k + 1, t, h => by
    rw [List.map_cons, List.nodup_cons] at hd
    have h2 : ys[k]? = some t := by simpa using h
    have hm : t ∈ ys := List.mem_of_getElem? h2
    have hne : ¬ y.x = t.x := fun e => hd.1 (List.mem_map.2 ⟨t, hm, e.symm⟩)
    rw [List.filter_cons_of_pos (by simp [hne]), List.eraseIdx_cons_succ, filter_erase hd.2 h2]
theorem eds_erase (ns : List Nd) (k : Nat) : edsN (ns.eraseIdx k) = (edsN ns).eraseIdx k := by
  unfold edsN
  rw [List.eraseIdx_eq_take_drop_succ, List.eraseIdx_eq_take_drop_succ, List.map_append, List.map_take, List.map_drop]
theorem eds_filter (ns : List Nd) (p : Int) : edsN (ns.filter fun n => !decide (n.e.p = p)) = (edsN ns).filter fun y => !decide (y.p = p) := by
  unfold edsN
  rw [List.filter_map]; rfl
theorem edsN_at {ns : List Nd} {k : Nat} {t : Nd} (h : ns[k]? = some t) : (edsN ns).getD k Ed.nil = t.e := by
  unfold edsN
  simp [List.getD, h]
/-- What the list's contraction is on the edges. -/
theorem ctN_is {ns : List Nd} (P : PdN ns) (H2 : TwoP (edsN ns)) {k : Nat} {t : Nd} (h : ns[k]? = some t) : edsN (ctN t ns) = ctrE (edsN ns) k := by
  have hm : t ∈ ns := List.mem_of_getElem? h
  rw [ctN_eds]
  unfold ctrE
  rw [edsN_at h]
  congr 1
  by_cases hp : t.e.p = -1
  · rw [if_pos hp, ← eds_erase, ← filter_erase P.nodup h]
    congr 1
    refine List.filter_congr fun n _ => ?_
    unfold kpN
    rw [P.one t hm hp]
    simp
  · rw [if_neg hp, ← eds_filter]
    congr 1
    refine List.filter_congr fun n hn => ?_
    unfold kpN
    congr 1
    rcases P.two t hm hp with ⟨hq, hall⟩ | ⟨m, hmm, hne, hq, hpm, _, hall⟩
    · rw [hq]
      by_cases e : n.e.p = t.e.p
      · simp [e, hall n hn e]
      · have : ¬ n.x = t.x := fun e2 => e (by rw [nodup_inj P.nodup hn hm e2])
        simp [e, this]
    · rw [hq]
      by_cases e : n.e.p = t.e.p
      · rcases hall n hn e with e2 | e2 <;> simp [e, e2]
      · have h1 : ¬ n.x = t.x := fun e2 => e (by rw [nodup_inj P.nodup hn hm e2])
        have h2 : ¬ n.x = m.x := fun e2 => e (by rw [nodup_inj P.nodup hn hmm e2]; exact hpm)
        simp [e, h1, h2]
theorem mem_ctN {t n : Nd} {ns : List Nd} : n ∈ ctN t ns ↔ ∃ m ∈ ns, kpN t m = true ∧ n = ⟨m.x, rnD t.e m.e, m.q⟩ := by
  unfold ctN
  rw [List.mem_map]
  constructor
  · rintro ⟨m, hm, rfl⟩
    rw [List.mem_filter] at hm
    exact ⟨m, hm.1, hm.2, rfl⟩
  · rintro ⟨m, hm, hk, rfl⟩
    exact ⟨m, List.mem_filter.2 ⟨hm, hk⟩, rfl⟩
theorem kpN_iff {t n : Nd} : kpN t n = true ↔ n.x ≠ t.x ∧ some n.x ≠ t.q := by unfold kpN; simp
theorem ctN_x (t : Nd) (ns : List Nd) : (ctN t ns).map (·.x) = (ns.filter (kpN t)).map (·.x) := by simp [ctN, Function.comp_def]
/-- Partners stay each other's. -/
theorem PdN.ct {ns : List Nd} (P : PdN ns) {t : Nd} (ht : t ∈ ns) : PdN (ctN t ns) where
  nodup := by
    rw [ctN_x]
    exact (List.Sublist.map _ (List.filter_sublist)).nodup P.nodup
  one := by
    intro n hn hp
    obtain ⟨m, hm, hk, rfl⟩ := mem_ctN.1 hn
    exact P.one m hm hp
  two := by
    intro n hn hp
    obtain ⟨m, hm, hk, rfl⟩ := mem_ctN.1 hn
    rcases P.two m hm hp with ⟨hq, hall⟩ | ⟨l, hl, hne, hq, hpl, hql, hall⟩
    · exact .inl ⟨hq, fun l hl hpl => by
        obtain ⟨l2, hl2, _, rfl⟩ := mem_ctN.1 hl
        exact hall l2 hl2 hpl⟩
    · refine .inr ⟨⟨l.x, rnD t.e l.e, l.q⟩, mem_ctN.2 ⟨l, hl, ?_, rfl⟩, hne, hq, hpl, hql, fun l3 hl3 hp3 => by
        obtain ⟨l2, hl2, _, rfl⟩ := mem_ctN.1 hl3
        exact hall l2 hl2 hp3⟩
      rw [kpN_iff] at hk ⊢
      refine ⟨fun e => ?_, fun e => ?_⟩
      · -- l is t: then m is t's partner
        obtain rfl := nodup_inj P.nodup hl ht e
        exact hk.2 hql.symm
      · -- l is t's partner: then m is t
        have hpt : t.e.p ≠ -1 := fun e2 => by rw [P.one t ht e2] at e; cases e
        rcases P.two t ht hpt with ⟨hq2, _⟩ | ⟨l2, hl2, hne2, hq2, hpl2, hql2, hall2⟩
        · rw [hq2] at e; cases e
        · rw [hq2] at e
          injection e with e
          obtain rfl := nodup_inj P.nodup hl hl2 e
          rw [hql] at hql2
          injection hql2 with hql2
          exact hk.1 hql2
theorem cnt_map (t : Ed) (es : List Ed) (p : Int) : cntP (es.map (rnD t)) p = cntP es p := by
  unfold cntP
  rw [List.countP_map]; rfl
theorem TwoP.ct {es : List Ed} (H : TwoP es) {k : Nat} (hk : k < es.length) : TwoP (ctrE es k) := by
  have hm : es.getD k Ed.nil ∈ es := by simp [List.getD, hk]
  intro e he
  unfold ctrE at he ⊢
  rw [cnt_map]
  obtain ⟨y, hy, rfl⟩ := List.mem_map.1 he
  by_cases hp : (es.getD k Ed.nil).p = -1
  · rw [if_pos hp] at hy ⊢
    rcases H y (List.mem_of_mem_eraseIdx hy) with h | h
    · exact .inl h
    · by_cases hy1 : y.p = -1
      · exact .inl hy1
      · refine .inr ?_
        rw [← h]
        show cntP (es.eraseIdx k) y.p = cntP es y.p
        unfold cntP
        have e := List.eraseIdx_eq_take_drop_succ es k
        have e2 : es = es.take k ++ es[k] :: es.drop (k + 1) := by simp
        rw [e]
        conv => rhs; rw [e2]
        rw [List.countP_append, List.countP_append, List.countP_cons]
        have : ¬ es[k].p = y.p := by
          have : es.getD k Ed.nil = es[k] := by simp [List.getD, hk]
          rw [this] at hp
          rw [hp]; exact fun e => hy1 e.symm
        simp [this]
  · rw [if_neg hp] at hy ⊢
    rw [List.mem_filter] at hy
    have hne : ¬ y.p = (es.getD k Ed.nil).p := by simpa using hy.2
    rcases H y hy.1 with h | h
    · exact .inl h
    · refine .inr ?_
      rw [← h]
      show cntP (es.filter _) y.p = cntP es y.p
      unfold cntP
      rw [List.countP_filter]
      refine List.countP_congr fun z _ => ?_
      by_cases e : z.p = y.p
      · simpa [e] using hne
      · simp [e]
/-- What the program asks of a node: no loop, and no partner or one with the same ends. -/
theorem can_single {ns : List Nd} (P : PdN ns) (H2 : TwoP (edsN ns)) {n : Nd} (hn : n ∈ ns) (hq : n.q = none) : n.e.p = -1 := by
  by_cases hp : n.e.p = -1
  · exact hp
  · rcases P.two n hn hp with ⟨_, hall⟩ | ⟨m, _, _, hq2, _⟩
    · exfalso
      rcases H2 n.e (List.mem_map.2 ⟨n, hn, rfl⟩) with h | h
      · exact hp h
      · have : cntP (edsN ns) n.e.p = (ns.filter fun l => decide (l.x = n.x)).length := by
          unfold cntP edsN
          rw [List.countP_map, List.countP_eq_length_filter]
          congr 1
          refine List.filter_congr fun l hl => ?_
          by_cases e : l.e.p = n.e.p
          · simp [e, hall l hl e]
          · have : ¬ l.x = n.x := fun e2 => e (by rw [nodup_inj P.nodup hl hn e2])
            simp [e, this]
        rw [this] at h
        have hle : ∀ {ys : List Nd}, (ys.map (·.x)).Nodup → (ys.filter fun l => decide (l.x = n.x)).length ≤ 1 := by
          intro ys
          induction ys with
          | nil => intro _; simp
          | cons y ys ih =>
            intro hd
            rw [List.map_cons, List.nodup_cons] at hd
            by_cases e : y.x = n.x
            · rw [List.filter_cons_of_pos (by simp [e])]
              have : (ys.filter fun l => decide (l.x = n.x)) = [] := by
                rw [List.filter_eq_nil_iff]
                intro l hl he
                exact hd.1 (List.mem_map.2 ⟨l, hl, by simp at he; omega⟩)
              rw [this]; simp
            · rw [List.filter_cons_of_neg (by simp [e])]
              exact ih hd.2
        have := hle P.nodup
        omega
    · rw [hq] at hq2; cases hq2
theorem can_none {ns : List Nd} (P : PdN ns) (H2 : TwoP (edsN ns)) {n : Nd} (hn : n ∈ ns) (hq : n.q = none) : canE (edsN ns) n.e = decide (n.e.a ≠ n.e.b) := by
  unfold canE
  rw [decide_eq_true (can_single P H2 hn hq), Bool.true_or, Bool.and_true]
theorem can_some {ns : List Nd} (P : PdN ns) {n m : Nd} (hn : n ∈ ns) (hm : m ∈ ns) (hq : n.q = some m.x) : canE (edsN ns) n.e = (decide (n.e.a ≠ n.e.b) && decide (loE m.e = loE n.e ∧ hiE m.e = hiE n.e)) := by
  have hp : n.e.p ≠ -1 := fun e => by rw [P.one n hn e] at hq; cases hq
  unfold canE
  rw [decide_eq_false hp, Bool.false_or]
  congr 1
  rcases P.two n hn hp with ⟨hq2, _⟩ | ⟨m2, hm2, hne, hq2, hpm, _, hall⟩
  · rw [hq] at hq2; cases hq2
  · rw [hq] at hq2
    injection hq2 with hq2
    obtain rfl := nodup_inj P.nodup hm hm2 hq2
    by_cases h : loE m.e = loE n.e ∧ hiE m.e = hiE n.e
    · rw [decide_eq_true h, List.all_eq_true]
      intro y hy
      obtain ⟨l, hl, rfl⟩ := List.mem_map.1 hy
      by_cases e : l.e.p = n.e.p
      · rcases hall l hl e with e2 | e2
        · obtain rfl := nodup_inj P.nodup hl hn e2; simp
        · obtain rfl := nodup_inj P.nodup hl hm e2; simp [h]
      · simp [e]
    · rw [decide_eq_false h, List.all_eq_false]
      exact ⟨m.e, List.mem_map.2 ⟨m, hm, rfl⟩, by simp [hpm]; intro h1 h2; exact h ⟨h1, h2⟩⟩
theorem part_mem {ns : List Nd} (P : PdN ns) {n : Nd} {b : Nat} (hn : n ∈ ns) (hq : n.q = some b) : ∃ m ∈ ns, m.x = b := by
  have hp : n.e.p ≠ -1 := fun e => by rw [P.one n hn e] at hq; cases hq
  rcases P.two n hn hp with ⟨hq2, _⟩ | ⟨m2, hm2, _, hq2, _⟩
  · rw [hq] at hq2; cases hq2
  · rw [hq] at hq2; injection hq2 with hq2; exact ⟨m2, hm2, hq2.symm⟩
/-- A new node at the end: alone, or with the one of its pair. -/
def setQ (ns : List Nd) (m x : Nat) : List Nd := ns.map fun n => if n.x = m then ⟨n.x, n.e, some x⟩ else n
theorem setQ_eds (ns : List Nd) (m x : Nat) : edsN (setQ ns m x) = edsN ns := by
  unfold edsN setQ
  rw [List.map_map]
  refine List.map_congr_left fun n _ => ?_
  show (if n.x = m then (⟨n.x, n.e, some x⟩ : Nd) else n).e = n.e
  split <;> rfl
theorem setQ_x (ns : List Nd) (m x : Nat) : (setQ ns m x).map (·.x) = ns.map (·.x) := by
  unfold setQ
  rw [List.map_map]
  refine List.map_congr_left fun n _ => ?_
  show (if n.x = m then (⟨n.x, n.e, some x⟩ : Nd) else n).x = n.x
  split <;> rfl
theorem mem_setQ {ns : List Nd} {m x : Nat} {n : Nd} : n ∈ setQ ns m x ↔ ∃ l ∈ ns, n = if l.x = m then ⟨l.x, l.e, some x⟩ else l := by
  unfold setQ
  rw [List.mem_map]
  exact ⟨fun ⟨l, h1, h2⟩ => ⟨l, h1, h2.symm⟩, fun ⟨l, h1, h2⟩ => ⟨l, h1, h2.symm⟩⟩
theorem nodup_push {ns : List Nd} {n : Nd} (h : (ns.map (·.x)).Nodup) (hn : ∀ l ∈ ns, l.x ≠ n.x) : ((ns ++ [n]).map (·.x)).Nodup := by
  rw [List.map_append, List.nodup_append]
  refine ⟨h, by simp, ?_⟩
  intro a ha b hb
  obtain ⟨l, hl, rfl⟩ := List.mem_map.1 ha
  have : b = n.x := by simpa using hb
  rw [this]; exact hn l hl
theorem PdN.alone {ns : List Nd} (P : PdN ns) {x : Nat} {e : Ed} (hx : ∀ l ∈ ns, l.x ≠ x) (hp : e.p = -1 ∨ ∀ l ∈ ns, l.e.p ≠ e.p) : PdN (ns ++ [⟨x, e, none⟩]) where
  nodup := nodup_push P.nodup hx
  one := by
    intro n hn h
    rcases List.mem_append.1 hn with hn | hn
    · exact P.one n hn h
    · obtain rfl : n = ⟨x, e, none⟩ := by simpa using hn
      rfl
  two := by
    intro n hn h
    rcases List.mem_append.1 hn with hn | hn
    · have hne : e.p ≠ n.e.p := by
        rcases hp with h1 | h1
        · rw [h1]; exact fun e2 => h e2.symm
        · exact fun e2 => h1 n hn e2.symm
      rcases P.two n hn h with ⟨hq, hall⟩ | ⟨m, hm, h1, h2, h3, h4, hall⟩
      · refine .inl ⟨hq, fun l hl e2 => ?_⟩
        rcases List.mem_append.1 hl with hl | hl
        · exact hall l hl e2
        · obtain rfl : l = ⟨x, e, none⟩ := by simpa using hl
          exact absurd e2 hne
      · refine .inr ⟨m, List.mem_append_left _ hm, h1, h2, h3, h4, fun l hl e2 => ?_⟩
        rcases List.mem_append.1 hl with hl | hl
        · exact hall l hl e2
        · obtain rfl : l = ⟨x, e, none⟩ := by simpa using hl
          exact absurd e2 hne
    · obtain rfl : n = ⟨x, e, none⟩ := by simpa using hn
      refine .inl ⟨rfl, fun l hl e2 => ?_⟩
      rcases List.mem_append.1 hl with hl | hl
      · rcases hp with h1 | h1
        · exact absurd h1 h
        · exact absurd e2 (h1 l hl)
      · obtain rfl : l = ⟨x, e, none⟩ := by simpa using hl
        rfl
theorem PdN.both {ns : List Nd} (P : PdN ns) {x : Nat} {e : Ed} {m : Nd} (hm : m ∈ ns) (hx : ∀ l ∈ ns, l.x ≠ x) (hp : e.p ≠ -1) (hpm : m.e.p = e.p) (hal : ∀ l ∈ ns, l.e.p = e.p → l.x = m.x) : PdN (setQ ns m.x x ++ [⟨x, e, some m.x⟩]) where
  nodup := nodup_push (by rw [setQ_x]; exact P.nodup) fun l hl => by
    obtain ⟨l2, hl2, rfl⟩ := mem_setQ.1 hl
    split
    · exact hx l2 hl2
    · exact hx l2 hl2
  one := by
    intro n hn h
    rcases List.mem_append.1 hn with hn | hn
    · obtain ⟨l, hl, rfl⟩ := mem_setQ.1 hn
      by_cases e2 : l.x = m.x
      · rw [if_pos e2] at h
        obtain rfl := nodup_inj P.nodup hl hm e2
        exact absurd (hpm.symm.trans h) hp
      · rw [if_neg e2] at h ⊢
        exact P.one l hl h
    · obtain rfl : n = ⟨x, e, some m.x⟩ := by simpa using hn
      exact absurd h hp
  two := by
    have hmx : m.x ≠ x := hx m hm
    intro n hn h
    rcases List.mem_append.1 hn with hn | hn
    · obtain ⟨l, hl, rfl⟩ := mem_setQ.1 hn
      by_cases e2 : l.x = m.x
      · obtain rfl := nodup_inj P.nodup hl hm e2
        rw [if_pos rfl]
        refine .inr ⟨⟨x, e, some l.x⟩, List.mem_append_right _ (by simp), hmx.symm, rfl, hpm.symm, rfl, fun k hk hkp => ?_⟩
        rcases List.mem_append.1 hk with hk | hk
        · obtain ⟨k2, hk2, rfl⟩ := mem_setQ.1 hk
          left
          by_cases e3 : k2.x = l.x
          · rw [if_pos e3]; exact e3
          · rw [if_neg e3] at hkp ⊢
            exact hal k2 hk2 (hkp.trans hpm)
        · obtain rfl : k = ⟨x, e, some l.x⟩ := by simpa using hk
          exact .inr rfl
      · rw [if_neg e2] at h ⊢
        have hne : l.e.p ≠ e.p := fun e3 => e2 (hal l hl e3)
        rcases P.two l hl h with ⟨hq, hall⟩ | ⟨k, hk, h1, h2, h3, h4, hall⟩
        · refine .inl ⟨hq, fun k hk hkp => ?_⟩
          rcases List.mem_append.1 hk with hk | hk
          · obtain ⟨k2, hk2, rfl⟩ := mem_setQ.1 hk
            by_cases e3 : k2.x = m.x
            · obtain rfl := nodup_inj P.nodup hk2 hm e3
              rw [if_pos rfl] at hkp
              exact absurd (hkp.symm.trans hpm) hne
            · rw [if_neg e3] at hkp ⊢
              exact hall k2 hk2 hkp
          · obtain rfl : k = ⟨x, e, some m.x⟩ := by simpa using hk
            exact absurd hkp.symm hne
        · have hkm : k.x ≠ m.x := fun e3 => by
            obtain rfl := nodup_inj P.nodup hk hm e3
            exact hne (h3.symm.trans hpm)
          refine .inr ⟨k, List.mem_append_left _ (mem_setQ.2 ⟨k, hk, by rw [if_neg hkm]⟩), h1, h2, h3, h4, fun j hj hjp => ?_⟩
          rcases List.mem_append.1 hj with hj | hj
          · obtain ⟨k2, hk2, rfl⟩ := mem_setQ.1 hj
            by_cases e3 : k2.x = m.x
            · obtain rfl := nodup_inj P.nodup hk2 hm e3
              rw [if_pos rfl] at hjp
              exact absurd (hjp.symm.trans hpm) hne
            · rw [if_neg e3] at hjp ⊢
              exact hall k2 hk2 hjp
          · obtain rfl : j = ⟨x, e, some m.x⟩ := by simpa using hj
            exact absurd hjp.symm hne
    · obtain rfl : n = ⟨x, e, some m.x⟩ := by simpa using hn
      refine .inr ⟨⟨m.x, m.e, some x⟩, List.mem_append_left _ (mem_setQ.2 ⟨m, hm, by rw [if_pos rfl]⟩), hmx, rfl, hpm, rfl, fun k hk hkp => ?_⟩
      rcases List.mem_append.1 hk with hk | hk
      · obtain ⟨k2, hk2, rfl⟩ := mem_setQ.1 hk
        right
        by_cases e3 : k2.x = m.x
        · rw [if_pos e3]; exact e3
        · rw [if_neg e3] at hkp ⊢
          exact hal k2 hk2 hkp
      · obtain rfl : k = ⟨x, e, some m.x⟩ := by simpa using hk
        exact .inl rfl
end Go.Proofs.YtlcapifgpcimpaaDoor
