/- A paired graph with its edges in a linked list: what memory holds. -/
import Derived.Test.YtlcapifgpcimpaaDoorCcM
namespace Go.Proofs.YtlcapifgpcimpaaDoor
set_option linter.unusedSimpArgs false
set_option linter.unusedVariables false
open Go.ChangeAt Go.ChangeShapes Go.RowKit Go.WideShapes

/-- A pointer to the start of a block, or nil. -/
def ptE : Option Nat → Value
  | none => .pointer none
  | some b => .pointer (some ⟨b, 0, none⟩)
def hdN : List Nd → Option Nat → Option Nat
  | [], t => t
  | n :: _, _ => some n.x
def lastN : List Nd → Option Nat
  | [] => none
  | [n] => some n.x
  | _ :: m :: r => lastN (m :: r)
/-- The place of the pointer behind the nodes K. -/
def plcN (c : Nat) (K : List Nd) : Addr := match lastN K with
  | none => ⟨c, 1, none⟩
  | some x => ⟨x, 4, none⟩
def ndC (n : Nd) (t : Option Nat) : Array Value := #[.int .i64 n.e.a, .int .i64 n.e.b, .int .i64 n.e.p, ptE n.q, ptE t]
def NdAt (w : World) (n : Nd) (t : Option Nat) : Prop := w.heap[n.x]? = some (.cells (ndC n t) 131 (0, 0))
def SegN (w : World) : List Nd → Option Nat → Prop
  | [], _ => True
  | n :: r, t => NdAt w n (hdN r t) ∧ SegN w r t
theorem hdN_app : ∀ (K R : List Nd) (t : Option Nat), hdN (K ++ R) t = hdN K (hdN R t)
  | [], _, _ => rfl
  | _ :: _, _, _ => rfl
theorem SegN_app {w : World} : ∀ (K R : List Nd) (t : Option Nat), SegN w (K ++ R) t ↔ SegN w K (hdN R t) ∧ SegN w R t
  | [], R, t => by simp [SegN]
  | n :: K, R, t => by
    show (NdAt w n (hdN (K ++ R) t) ∧ SegN w (K ++ R) t) ↔ ((NdAt w n (hdN K (hdN R t)) ∧ SegN w K (hdN R t)) ∧ SegN w R t)
    rw [hdN_app, SegN_app K R t, and_assoc]
theorem SegN_same {w w' : World} : ∀ {ns : List Nd} {t : Option Nat}, SegN w ns t → (∀ n ∈ ns, w'.heap[n.x]? = w.heap[n.x]?) → SegN w' ns t
  | [], _, _, _ => trivial
  | n :: r, t, h, hk => ⟨(hk n (by simp)).trans h.1, SegN_same h.2 fun m hm => hk m (by simp [hm])⟩
theorem SegN_mem {w : World} : ∀ {ns : List Nd} {t : Option Nat}, SegN w ns t → ∀ n ∈ ns, ∃ u, NdAt w n u
  | [], _, _, _, h => absurd h (by simp)
  | n :: r, t, h, m, hm => by
    rcases List.mem_cons.1 hm with rfl | hm
    · exact ⟨_, h.1⟩
    · exact SegN_mem h.2 m hm
theorem NdAt.next {w : World} {n : Nd} {t u : Option Nat} (h : NdAt w n t) : NdAt (w.setCell ⟨n.x, 4, none⟩ (ptE u)) n u := by
  have := heap_setCell_same w n.x 4 _ _ (ptE u) h
  unfold NdAt; simpa [ndC] using this
theorem NdAt.part {w : World} {n : Nd} {t : Option Nat} (h : NdAt w n t) (x : Nat) : NdAt (w.setCell ⟨n.x, 3, none⟩ (ptE (some x))) ⟨n.x, n.e, some x⟩ t := by
  have := heap_setCell_same w n.x 3 _ _ (ptE (some x)) h
  unfold NdAt; simpa [ndC] using this
theorem NdAt.ends {w : World} {n : Nd} {t : Option Nat} (h : NdAt w n t) (a b : Int) : NdAt ((w.setCell ⟨n.x, 0, none⟩ (.int .i64 a)).setCell ⟨n.x, 1, none⟩ (.int .i64 b)) ⟨n.x, ⟨a, b, n.e.p⟩, n.q⟩ t := by
  have h0 := heap_setCell_same w n.x 0 _ _ (.int .i64 a) h
  have h1 := heap_setCell_same _ n.x 1 _ _ (.int .i64 b) h0
  unfold NdAt; simpa [ndC] using h1
theorem NdAt.cells {w : World} {n : Nd} {t : Option Nat} (h : NdAt w n t) : w.cell? ⟨n.x, 0, none⟩ = some (.int .i64 n.e.a) ∧ w.cell? ⟨n.x, 1, none⟩ = some (.int .i64 n.e.b) ∧ w.cell? ⟨n.x, 2, none⟩ = some (.int .i64 n.e.p) ∧ w.cell? ⟨n.x, 3, none⟩ = some (ptE n.q) ∧ w.cell? ⟨n.x, 4, none⟩ = some (ptE t) :=
  ⟨cell_of_row _ _ 0 _ _ (0, 0) h, cell_of_row _ _ 1 _ _ (0, 0) h, cell_of_row _ _ 2 _ _ (0, 0) h, cell_of_row _ _ 3 _ _ (0, 0) h, cell_of_row _ _ 4 _ _ (0, 0) h⟩
theorem NdAt.frozen {w : World} {n : Nd} {t : Option Nat} (h : NdAt w n t) (j : Nat) : w.frozen? ⟨n.x, j, none⟩ = false := frozen_of_row _ _ j _ _ h
theorem NdAt.lt {w : World} {n : Nd} {t : Option Nat} (h : NdAt w n t) : n.x < w.heap.size := by
  unfold NdAt at h
  exact (Array.getElem?_eq_some_iff.1 h).1
theorem lastN_mem : ∀ {K : List Nd} {x : Nat}, lastN K = some x → ∃ n ∈ K, n.x = x
  | [], _, h => by cases h
  | [n], x, h => ⟨n, by simp, by simpa [lastN] using h⟩
  | n :: m :: r, x, h => by
    obtain ⟨l, hl, e⟩ := lastN_mem (K := m :: r) h
    exact ⟨l, List.mem_cons_of_mem _ hl, e⟩
theorem SegN_next {w : World} {x : Nat} {u : Option Nat} : ∀ {K : List Nd} {t : Option Nat}, SegN w K t → (K.map (·.x)).Nodup → lastN K = some x → SegN (w.setCell ⟨x, 4, none⟩ (ptE u)) K u
  | [], _, _, _, h => by cases h
  | [n], t, h, _, e => by
    obtain rfl : n.x = x := by simpa [lastN] using e
    exact ⟨h.1.next, trivial⟩
  | n :: m :: r, t, h, hd, e => by
    rw [List.map_cons, List.nodup_cons] at hd
    refine ⟨?_, SegN_next (K := m :: r) h.2 hd.2 e⟩
    obtain ⟨l, hl, e2⟩ := lastN_mem (K := m :: r) e
    have hne : n.x ≠ x := fun e3 => hd.1 (List.mem_map.2 ⟨l, hl, e2.trans e3.symm⟩)
    exact (heap_setCell_other _ _ _ _ hne).trans h.1
/-- A graph in block c, its nodes in blocks of their own from base on. -/
structure ChG (w : World) (base c : Nat) (nd : Int) (ns : List Nd) : Prop where
  head : w.heap[c]? = some (.cells #[.int .i64 nd, ptE (hdN ns none)] 127 (0, 0))
  seg : SegN w ns none
  nodup : (ns.map (·.x)).Nodup
  loC : base ≤ c
  lo : ∀ n ∈ ns, base ≤ n.x
section
variable {w w' : World} {base c : Nat} {nd : Int} {ns : List Nd}
theorem ChG.ne (h : ChG w base c nd ns) : ∀ n ∈ ns, n.x ≠ c := fun n hn e => by
  obtain ⟨u, hu⟩ := SegN_mem h.seg n hn
  unfold NdAt at hu
  rw [e, h.head] at hu
  have := Option.some.inj hu
  injection this with e1 e2
  exact absurd e2 (by decide)
theorem ChG.ltC (h : ChG w base c nd ns) : c < w.heap.size := (Array.getElem?_eq_some_iff.1 h.head).1
theorem ChG.lt (h : ChG w base c nd ns) : ∀ n ∈ ns, n.x < w.heap.size := fun n hn => by
  obtain ⟨u, hu⟩ := SegN_mem h.seg n hn
  exact hu.lt
theorem ChG.same (h : ChG w base c nd ns) (hk : ∀ k, base ≤ k → k < w.heap.size → w'.heap[k]? = w.heap[k]?) : ChG w' base c nd ns :=
  ⟨(hk c h.loC h.ltC).trans h.head, SegN_same h.seg fun n hn => hk n.x (h.lo n hn) (h.lt n hn), h.nodup, h.loC, h.lo⟩
theorem ChG.below (h : ChG w base c nd ns) (hb : Below w.heap.size w w') : ChG w' base c nd ns := h.same fun k _ hk => hb.block k hk
theorem ChG.cells (h : ChG w base c nd ns) : w.cell? ⟨c, 0, none⟩ = some (.int .i64 nd) ∧ w.cell? ⟨c, 1, none⟩ = some (ptE (hdN ns none)) := ⟨cell_of_row _ _ 0 _ _ (0, 0) h.head, cell_of_row _ _ 1 _ _ (0, 0) h.head⟩
theorem ChG.frozenC (h : ChG w base c nd ns) (j : Nat) : w.frozen? ⟨c, j, none⟩ = false := frozen_of_row _ _ j _ _ h.head
theorem ChG.at {K R : List Nd} {n : Nd} (h : ChG w base c nd (K ++ n :: R)) : NdAt w n (hdN R none) := ((SegN_app K (n :: R) none).1 h.seg).2.1
theorem ChG.mem (h : ChG w base c nd ns) {n : Nd} (hn : n ∈ ns) : ∃ u, NdAt w n u := SegN_mem h.seg n hn
theorem ChG.less (h : ChG w base c nd ns) (m : Int) : ChG (w.setCell ⟨c, 0, none⟩ (.int .i64 m)) base c m ns :=
  ⟨by have := heap_setCell_same w c 0 _ _ (.int .i64 m) h.head; simpa using this, SegN_same h.seg fun n hn => heap_setCell_other _ _ _ _ (h.ne n hn), h.nodup, h.loC, h.lo⟩
/-- The pointer at the place behind K. -/
theorem ChG.place {K R : List Nd} (h : ChG w base c nd (K ++ R)) : w.cell? (plcN c K) = some (ptE (hdN R none)) ∧ w.frozen? (plcN c K) = false := by
  unfold plcN
  cases hl : lastN K with
  | none =>
    have : K = [] := by
      cases K with
      | nil => rfl
      | cons n r =>
        exfalso
        have : ∀ (r : List Nd) (n : Nd), lastN (n :: r) ≠ none := by
          intro r
          induction r with
          | nil => intro n h; cases h
          | cons m r ih => intro n h; exact ih m h
        exact this r n hl
    subst this
    exact ⟨h.cells.2, h.frozenC 1⟩
  | some x =>
    have key : ∀ {K : List Nd} {t : Option Nat}, SegN w K t → lastN K = some x → w.cell? ⟨x, 4, none⟩ = some (ptE t) ∧ w.frozen? ⟨x, 4, none⟩ = false := by
      intro K
      induction K with
      | nil => intro t _ h; cases h
      | cons n r ih =>
        intro t hs hl
        cases r with
        | nil =>
          obtain rfl : n.x = x := by simpa [lastN] using hl
          exact ⟨hs.1.cells.2.2.2.2, hs.1.frozen 4⟩
        | cons m r => exact ih hs.2 hl
    exact key ((SegN_app K R none).1 h.seg).1 hl
theorem lastN_none : ∀ {K : List Nd}, lastN K = none → K = []
  | [], _ => rfl
  | [n], h => by cases h
  | n :: m :: r, h => absurd (lastN_none (K := m :: r) h) (by simp)
/-- The place behind K pointed elsewhere: R in the place of what was there. -/
theorem ChG.link {K R R' : List Nd} (h : ChG w base c nd (K ++ R)) (hs : SegN w R' none) (hd : ((K ++ R').map (·.x)).Nodup) (hlo : ∀ n ∈ R', base ≤ n.x) (hnc : ∀ n ∈ R', n.x ≠ c) : ChG (w.setCell (plcN c K) (ptE (hdN R' none))) base c nd (K ++ R') := by
  have hsk := ((SegN_app K R none).1 h.seg).1
  have hdK : (K.map (·.x)).Nodup := by rw [List.map_append, List.nodup_append] at hd; exact hd.1
  have hno : ∀ n ∈ R', ∀ m ∈ K, n.x ≠ m.x := fun n hn m hm e => by
    rw [List.map_append, List.nodup_append] at hd
    exact hd.2.2 m.x (List.mem_map.2 ⟨m, hm, rfl⟩) n.x (List.mem_map.2 ⟨n, hn, rfl⟩) e.symm
  have hlo2 : ∀ n ∈ K ++ R', base ≤ n.x := fun n hn => by
    rcases List.mem_append.1 hn with hn | hn
    · exact h.lo n (List.mem_append_left _ hn)
    · exact hlo n hn
  unfold plcN
  cases hl : lastN K with
  | none =>
    obtain rfl := lastN_none hl
    refine ⟨?_, SegN_same hs fun n hn => heap_setCell_other _ _ _ _ (hnc n hn), hd, h.loC, hlo2⟩
    have := heap_setCell_same w c 1 _ _ (ptE (hdN R' none)) h.head
    simpa using this
  | some x =>
    obtain ⟨l, hl1, hl2⟩ := lastN_mem hl
    refine ⟨?_, (SegN_app K R' none).2 ⟨SegN_next hsk hdK hl, SegN_same hs fun n hn => heap_setCell_other _ _ _ _ (by show n.x ≠ x; rw [← hl2]; exact hno n hn l hl1)⟩, hd, h.loC, hlo2⟩
    have hne : c ≠ x := fun e => h.ne l (List.mem_append_left _ hl1) (hl2.trans e.symm)
    rw [heap_setCell_other _ _ _ _ (by show c ≠ x; exact hne), h.head]
    cases K with
    | nil => cases hl
    | cons a b => rfl
/-- A node taken out. -/
theorem ChG.unlink {K R : List Nd} {n : Nd} (h : ChG w base c nd (K ++ n :: R)) : ChG (w.setCell (plcN c K) (ptE (hdN R none))) base c nd (K ++ R) :=
  h.link ((SegN_app K (n :: R) none).1 h.seg).2.2 (by
      have := h.nodup
      rw [List.map_append, List.map_cons] at this
      rw [List.map_append]
      exact (List.Sublist.append_left (List.sublist_cons_self _ _) _).nodup this)
    (fun m hm => h.lo m (by simp [hm])) (fun m hm => h.ne m (by simp [hm]))
/-- A node put at the end. -/
theorem ChG.push {n : Nd} (h : ChG w base c nd ns) (hn : NdAt w n none) (hx : ∀ m ∈ ns, m.x ≠ n.x) (hlo : base ≤ n.x) (hnc : n.x ≠ c) : ChG (w.setCell (plcN c ns) (ptE (some n.x))) base c nd (ns ++ [n]) := by
  have h' : ChG w base c nd (ns ++ []) := by rw [List.append_nil]; exact h
  have one : ∀ m ∈ [n], m = n := fun m hm => by simpa using hm
  exact h'.link (R' := [n]) ⟨hn, trivial⟩ (nodup_push h.nodup hx) (fun m hm => by rw [one m hm]; exact hlo) (fun m hm => by rw [one m hm]; exact hnc)
/-- A node's ends renamed. -/
theorem ChG.renum {K R : List Nd} {n : Nd} (h : ChG w base c nd (K ++ n :: R)) (a b : Int) : ChG ((w.setCell ⟨n.x, 0, none⟩ (.int .i64 a)).setCell ⟨n.x, 1, none⟩ (.int .i64 b)) base c nd (K ++ ⟨n.x, ⟨a, b, n.e.p⟩, n.q⟩ :: R) := by
  obtain ⟨hsk, hsn, hsr⟩ := (SegN_app K (n :: R) none).1 h.seg
  have hd := h.nodup
  rw [List.map_append, List.map_cons, List.nodup_append, List.nodup_cons] at hd
  have hK : ∀ m ∈ K, m.x ≠ n.x := fun m hm e => hd.2.2 m.x (List.mem_map.2 ⟨m, hm, rfl⟩) n.x (by simp) e
  have hR : ∀ m ∈ R, m.x ≠ n.x := fun m hm e => hd.2.1.1 (List.mem_map.2 ⟨m, hm, e⟩)
  have hoth : ∀ k, k ≠ n.x → ((w.setCell ⟨n.x, 0, none⟩ (.int .i64 a)).setCell ⟨n.x, 1, none⟩ (.int .i64 b)).heap[k]? = w.heap[k]? := fun k hk => by
    rw [heap_setCell_other _ _ _ _ (by show k ≠ n.x; exact hk), heap_setCell_other _ _ _ _ (by show k ≠ n.x; exact hk)]
  refine ⟨?_, (SegN_app K _ none).2 ⟨SegN_same hsk fun m hm => hoth _ (hK m hm), hsn.ends a b, SegN_same hsr fun m hm => hoth _ (hR m hm)⟩, ?_, h.loC, ?_⟩
  · rw [hoth _ (fun e => h.ne n (by simp) e.symm), h.head]
    cases K <;> rfl
  · have := h.nodup
    rw [List.map_append, List.map_cons] at this ⊢
    exact this
  · intro m hm
    rcases List.mem_append.1 hm with hm | hm
    · exact h.lo m (List.mem_append_left _ hm)
    · rcases List.mem_cons.1 hm with rfl | hm
      · exact h.lo n (by simp)
      · exact h.lo m (by simp [hm])
theorem SegN_part {w : World} {m : Nd} {x : Nat} : ∀ {ns : List Nd} {t : Option Nat}, SegN w ns t → (ns.map (·.x)).Nodup → m ∈ ns → SegN (w.setCell ⟨m.x, 3, none⟩ (ptE (some x))) (setQ ns m.x x) t
  | [], _, _, _, h => absurd h (by simp)
  | n :: r, t, h, hd, hm => by
    rw [List.map_cons, List.nodup_cons] at hd
    have hhd : hdN (setQ r m.x x) t = hdN r t := by
      cases r with
      | nil => rfl
      | cons k r => show some (if k.x = m.x then (⟨k.x, k.e, some x⟩ : Nd) else k).x = some k.x; split <;> rfl
    show NdAt _ (if n.x = m.x then ⟨n.x, n.e, some x⟩ else n) (hdN (setQ r m.x x) t) ∧ SegN _ (setQ r m.x x) t
    rw [hhd]
    by_cases e : n.x = m.x
    · rw [if_pos e]
      refine ⟨by rw [← e]; exact h.1.part x, ?_⟩
      have hno : ∀ k ∈ r, k.x ≠ m.x := fun k hk e2 => hd.1 (List.mem_map.2 ⟨k, hk, e2.trans e.symm⟩)
      have : setQ r m.x x = r := by
        unfold setQ
        conv => rhs; rw [← List.map_id r]
        refine List.map_congr_left fun k hk => ?_
        rw [if_neg (hno k hk)]; rfl
      rw [this]
      exact SegN_same h.2 fun k hk => heap_setCell_other _ _ _ _ (hno k hk)
    · rw [if_neg e]
      rcases List.mem_cons.1 hm with rfl | hm
      · exact absurd rfl e
      · exact ⟨(heap_setCell_other _ _ _ _ e).trans h.1, SegN_part h.2 hd.2 hm⟩
/-- A node's partner set. -/
theorem ChG.part {m : Nd} (h : ChG w base c nd ns) (hm : m ∈ ns) (x : Nat) : ChG (w.setCell ⟨m.x, 3, none⟩ (ptE (some x))) base c nd (setQ ns m.x x) := by
  refine ⟨?_, SegN_part h.seg h.nodup hm, by rw [setQ_x]; exact h.nodup, h.loC, ?_⟩
  · rw [heap_setCell_other _ _ _ _ (by show c ≠ m.x; exact fun e => h.ne m hm e.symm), h.head]
    cases ns with
    | nil => rfl
    | cons k r => show _ = some (Obj.cells #[.int .i64 nd, ptE (some (if k.x = m.x then (⟨k.x, k.e, some x⟩ : Nd) else k).x)] _ _); split <;> rfl
  · intro n hn
    obtain ⟨l, hl, rfl⟩ := mem_setQ.1 hn
    split
    · exact h.lo l hl
    · exact h.lo l hl
end
theorem plcN_block (c : Nat) (K : List Nd) : (plcN c K).block = c ∨ ∃ l ∈ K, (plcN c K).block = l.x := by
  unfold plcN
  cases h : lastN K with
  | none => exact .inl rfl
  | some x =>
    obtain ⟨l, hl, e⟩ := lastN_mem h
    exact .inr ⟨l, hl, e.symm⟩
theorem plcN_app (c : Nat) (K : List Nd) (n : Nd) : plcN c (K ++ [n]) = ⟨n.x, 4, none⟩ := by
  have : ∀ (K : List Nd), lastN (K ++ [n]) = some n.x := by
    intro K
    induction K with
    | nil => rfl
    | cons a b ih =>
      cases b with
      | nil => rfl
      | cons d e => exact ih
  unfold plcN; rw [this]
theorem lastN_setQ (m x : Nat) : ∀ ns : List Nd, lastN (setQ ns m x) = lastN ns
  | [] => rfl
  | [n] => by show some (if n.x = m then (⟨n.x, n.e, some x⟩ : Nd) else n).x = some n.x; split <;> rfl
  | n :: k :: r => lastN_setQ m x (k :: r)
theorem plcN_setQ (c m x : Nat) (ns : List Nd) : plcN c (setQ ns m x) = plcN c ns := by unfold plcN; rw [lastN_setQ]
end Go.Proofs.YtlcapifgpcimpaaDoor
