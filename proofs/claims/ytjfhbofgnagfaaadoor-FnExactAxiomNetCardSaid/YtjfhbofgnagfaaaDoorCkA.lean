/- Rows of headers: a row of one's own whose parts lie wherever. slices.Contains; the program's without. -/
import Derived.Test.YtjfhbofgnagfaaaDoorBndD
import Derived.Test.YtjfhbofgnagfaaaDoorClone
import Derived.Test.YtjfhbofgnagfaaaDoorSeqV
import Derived.Laws.AppendOwnNone
namespace Go.Proofs.YtjfhbofgnagfaaaDoor
open Go.ChangeAt Go.ChangeShapes Go.RowKit Go.WideShapes

/-- Headers that read as a list of lists. -/
structure RdV (w : World) (vs : List Value) (R : List (List Int)) : Prop where
  len : vs.length = R.length
  part : ∀ i, i < R.length → ∃ A c, vs[i]? = some (.slice A (R.getD i []).length c) ∧ (R.getD i []).length ≤ c ∧ RdI w w.heap.size A (R.getD i []).length (R.getD i [])
theorem RdV.below {w w' : World} {vs : List Value} {R : List (List Int)} (h : RdV w vs R) (hb : Below w.heap.size w w') : RdV w' vs R :=
  ⟨h.len, fun i hi => by
    obtain ⟨A, c, h1, h2, h3⟩ := h.part i hi
    exact ⟨A, c, h1, h2, (h3.below hb).more hb.size⟩⟩
theorem RdV.one {w : World} {vs : List Value} {R : List (List Int)} (h : RdV w vs R) : ∀ v ∈ vs, v.oneCell' = true := by
  intro v hv
  obtain ⟨i, hi, e⟩ := List.mem_iff_getElem.1 hv
  obtain ⟨A, c, h1, _⟩ := h.part i (by have := h.len; omega)
  rw [List.getElem?_eq_getElem hi, e] at h1
  injection h1 with h1
  rw [h1]; rfl
theorem RdV.nil (w : World) : RdV w [] [] := ⟨rfl, fun i hi => by simp at hi⟩
theorem RdV.app {w : World} {vs us : List Value} {R S : List (List Int)} (h : RdV w vs R) (h' : RdV w us S) : RdV w (vs ++ us) (R ++ S) := by
  have hl := h.len
  refine ⟨by rw [List.length_append, List.length_append, h.len, h'.len], fun i hi => ?_⟩
  rw [List.length_append] at hi
  by_cases e : i < R.length
  · have e1 : (R ++ S).getD i [] = R.getD i [] := by simp [List.getD, List.getElem?_append_left e]
    rw [e1, List.getElem?_append_left (by omega)]
    exact h.part i e
  · have e1 : (R ++ S).getD i [] = S.getD (i - R.length) [] := by simp [List.getD, List.getElem?_append_right (by omega : R.length ≤ i)]
    rw [e1, List.getElem?_append_right (by omega), hl]
    exact h'.part (i - R.length) (by omega)
theorem RdV.single {w : World} {A : Option Addr} {c : Nat} {q : List Int} (h : RdI w w.heap.size A q.length q) (hc : q.length ≤ c) : RdV w [.slice A q.length c] [q] :=
  ⟨rfl, fun i hi => by
    have e : i = 0 := by simp at hi; omega
    subst e
    exact ⟨A, c, rfl, hc, h⟩⟩
theorem RdV.of_q {w : World} {b off n : Nat} {R : List (List Int)} (h : RdQ w w.heap.size (some ⟨b, off, none⟩) n R) : ∃ vs, RdV w vs R ∧ ∀ j v, vs[j]? = some v → w.cell? ((⟨b, off, none⟩ : Addr).add j) = some v := by
  have hl := h.len
  subst hl
  by_cases h0 : 0 < R.length
  · obtain ⟨b', off', e, _, hc⟩ := h.2 h0
    cases e
    refine ⟨(List.range R.length).map fun j => (w.cell? ⟨b, off + j, none⟩).getD undef, ⟨by simp, fun i hi => ?_⟩, fun j v hv => ?_⟩
    · obtain ⟨A, c, h1, h2, h3⟩ := hc i hi
      refine ⟨A, c, ?_, h2, h3⟩
      rw [List.getElem?_map, List.getElem?_range hi, Option.map_some, h1]; rfl
    · have hj : j < R.length := by have := (List.getElem?_eq_some_iff.1 hv).1; simpa using this
      obtain ⟨A, c, h1, _⟩ := hc j hj
      have hadd : (⟨b, off, none⟩ : Addr).add j = ⟨b, off + j, none⟩ := by unfold Addr.add; split <;> simp_all
      rw [List.getElem?_map, List.getElem?_range hj, Option.map_some, h1] at hv
      rw [hadd, h1]
      exact hv
  · have e : R = [] := List.eq_nil_of_length_eq_zero (by omega)
    subst e
    exact ⟨[], RdV.nil w, fun j v hv => by simp at hv⟩
/-- What a function leaves that hands back a row of headers. -/
def GivesV (w : World) (R : List (List Int)) (e : Ending) (w' : World) : Prop :=
  ∃ A c vs, e = .returned (.slice A R.length c) ∧ w'.ownsRow w.heap.size 26 1 (.slice A R.length c) R.length vs ∧ RdV w' vs R ∧ Below w.heap.size w w'
theorem RdV.rd {w : World} {base c : Nat} {A : Option Addr} {vs : List Value} {R : List (List Int)} (h : RdV w vs R) (own : w.ownsRow base 26 1 (.slice A R.length c) R.length vs) : RdQ w w.heap.size A R.length R := by
  refine ⟨rfl, fun hn => ?_⟩
  obtain ⟨g, cap, hv', _, hlt⟩ := own.form hn
  injection hv' with e1 e2 e3
  subst e1; subst e3
  refine ⟨g, 0, rfl, hlt, fun j hj => ?_⟩
  obtain ⟨A, c, h1, h2, h3⟩ := h.part j hj
  refine ⟨A, c, ?_, h2, h3⟩
  rw [Nat.zero_add, own.cellAt j (by omega), h1]
/-- .. whose parts lay there before. -/
def GivesV0 (w : World) (R : List (List Int)) (e : Ending) (w' : World) : Prop :=
  ∃ A c vs, e = .returned (.slice A R.length c) ∧ w'.ownsRow w.heap.size 26 1 (.slice A R.length c) R.length vs ∧ RdV w vs R ∧ Below w.heap.size w w'
theorem rowv_more {w0 wr w7 : World} {base c n m : Nat} {A : Option Addr} {vs us : List Value} {v7 : Value} (hbel : Below base w0 wr) (hbase : base ≤ wr.heap.size)
    (own : wr.ownsRow base 26 1 (.slice A n c) n vs) (hown7 : w7.ownsRow base 26 1 v7 (n + m) (vs ++ us)) (hgrow7 : wr.grownBy w7 (Value.slice A n c).ownBlock) :
    ∃ A7 c7, v7 = .slice A7 (n + m) c7 ∧ Below base w0 w7 ∧ w7.ownsRow base 26 1 (.slice A7 (n + m) c7) (n + m) (vs ++ us) := by
  obtain ⟨A7, c7, rfl⟩ := own_shape hown7
  exact ⟨A7, c7, rfl, hbel.grown hgrow7 hbase (fun k hk => (own.lt k hk).1), hown7⟩

/-- The formulas that are not at one of the places L, of the first k. -/
def woK (P : List (List Int)) (L : List Int) (k : Nat) : List (List Int) := ((List.range k).filter fun (i : Nat) => !decide ((i : Int) ∈ L)).map fun (i : Nat) => P.getD i []
def woL (P : List (List Int)) (L : List Int) : List (List Int) := woK P L P.length
theorem woK_in {P : List (List Int)} {L : List Int} {k : Nat} (h : (k : Int) ∈ L) : woK P L (k + 1) = woK P L k := by
  unfold woK
  rw [List.range_succ, List.filter_append, List.map_append]
  simp [h]
theorem woK_out {P : List (List Int)} {L : List Int} {k : Nat} (h : ¬ (k : Int) ∈ L) : woK P L (k + 1) = woK P L k ++ [P.getD k []] := by
  unfold woK
  rw [List.range_succ, List.filter_append, List.map_append]
  simp [h]
theorem woK_len (P : List (List Int)) (L : List Int) (k : Nat) : (woK P L k).length ≤ k := by
  unfold woK
  rw [List.length_map]
  exact Nat.le_trans (List.length_filter_le _ _) (by simp)

theorem contains_any (A : Option Addr) (n c : Nat) (L : List Int) (x : Int) (w : World) (h : RdI w w.heap.size A n L) (hn : n ≤ 1048576) :
    Calls Tryd.prog 126 #[.slice A n c, .int .i64 x] w fun e w' => ∃ k : Int, e = .returned (.int .i64 k) ∧ w = w' ∧ (x ∈ L → 0 ≤ k) ∧ (x ∉ L → k = -1) := by
  have hl := h.len
  subst hl
  have H := Lib.hid h
  clear h
  go_enter Tryd.func126, Tryd.ntmps126
  go_wp2
  go_loopw [8] (fun i wr => ∃ k : Nat, k ≤ L.length ∧ i = .int .i64 k ∧ (∀ j, j < k → L.getD j 0 ≠ x) ∧ w = wr) (fun i _ => L.length - (intOf i).toNat)
  case atStart => exact ⟨0, Nat.zero_le _, rfl, fun j hj => absurd hj (by omega), rfl⟩
  case round =>
    obtain ⟨k, hk, rfl, hno, rfl⟩ := hrel
    have HNO := Lib.hid hno
    clear hno
    by_cases hlt : k < L.length
    · have hd : decide ((k : Int) < (L.length : Int)) = true := decide_eq_true (by omega)
      obtain ⟨b, off, rfl, hbb, hcells⟩ := H.out.2 (by omega)
      have hc := hcells k hlt
      have HME : Hid (L.getD k 0 ∈ L) := Lib.hid (by simp [List.getD, hlt])
      have HG : Hid (∀ y, L.getD k 0 = y → L.getD k 0 = y) := Lib.hid (fun _ h => h)
      generalize hy : L.getD k 0 = y at *
      have HY := Lib.hid hy
      clear hcells hy
      by_cases hxy : x = y
      · have he : (x == y) = true := by simpa using hxy
        have HX := Lib.hid hxy
        clear hxy
        go_wp2
        go_ret
        exact ⟨_, rfl, rfl, fun _ => by omega, fun hn => absurd (HX.out ▸ HME.out) hn⟩
      · have he : (x == y) = false := by simpa using hxy
        have HX := Lib.hid hxy
        clear hxy
        go_wp2
        go_roundw
        case rel => exact ⟨k + 1, by omega, by go_num, fun j hj => by
          rcases Nat.lt_or_ge j k with h1 | h1
          · exact HNO.out j h1
          · obtain rfl : j = k := by omega
            rw [HY.out]; exact fun e => HX.out e.symm, trivial⟩
        case measure => simp [intOf]; omega
    · have hkl : k = L.length := by omega
      subst hkl
      go_wp2
      go_ret
      exact ⟨_, rfl, rfl, fun hm => by
        obtain ⟨j, hj, e⟩ := List.mem_iff_getElem.1 hm
        exact absurd (by simp [List.getD, hj, e]) (HNO.out j hj), fun _ => rfl⟩
theorem containsI_any (A : Option Addr) (n c : Nat) (L : List Int) (x : Int) (w : World) (h : RdI w w.heap.size A n L) (hn : n ≤ 1048576) :
    Calls Tryd.prog 113 #[.slice A n c, .int .i64 x] w fun e w' => e = .returned (.bool (decide (x ∈ L))) ∧ w = w' := by
  have HI := Lib.hid (contains_any A n c L x w h hn)
  clear h
  go_enter Tryd.func113, Tryd.ntmps113
  go_wp2_with (fail)
  refine HI.out.mono ?_
  rintro e w' ⟨k, rfl, rfl, hin, hout⟩
  by_cases hm : x ∈ L
  · have hd : decide (0 ≤ k) = true := decide_eq_true (hin hm)
    have HE : Hid (decide (x ∈ L) = true) := Lib.hid (decide_eq_true hm)
    clear hin hout hm
    go_wp2
    go_ret
    exact ⟨ret_bool HE.out.symm, rfl⟩
  · have hd : decide (0 ≤ k) = false := decide_eq_false (by have := hout hm; omega)
    have HE : Hid (decide (x ∈ L) = false) := Lib.hid (decide_eq_false hm)
    clear hin hout hm
    go_wp2
    go_ret
    exact ⟨ret_bool HE.out.symm, rfl⟩

end Go.Proofs.YtjfhbofgnagfaaaDoor
