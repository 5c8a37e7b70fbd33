/- Mathematics: the mates of a net, as the model and as the program find them. -/
import Derived.Test.YtfanapddopafiaaDoorMaM
import Derived.Test.YtfanapddopafiaaDoorQNetK
namespace Go.Proofs.YtfanapddopafiaaDoor
open Go.ChangeAt Go.ChangeShapes Go.RowKit Go.WideShapes

/-- The link that makes a wire. -/
def srcL (N : Nt) (x : Int) : Lk := match N.l.findIdx? (srcB x) with
  | some k => N.l.getD k Lk.nil
  | none => Lk.nil
/-- The other output. -/
def parN (N : Nt) (x : Int) : Int := (srcL N x).a + (srcL N x).b - x
def idL (N : Nt) (y : Int) : Nat := (lwN N).idxOf y
/-- The mates of the first i leaves. -/
def maU (N : Nt) (i : Nat) : List Int := ((lwN N).take i).map fun x => (idL N (parN N x) : Int)
def maL (N : Nt) : List Int := maU N (lwN N).length
def maB (N : Nt) : Bool := cqB N && (atN N && decide ((kinN N 2).length = 0))
def maV (N : Nt) : List Int := if maB N then maL N else []
theorem maV_yes {N : Nt} (h : maB N = true) : maV N = maL N := by unfold maV; rw [if_pos h]
theorem maV_no {N : Nt} (h : maB N = false) : maV N = [] := by unfold maV; rw [h]; rfl
theorem maB_c {N : Nt} (h : cqB N = false) : maB N = false := by unfold maB; rw [h]; rfl
theorem maB_a {N : Nt} (h : atN N = false) : maB N = false := by unfold maB; rw [h]; simp
theorem maB_k {N : Nt} (h : ¬ (kinN N 2).length = 0) : maB N = false := by unfold maB; rw [decide_eq_false h]; simp
theorem maB_yes {N : Nt} (h1 : cqB N = true) (h2 : atN N = true) (h3 : (kinN N 2).length = 0) : maB N = true := by unfold maB; rw [h1, h2, decide_eq_true h3]; rfl
theorem maV_len (N : Nt) : (maV N).length ≤ 1048576 := by
  cases h : maB N with
  | false => rw [maV_no h]; exact Nat.zero_le _
  | true =>
    rw [maV_yes h]
    unfold maL maU
    rw [List.length_map, List.take_length]
    exact lwN_len N
theorem atN_valid {N : Nt} (h : atN N = true) : valN N = true := by
  cases hv : valN N with
  | true => rfl
  | false => rw [atN_no hv] at h; cases h
theorem nocut_of {N : Nt} (hv : valN N = true) (h : (kinN N 2).length = 0) : NoCut N := fun j hj hk => by
  unfold kinN at h
  rw [if_pos hv] at h
  have h0 := List.eq_nil_of_length_eq_zero h
  unfold kinU at h0
  have hm : ((j : Nat) : Int) ∈ ((List.range N.l.length).filter fun i => (N.l.getD i Lk.nil).k == 2).map fun i : Nat => (i : Int) :=
    List.mem_map.2 ⟨j, List.mem_filter.2 ⟨List.mem_range.2 hj, by simpa using hk⟩, rfl⟩
  rw [h0] at hm
  cases hm
theorem ax_two {N : Nt} (hv : valN N = true) {j : Nat} (hj : j < N.l.length) (hk : (N.l.getD j Lk.nil).k = 1) : ¬ (N.l.getD j Lk.nil).a = (N.l.getD j Lk.nil).b := fun e => by
  obtain ⟨_, hlt, _⟩ := inW_yes (fitsN_yes (link_fits hv hj)).1
  have hm := (valN_at hv hlt).1
  have h1 := made_mono (ls := N.l) (x := (N.l.getD j Lk.nil).a.toNat) N.l.length hj (Nat.le_refl _)
  rw [List.take_length, hm] at h1
  unfold mk1 at h1
  rw [if_pos hk, ← e] at h1
  simp [one] at h1
theorem ax_out {N : Nt} (hv : valN N = true) {j : Nat} (hj : j < N.l.length) (hk : (N.l.getD j Lk.nil).k = 1) : AxOut N (N.l.getD j Lk.nil).a ∧ AxOut N (N.l.getD j Lk.nil).b := by
  obtain ⟨h1, h2, _, _⟩ := fitsN_yes (link_fits hv hj)
  exact ⟨⟨h1, j, find_src hv h1 hj (srcB_ax hk).1, hk⟩, ⟨h2, j, find_src hv h2 hj (srcB_ax hk).2, hk⟩⟩
theorem srcL_at {N : Nt} {x : Int} {k : Nat} (h : N.l.findIdx? (srcB x) = some k) : srcL N x = N.l.getD k Lk.nil := by unfold srcL; rw [h]
theorem src_ab {x : Int} {l : Lk} (hk : l.k = 1) (h : srcB x l = true) : x = l.a ∨ x = l.b := by
  unfold srcB at h
  simp [hk] at h
  rcases h with e | e
  · exact .inl e.symm
  · exact .inr e.symm
theorem par_out {N : Nt} (hv : valN N = true) {x : Int} (h : AxOut N x) : AxOut N (parN N x) := by
  obtain ⟨_, k, hs, hk⟩ := h
  obtain ⟨hkl, hp⟩ := src_find hs
  obtain ⟨oa, ob⟩ := ax_out hv hkl hk
  unfold parN
  rw [srcL_at hs]
  rcases src_ab hk hp with e | e
  · rw [e, show (N.l.getD k Lk.nil).a + (N.l.getD k Lk.nil).b - (N.l.getD k Lk.nil).a = (N.l.getD k Lk.nil).b by omega]; exact ob
  · rw [e, show (N.l.getD k Lk.nil).a + (N.l.getD k Lk.nil).b - (N.l.getD k Lk.nil).b = (N.l.getD k Lk.nil).a by omega]; exact oa
theorem idL_lt {N : Nt} (hv : valN N = true) (hn : NoCut N) {y : Int} (h : AxOut N y) : idL N y < (lwN N).length := List.idxOf_lt_length_iff.2 (out_mem hv hn h)
theorem idL_at {N : Nt} {y : Int} (h : idL N y < (lwN N).length) : (lwN N).getD (idL N y) 0 = y := by
  rw [getD_ix h]; exact List.getElem_idxOf h
theorem idL_is {N : Nt} (hv : valN N = true) (hn : NoCut N) {i : Nat} (hi : i < (lwN N).length) : idL N ((lwN N).getD i 0) = i := by
  have hd := lwN_nodup hv hn
  rw [getD_ix hi]
  exact hd.idxOf_getElem i hi
theorem leaf_out {N : Nt} (hv : valN N = true) {i : Nat} (hi : i < (lwN N).length) : AxOut N ((lwN N).getD i 0) := lwN_out hv (getL_mem hi)
theorem maU_zero (N : Nt) : maU N 0 = [] := rfl
theorem maU_succ {N : Nt} {i : Nat} (h : i < (lwN N).length) : maU N (i + 1) = maU N i ++ [(idL N (parN N ((lwN N).getD i 0)) : Int)] := by
  unfold maU
  rw [takeL_succ (d := 0) h, List.map_append]; rfl
theorem maU_len {N : Nt} {i : Nat} (h : i ≤ (lwN N).length) : (maU N i).length = i := by
  unfold maU
  rw [List.length_map, List.length_take]; omega
/-- What the model has appended behind m rounds of its inner loop. -/
def maI (N : Nt) (i m : Nat) : List Int := maU N i ++ if idL N (parN N ((lwN N).getD i 0)) < m then [(idL N (parN N ((lwN N).getD i 0)) : Int)] else []
theorem maI_zero (N : Nt) (i : Nat) : maI N i 0 = maU N i := by unfold maI; rw [if_neg (by omega), List.append_nil]
theorem maI_all {N : Nt} (hv : valN N = true) (hn : NoCut N) {i : Nat} (hi : i < (lwN N).length) : maI N i (lwN N).length = maU N (i + 1) := by
  unfold maI
  rw [if_pos (idL_lt hv hn (par_out hv (leaf_out hv hi))), maU_succ hi]
theorem maI_yes {N : Nt} (hv : valN N = true) (hn : NoCut N) {i m : Nat} (hm : m < (lwN N).length) (he : (lwN N).getD m 0 = parN N ((lwN N).getD i 0)) : maI N i (m + 1) = maI N i m ++ [(m : Int)] := by
  have := idL_is hv hn hm
  unfold maI
  rw [← he, this, if_pos (by omega), if_neg (by omega), List.append_nil]
theorem maI_no {N : Nt} (hv : valN N = true) (hn : NoCut N) {i m : Nat} (hi : i < (lwN N).length) (he : ¬ (lwN N).getD m 0 = parN N ((lwN N).getD i 0)) : maI N i (m + 1) = maI N i m := by
  have h1 := idL_at (idL_lt hv hn (par_out hv (leaf_out hv hi)))
  have hne : ¬ idL N (parN N ((lwN N).getD i 0)) = m := fun e => he (by rw [← e]; exact h1)
  unfold maI
  by_cases h : idL N (parN N ((lwN N).getD i 0)) < m
  · rw [if_pos h, if_pos (by omega)]
  · rw [if_neg h, if_neg (by omega)]
theorem maI_len {N : Nt} {i m : Nat} (hi : i < (lwN N).length) : (maI N i m).length ≤ i + 1 := by
  unfold maI
  rw [List.length_append, maU_len (by omega)]
  split <;> simp
theorem maL_at {N : Nt} {i : Nat} (hi : i < (lwN N).length) : (maL N).getD i 0 = (idL N (parN N ((lwN N).getD i 0)) : Int) := by
  unfold maL maU
  rw [List.take_length]
  simp [List.getD, hi]
/-- What the program has laid behind k links. -/
def MaQ (N : Nt) (cur : List Int) (k : Nat) : Prop :=
  cur.length = (lwN N).length ∧ ∀ i j, i < (lwN N).length → j < k → j < N.l.length → srcB ((lwN N).getD i 0) (N.l.getD j Lk.nil) = true → cur.getD i 0 = (maL N).getD i 0
theorem MaQ.zero (N : Nt) : MaQ N (List.replicate (lwN N).length 0) 0 := ⟨by simp, fun _ _ _ h => absurd h (by omega)⟩
theorem MaQ.skip {N : Nt} (hv : valN N = true) {cur : List Int} {k : Nat} (h : MaQ N cur k) (hk : k < N.l.length) (h1 : ¬ (N.l.getD k Lk.nil).k = 1) : MaQ N cur (k + 1) :=
  ⟨h.1, fun i j hi hj hjl hs => by
    by_cases e : j = k
    · subst e
      obtain ⟨hw, k2, hs2, hk2⟩ := leaf_out hv hi
      obtain ⟨hkl, hp⟩ := src_find hs2
      have := src_once hv hw hkl hjl hp hs
      subst this
      exact absurd hk2 h1
    · exact h.2 i j hi (by omega) hjl hs⟩
theorem set_at {cur : List Int} {i : Nat} {v : Int} (h : i < cur.length) : (cur.set i v).getD i 0 = v := by simp [List.getD, h]
theorem set_ne {cur : List Int} {i j : Nat} {v : Int} (h : ¬ i = j) : (cur.set i v).getD j 0 = cur.getD j 0 := by simp only [List.getD]; rw [List.getElem?_set_ne h]
theorem MaQ.step {N : Nt} (hv : valN N = true) (hn : NoCut N) {cur : List Int} {k : Nat} (h : MaQ N cur k) (hk : k < N.l.length) (h1 : (N.l.getD k Lk.nil).k = 1) :
    MaQ N ((cur.set (idL N (N.l.getD k Lk.nil).a) (idL N (N.l.getD k Lk.nil).b)).set (idL N (N.l.getD k Lk.nil).b) (idL N (N.l.getD k Lk.nil).a)) (k + 1) := by
  obtain ⟨oa, ob⟩ := ax_out hv hk h1
  have la := idL_lt hv hn oa
  have lb := idL_lt hv hn ob
  have ga := idL_at la
  have gb := idL_at lb
  have hab := ax_two hv hk h1
  have hne : ¬ idL N (N.l.getD k Lk.nil).a = idL N (N.l.getD k Lk.nil).b := fun e => hab (by rw [← ga, e, gb])
  obtain ⟨sa, sb⟩ := srcB_ax h1
  have fa := find_src hv oa.1 hk sa
  have fb := find_src hv ob.1 hk sb
  have pa : parN N (N.l.getD k Lk.nil).a = (N.l.getD k Lk.nil).b := by unfold parN; rw [srcL_at fa]; omega
  have pb : parN N (N.l.getD k Lk.nil).b = (N.l.getD k Lk.nil).a := by unfold parN; rw [srcL_at fb]; omega
  refine ⟨by simp [h.1], fun i j hi hj hjl hs => ?_⟩
  by_cases ea : i = idL N (N.l.getD k Lk.nil).a
  · subst ea
    rw [set_ne (fun e => hne e.symm), set_at (by rw [h.1]; exact la), maL_at la, ga, pa]
  · by_cases eb : i = idL N (N.l.getD k Lk.nil).b
    · subst eb
      rw [set_at (by rw [List.length_set, h.1]; exact lb), maL_at lb, gb, pb]
    · rw [set_ne (fun e => eb e.symm), set_ne (fun e => ea e.symm)]
      by_cases e : j = k
      · subst e
        exfalso
        have hi2 := idL_is hv hn hi
        rcases src_ab h1 hs with q | q
        · rw [q] at hi2; exact ea hi2.symm
        · rw [q] at hi2; exact eb hi2.symm
      · exact h.2 i j hi (by omega) hjl hs
theorem MaQ.all {N : Nt} (hv : valN N = true) {cur : List Int} (h : MaQ N cur N.l.length) : cur = maL N := by
  have hl : (maL N).length = (lwN N).length := maU_len (Nat.le_refl _)
  refine List.ext_getElem (by rw [h.1, hl]) fun i h1 h2 => ?_
  have hi : i < (lwN N).length := by rw [← h.1]; exact h1
  obtain ⟨hw, k, hs, hk⟩ := leaf_out hv hi
  obtain ⟨hkl, hp⟩ := src_find hs
  have := h.2 i k hi hkl hkl hp
  rw [getD_ix h1, getD_ix h2] at this
  exact this
end Go.Proofs.YtfanapddopafiaaDoor
