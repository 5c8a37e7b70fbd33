/- The program's linked list: contract. -/
import Derived.Test.YtlcapifgpcimpaaDoorChA
import Derived.Deep.RegionHeldLaw
import Derived.Deep.DeepCutAuto
import Derived.BigQuiet
import Derived.Deep.LoopGhost
namespace Go.Proofs.YtlcapifgpcimpaaDoor
set_option linter.unusedSimpArgs false
set_option linter.unusedVariables false
open Go.ChangeAt Go.ChangeShapes Go.RowKit Go.WideShapes

/-- What contract holds on its way: K's nodes are done, R's are to come; b holds the two ends. -/
structure CtS (w wr : World) (base c b : Nat) (nd : Int) (t : Nd) (K R : List Nd) : Prop where
  ch : ChG wr base c nd (ctN t K ++ R)
  box : wr.heap[b]? = some (.cells #[.int .i64 (loE t.e), .int .i64 (hiE t.e)] 144 (0, 0))
  far : ∀ n ∈ ctN t K ++ R, n.x ≠ b
  farC : c ≠ b
  bel : Below base w wr
  tk : wr.heap[t.x]? = w.heap[t.x]?
  pa : ∀ m, t.q = some m → wr.heap[m]? = w.heap[m]?
section
variable {w wr w' : World} {base c b : Nat} {nd : Int} {t n : Nd} {K R : List Nd}
theorem CtS.below (h : CtS w wr base c b nd t K R) (hb : Below wr.heap.size wr w') (hbs : base ≤ wr.heap.size) (ht : t.x < wr.heap.size) (hp : ∀ m, t.q = some m → m < wr.heap.size) : CtS w w' base c b nd t K R :=
  ⟨h.ch.below hb, (hb.block b (Array.getElem?_eq_some_iff.1 h.box).1).trans h.box, h.far, h.farC, h.bel.trans (hb.mono hbs), (hb.block _ ht).trans h.tk, fun m hm => (hb.block _ (hp m hm)).trans (h.pa m hm)⟩
theorem CtS.place (h : CtS w wr base c b nd t K R) (htc : t.x ≠ c) (hpc : ∀ m, t.q = some m → m ≠ c) : base ≤ (plcN c (ctN t K)).block ∧ (plcN c (ctN t K)).block ≠ b ∧ (plcN c (ctN t K)).block ≠ t.x ∧ ∀ m, t.q = some m → (plcN c (ctN t K)).block ≠ m := by
  rcases plcN_block c (ctN t K) with e | ⟨l, hl, e⟩
  · rw [e]
    exact ⟨h.ch.loC, h.farC, fun e2 => htc e2.symm, fun m hm e2 => hpc m hm e2.symm⟩
  · rw [e]
    obtain ⟨m, hm, hk, rfl⟩ := mem_ctN.1 hl
    rw [kpN_iff] at hk
    refine ⟨h.ch.lo _ (List.mem_append_left _ hl), h.far _ (List.mem_append_left _ hl), hk.1, fun m2 hm2 e2 => ?_⟩
    exact hk.2 (by rw [hm2, ← e2])
theorem CtS.cut (h : CtS w wr base c b nd t K (n :: R)) (htc : t.x ≠ c) (hpc : ∀ m, t.q = some m → m ≠ c) (hk : kpN t n = false) : CtS w (wr.setCell (plcN c (ctN t K)) (ptE (hdN R none))) base c b nd t (K ++ [n]) R := by
  obtain ⟨p0, p1, p2, p3⟩ := h.place htc hpc
  have e : ctN t (K ++ [n]) = ctN t K := by rw [ctN_app, ctN_no hk, List.append_nil]
  refine ⟨by rw [e]; exact h.ch.unlink, (heap_setCell_other _ _ _ _ (Ne.symm p1)).trans h.box, ?_, h.farC, h.bel.setCell p0 _, (heap_setCell_other _ _ _ _ (Ne.symm p2)).trans h.tk, fun m hm => (heap_setCell_other _ _ _ _ (Ne.symm (p3 m hm))).trans (h.pa m hm)⟩
  rw [e]
  intro m hm
  rcases List.mem_append.1 hm with hm | hm
  · exact h.far m (List.mem_append_left _ hm)
  · exact h.far m (by simp [hm])
theorem CtS.keep (h : CtS w wr base c b nd t K (n :: R)) (hk : kpN t n = true) : CtS w ((wr.setCell ⟨n.x, 0, none⟩ (.int .i64 (rnD t.e n.e).a)).setCell ⟨n.x, 1, none⟩ (.int .i64 (rnD t.e n.e).b)) base c b nd t (K ++ [n]) R := by
  have e : ctN t (K ++ [n]) ++ R = ctN t K ++ ⟨n.x, rnD t.e n.e, n.q⟩ :: R := by rw [ctN_app, ctN_yes hk, List.append_assoc]; rfl
  have hk2 := kpN_iff.1 hk
  have hnb : n.x ≠ b := h.far n (by simp)
  have hlo : base ≤ n.x := h.ch.lo n (by simp)
  have hoth : ∀ k, k ≠ n.x → ((wr.setCell ⟨n.x, 0, none⟩ (.int .i64 (rnD t.e n.e).a)).setCell ⟨n.x, 1, none⟩ (.int .i64 (rnD t.e n.e).b)).heap[k]? = wr.heap[k]? := fun k hk => by
    rw [heap_setCell_other _ _ _ _ (by show k ≠ n.x; exact hk), heap_setCell_other _ _ _ _ (by show k ≠ n.x; exact hk)]
  refine ⟨by rw [e]; exact h.ch.renum _ _, (hoth b hnb.symm).trans h.box, ?_, h.farC, (h.bel.setCell (p := ⟨n.x, 0, none⟩) hlo _).setCell (p := ⟨n.x, 1, none⟩) hlo _, (hoth _ (Ne.symm hk2.1)).trans h.tk, fun m hm => (hoth _ (fun e2 => hk2.2 (by rw [hm, e2]))).trans (h.pa m hm)⟩
  rw [e]
  intro m hm
  rcases List.mem_append.1 hm with hm | hm
  · exact h.far m (List.mem_append_left _ hm)
  · rcases List.mem_cons.1 hm with rfl | hm
    · exact hnb
    · exact h.far m (by simp [hm])
end
theorem ptE_form (o : Option Nat) : ∃ q : Option Addr, ptE o = .pointer q := by cases o <;> exact ⟨_, rfl⟩
set_option maxRecDepth 100000 in
set_option maxHeartbeats 1000000 in
theorem contract_any {base c : Nat} {nd : Int} {ns : List Nd} (w : World) (h : ChG w base c nd ns) (P : PdN ns) (t : Nd) (ht : t ∈ ns) (hn0 : 0 ≤ nd) (hn1 : nd ≤ 1000) (hin : ∀ n ∈ ns, (0 ≤ n.e.a ∧ n.e.a ≤ 1000) ∧ 0 ≤ n.e.b ∧ n.e.b ≤ 1000) :
    Calls Tryd.prog 107 #[.pointer (some ⟨c, 0, none⟩), .pointer (some ⟨t.x, 0, none⟩)] w fun e w' => e = .returned (.tuple #[]) ∧ ChG w' base c (nd - 1) (ctN t ns) ∧ Below base w w' := by
  obtain ⟨u, hu⟩ := h.mem ht
  have htx := hu.lt
  have htc := h.ne t ht
  have hpm : ∀ m, t.q = some m → ∃ l ∈ ns, l.x = m := fun m hm => part_mem P ht hm
  have hpc : ∀ m, t.q = some m → m ≠ c := fun m hm e => by
    obtain ⟨l, hl, e2⟩ := hpm m hm
    exact h.ne l hl (e2.trans e)
  have hpl : ∀ m, t.q = some m → m < w.heap.size := fun m hm => by
    obtain ⟨l, hl, rfl⟩ := hpm m hm
    exact h.lt l hl
  have hbs : base ≤ w.heap.size := Nat.le_of_lt (Nat.lt_of_le_of_lt h.loC h.ltC)
  have HENDS := Lib.hid (ends_any t u w hu)
  have HT := Lib.hid hu
  have hcl := h.ltC
  -- what is known at the loop's start, for every world behind the call of ends
  have HS : Hid (∀ w1, Below w.heap.size w w1 → CtS w (w1.alloc (.cells #[.int .i64 (loE t.e), .int .i64 (hiE t.e)] 144)) base c w1.heap.size nd t [] ns) := Lib.hid fun w1 hb1 => by
    have hb2 : Below w1.heap.size w1 (w1.alloc (.cells #[.int .i64 (loE t.e), .int .i64 (hiE t.e)] 144)) := (Below.refl _ _).alloc (Nat.le_refl _) _
    have hs1 := hb1.size
    have hB := hb1.trans (hb2.mono hs1)
    refine ⟨by rw [ctN_nil, List.nil_append]; exact h.below hB, heap_alloc_new _ _, fun n hn => ?_, by omega, hB.mono hbs, hB.block _ htx, fun m hm => hB.block _ (hpl m hm)⟩
    have := h.lt n (by simpa [ctN_nil] using hn)
    omega
  have HPC := Lib.hid hpc; have HTC := Lib.hid htc; have HPL := Lib.hid hpl; have HIN := Lib.hid hin
  have HPM : Hid (∀ m, t.q = some m → ∃ l u, l.x = m ∧ NdAt w l u) := Lib.hid fun m hm => by
    obtain ⟨l, hl, e⟩ := hpm m hm
    obtain ⟨u2, hu2⟩ := h.mem hl
    exact ⟨l, u2, e, hu2⟩
  have hE1 := eqlP1; have hE0 := eqlP0; have hN1 := neqP1; have hN0 := neqP0; have hES := eqlPS
  clear h P ht hu hpm hpc hpl htc hin
  go_enter Tryd.func107, Tryd.ntmps107
  go_wp2_with (fail)
  refine HENDS.out.mono ?_
  rintro e w1 ⟨rfl, bel1⟩
  have HS1 := Lib.hid (HS.out w1 bel1)
  have hs1 := bel1.size
  clear bel1 HS HENDS
  obtain ⟨w2, hw2⟩ : ∃ w2, w2 = w1.alloc (.cells #[.int .i64 (loE t.e), .int .i64 (hiE t.e)] 144) := ⟨_, rfl⟩
  rw [← hw2] at HS1
  have hs2 : w.heap.size ≤ w2.heap.size := by rw [hw2]; simp; omega
  have HNA := Lib.hid (fun (x : Int) (wx : World) h0 h1 => nodeAfter_any t.e x wx h0 h1)
  have HS2 := Lib.hid hs2
  clear hs1 hs2
  go_wp2_with (fail)
  rw [← hw2]
  obtain ⟨B, hB⟩ : ∃ B, w1.heap.size = B := ⟨_, rfl⟩
  rw [hB] at HS1 ⊢
  clear hw2 hB
  go_loopg [5] ns.length (fun k pv wr => ∃ K R, Hid (ns = K ++ R ∧ R.length = k) ∧ pv = .pointer (some (plcN c (ctN t K))) ∧ CtS w wr base c B nd t K R ∧ w.heap.size ≤ wr.heap.size)
  case atStart => exact ⟨[], ns, Lib.hid ⟨rfl, rfl⟩, rfl, HS1.out, HS2.out⟩
  case round =>
    obtain ⟨K, R, hKR, rfl, hC, hsz⟩ := hrel
    clear HS1 HS2
    obtain ⟨p0, p1⟩ := hC.ch.place
    have HC := Lib.hid hC
    have HSZ := Lib.hid hsz
    clear hC hsz
    obtain ⟨pl, hpl⟩ : ∃ pl, plcN c (ctN t K) = pl := ⟨_, rfl⟩
    have HPL2 := Lib.hid hpl
    rw [hpl] at p0 p1 ⊢
    clear hpl
    cases R with
    | nil =>
      simp only [hdN, ptE] at p0
      have hch := HC.out.ch
      rw [List.append_nil] at hch
      have e0 := hch.cells.1
      have f0 := hch.frozenC 0
      have HE : Hid (ChG (wr.setCell ⟨c, 0, none⟩ (.int .i64 (nd - 1))) base c (nd - 1) (ctN t ns) ∧ Below base w (wr.setCell ⟨c, 0, none⟩ (.int .i64 (nd - 1)))) := Lib.hid ⟨by
        have hk := hKR.out.1
        rw [List.append_nil] at hk
        subst hk
        exact hch.less (nd - 1), HC.out.bel.setCell (p := ⟨c, 0, none⟩) hch.loC _⟩
      have hwr : IntKind.i64.wrap (nd - 1) = nd - 1 := IntWalk.i64_in _ (by omega)
      clear hch
      go_wp2
      refine bodyPost_end (results_none rfl _ _ _) rfl ?_
      exact ⟨rfl, HE.out.1, HE.out.2⟩
    | cons n R' =>
      simp only [hdN, ptE] at p0
      have hnat := HC.out.ch.at
      obtain ⟨c0, c1, c2, c3, c4⟩ := hnat.cells
      have htat : NdAt wr t u := HC.out.tk.trans HT.out
      have t3 := htat.cells.2.2.2.1
      obtain ⟨hk1, hk2⟩ := hKR.out
      have hnin := HIN.out n (by rw [hk1]; simp)
      have HNX : Hid (ns = (K ++ [n]) ++ R' ∧ R'.length < gk) := Lib.hid ⟨by rw [hk1]; simp, by rw [← hk2]; simp⟩
      have HCUT := Lib.hid (fun e => HC.out.cut HTC.out HPC.out e)
      have HKEEP := Lib.hid (fun e => HC.out.keep e)
      rw [HPL2.out] at HCUT
      have HEC : Hid (kpN t n = false → ctN t (K ++ [n]) = ctN t K) := Lib.hid fun e => by rw [ctN_app, ctN_no e, List.append_nil]
      have HPK : Hid (kpN t n = true → plcN c (ctN t (K ++ [n])) = ⟨n.x, 4, none⟩) := Lib.hid fun e => by rw [ctN_app, ctN_yes e, plcN_app]
      clear hk1 hk2 hKR
      have HNA2 := Lib.hid (hnat)
      by_cases hx : n.x = t.x
      · have hkp : kpN t n = false := by unfold kpN; simp [hx]
        have HC2 := Lib.hid (HCUT.out hkp)
        have HP2 : Hid (pl = plcN c (ctN t (K ++ [n]))) := Lib.hid (by rw [HEC.out hkp, HPL2.out])
        have hs2 : Hid (w.heap.size ≤ (wr.setCell pl (ptE (hdN R' none))).heap.size) := Lib.hid (by simpa using HSZ.out)
        have heq := hES ⟨t.x, 0, none⟩
        rw [hx] at p0 c4
        clear hkp hnat htat hnin
        obtain ⟨tv, htv⟩ := ptE_form (hdN R' none)
        rw [htv] at c4 HC2 hs2
        clear htv
        go_wp2
        go_roundg R'.length
        case measure => exact HNX.out.2
        case rel => exact ⟨K ++ [n], R', Lib.hid ⟨HNX.out.1, rfl⟩, by rw [HP2.out], HC2.out, hs2.out⟩
      · have hES2 := Lib.hid (eqlPO wr hnat htat hx)
        have heq := hES2.out
        by_cases hpa : some n.x = t.q
        · -- the partner: taken out too
          have hkp : kpN t n = false := by unfold kpN; simp [hpa]
          have HC2 := Lib.hid (HCUT.out hkp)
          have HP2 : Hid (pl = plcN c (ctN t (K ++ [n]))) := Lib.hid (by rw [HEC.out hkp, HPL2.out])
          have hs2 : Hid (w.heap.size ≤ (wr.setCell pl (ptE (hdN R' none))).heap.size) := Lib.hid (by simpa using HSZ.out)
          have heq2 := hES ⟨n.x, 0, none⟩
          rw [← hpa] at t3
          simp only [ptE] at t3
          clear hkp hnat htat hnin hpa
          obtain ⟨tv, htv⟩ := ptE_form (hdN R' none)
          rw [htv] at c4 HC2 hs2
          clear htv
          go_wp2
          go_roundg R'.length
          case measure => exact HNX.out.2
          case rel => exact ⟨K ++ [n], R', Lib.hid ⟨HNX.out.1, rfl⟩, by rw [HP2.out], HC2.out, hs2.out⟩
        · have hkp : kpN t n = true := kpN_iff.2 ⟨hx, hpa⟩
          have HC2 := Lib.hid (HKEEP.out hkp)
          have HP2 : Hid (plcN c (ctN t (K ++ [n])) = ⟨n.x, 4, none⟩) := Lib.hid (HPK.out hkp)
          obtain ⟨q, hq, heq2⟩ : ∃ q : Option Addr, ptE t.q = .pointer q ∧ (binOp .eql 125 (.pointer (some ⟨n.x, 0, none⟩)) (.pointer q)).run Tryd.prog wr = .ok (.bool false) wr := by
            cases hq : t.q with
            | none => exact ⟨none, rfl, eqlP1 _ _⟩
            | some m =>
              obtain ⟨l, u2, rfl, hl⟩ := HPM.out m hq
              exact ⟨some ⟨l.x, 0, none⟩, rfl, eqlPO wr hnat ((HC.out.pa _ hq).trans hl) (fun e => hpa (by rw [hq, e]))⟩
          rw [hq] at t3
          -- what holds behind any calls: the cells at hand, and the state behind the stores
          have HF : Hid (∀ w', Below wr.heap.size wr w' → (w'.cell? ⟨n.x, 0, none⟩ = some (.int .i64 n.e.a) ∧ w'.cell? ⟨n.x, 1, none⟩ = some (.int .i64 n.e.b)) ∧ (w'.cell? ⟨B, 0, none⟩ = some (.int .i64 (loE t.e)) ∧ w'.cell? ⟨B, 1, none⟩ = some (.int .i64 (hiE t.e))) ∧ (w'.frozen? ⟨n.x, 0, none⟩ = false ∧ w'.frozen? ⟨n.x, 1, none⟩ = false) ∧ w'.cell? ⟨n.x, 4, none⟩ = some (ptE (hdN R' none)) ∧
              ((w'.setCell ⟨n.x, 0, none⟩ (.int .i64 (rnE (loE t.e) (hiE t.e) n.e.a))).cell? ⟨n.x, 1, none⟩ = some (.int .i64 n.e.b) ∧ (w'.setCell ⟨n.x, 0, none⟩ (.int .i64 (rnE (loE t.e) (hiE t.e) n.e.a))).frozen? ⟨n.x, 1, none⟩ = false) ∧
              ((w'.setCell ⟨n.x, 0, none⟩ (.int .i64 (rnE (loE t.e) (hiE t.e) n.e.a))).cell? ⟨B, 0, none⟩ = some (.int .i64 (loE t.e)) ∧ (w'.setCell ⟨n.x, 0, none⟩ (.int .i64 (rnE (loE t.e) (hiE t.e) n.e.a))).cell? ⟨B, 1, none⟩ = some (.int .i64 (hiE t.e))) ∧
              (((w'.setCell ⟨n.x, 0, none⟩ (.int .i64 (rnE (loE t.e) (hiE t.e) n.e.a))).setCell ⟨n.x, 1, none⟩ (.int .i64 (rnE (loE t.e) (hiE t.e) n.e.b))).cell? ⟨B, 0, none⟩ = some (.int .i64 (loE t.e)) ∧ ((w'.setCell ⟨n.x, 0, none⟩ (.int .i64 (rnE (loE t.e) (hiE t.e) n.e.a))).setCell ⟨n.x, 1, none⟩ (.int .i64 (rnE (loE t.e) (hiE t.e) n.e.b))).cell? ⟨B, 1, none⟩ = some (.int .i64 (hiE t.e))) ∧
              CtS w ((w'.setCell ⟨n.x, 0, none⟩ (.int .i64 (rnE (loE t.e) (hiE t.e) n.e.a))).setCell ⟨n.x, 1, none⟩ (.int .i64 (rnE (loE t.e) (hiE t.e) n.e.b))) base c B nd t (K ++ [n]) R' ∧ w.heap.size ≤ ((w'.setCell ⟨n.x, 0, none⟩ (.int .i64 (rnE (loE t.e) (hiE t.e) n.e.a))).setCell ⟨n.x, 1, none⟩ (.int .i64 (rnE (loE t.e) (hiE t.e) n.e.b))).heap.size) := Lib.hid fun w' hw' => by
            have hs := HSZ.out
            have hC' := HC.out.below hw' (by omega) (by omega) (fun m hm => by have := HPL.out m hm; omega)
            have hn' := hC'.ch.at
            have hnB : B ≠ n.x := (hC'.far n (by simp)).symm
            have hs1 : NdAt (w'.setCell ⟨n.x, 0, none⟩ (.int .i64 (rnE (loE t.e) (hiE t.e) n.e.a))) ⟨n.x, ⟨rnE (loE t.e) (hiE t.e) n.e.a, n.e.b, n.e.p⟩, n.q⟩ (hdN R' none) := by
              have := heap_setCell_same w' n.x 0 _ _ (.int .i64 (rnE (loE t.e) (hiE t.e) n.e.a)) hn'
              unfold NdAt; simpa [ndC] using this
            have hb1 := (heap_setCell_other w' ⟨n.x, 0, none⟩ B (.int .i64 (rnE (loE t.e) (hiE t.e) n.e.a)) hnB).trans hC'.box
            have hb2 := (heap_setCell_other (w'.setCell ⟨n.x, 0, none⟩ (.int .i64 (rnE (loE t.e) (hiE t.e) n.e.a))) ⟨n.x, 1, none⟩ B (.int .i64 (rnE (loE t.e) (hiE t.e) n.e.b)) hnB).trans hb1
            exact ⟨⟨hn'.cells.1, hn'.cells.2.1⟩, twE_cells hC'.box, ⟨hn'.frozen 0, hn'.frozen 1⟩, hn'.cells.2.2.2.2, ⟨hs1.cells.2.1, hs1.frozen 1⟩, twE_cells hb1, twE_cells hb2, hC'.keep hkp, by have := hw'.size; simp; omega⟩
          have HNI := Lib.hid hnin
          have hza := hnin.1; have hzb := hnin.2
          clear hkp hnat htat hnin hpa hq HNA2
          have HNa := Lib.hid (fun wx => HNA.out n.e.a wx hza.1 hza.2); have HNb := Lib.hid (fun wx => HNA.out n.e.b wx hzb.1 hzb.2)
          clear hza hzb
          generalize rnE (loE t.e) (hiE t.e) n.e.a = ra at HF HNa
          generalize rnE (loE t.e) (hiE t.e) n.e.b = rb at HF HNb
          generalize n.e.a = ea at HF HNa
          generalize n.e.b = eb at HF HNb
          generalize hlo : loE t.e = lo at HF HNa HNb ⊢
          generalize hhi : hiE t.e = hi at HF HNa HNb ⊢
          have HLO := Lib.hid hlo; have HHI := Lib.hid hhi
          clear hlo hhi
          clear c0 c1
          have HSX : Hid (∀ wx : World, Below wr.heap.size wr wx → wx.cell? ⟨B, 0, none⟩ = some (.int .i64 lo) ∧ wx.cell? ⟨B, 1, none⟩ = some (.int .i64 hi)) := Lib.hid fun wx hx => (HF.out wx hx).2.1
          have FB_0 := Lib.hid (Below.refl wr.heap.size wr)
          go_upto_region 6 with (fail)
          clear c2 c3 c4 t3 p0 p1 hcl htx hbs hn0 hn1 heq heq2 hE0 hE1 hN0 hN1 hES hx
          go_cut [] (fun wx => CtS w wx base c B nd t (K ++ [n]) R' ∧ w.heap.size ≤ wx.heap.size)
          case first =>
            refine wp_region_held_drew (S := fun wx => wx.cell? ⟨B, 0, none⟩ = some (.int .i64 lo) ∧ wx.cell? ⟨B, 1, none⟩ = some (.int .i64 hi)) (by kernel_rfl) (HSX.out _ (Below.refl _ _).drew) (fun hHeld => ?_)
            obtain ⟨wq1, hwq1⟩ : ∃ w', w' = wr.drew := ⟨_, rfl⟩
            rw [← hwq1] at hHeld ⊢
            have bq1 : Below wr.heap.size wr wq1 := by rw [hwq1]; exact (Below.refl _ _).drew
            clear hwq1
            have FB_q2 := Lib.hid ((FB_0.out).trans ((bq1).mono (FB_0.out).size))
            clear FB_0
            refine wpAnyH_take (i := 0) (v := ?vq3) rfl (by kernel_rfl) (by kernel_rfl) (by kernel_rfl) (fun _ _ _ h => h) (Or.inl ⟨by rfl, ?yq3⟩) (by assumption) ?_
            case yq3 => (intro w hSw; (try dsimp only at hSw); go_simp; all_goals (with_reducible rfl))
            (try simp only [Act.put, List.setIfInBounds_toArray, List.set_cons_zero, List.set_cons_succ, List.getElem_toArray, List.getElem_cons_succ, List.getElem_cons_zero])
            refine wpAnyH_take (i := 1) (v := ?vq4) rfl (by kernel_rfl) (by kernel_rfl) (by kernel_rfl) (fun _ _ _ h => h) (Or.inl ⟨by rfl, ?yq4⟩) (by assumption) ?_
            case yq4 => (intro w hSw; (try dsimp only at hSw); go_simp; all_goals (with_reducible rfl))
            (try simp only [Act.put, List.setIfInBounds_toArray, List.set_cons_zero, List.set_cons_succ, List.getElem_toArray, List.getElem_cons_succ, List.getElem_cons_zero])
            refine wpAnyH_take (i := 2) (v := ?vq5) rfl (by kernel_rfl) (by kernel_rfl) (by kernel_rfl) (fun _ _ _ h => h) (Or.inl ⟨by rfl, ?yq5⟩) (by assumption) ?_
            case yq5 => (intro w hSw; (try dsimp only at hSw); go_simp; all_goals (with_reducible rfl))
            (try simp only [Act.put, List.setIfInBounds_toArray, List.set_cons_zero, List.set_cons_succ, List.getElem_toArray, List.getElem_cons_succ, List.getElem_cons_zero])
            refine wpAnyH_take (i := 7) (v := ?vq6) rfl (by kernel_rfl) (by kernel_rfl) (by kernel_rfl) (fun _ _ _ h => h) (Or.inl ⟨by rfl, ?yq6⟩) (by assumption) ?_
            case yq6 => (intro w hSw; (try dsimp only at hSw); go_simp; all_goals (with_reducible rfl))
            (try simp only [Act.put, List.setIfInBounds_toArray, List.set_cons_zero, List.set_cons_succ, List.getElem_toArray, List.getElem_cons_succ, List.getElem_cons_zero])
            refine wpAnyH_take (i := 9) (v := ?vq7) rfl (by kernel_rfl) (by kernel_rfl) (by kernel_rfl) (fun _ _ _ h => h) (Or.inl ⟨by rfl, ?yq7⟩) (by assumption) ?_
            case yq7 => (intro w hSw; (try dsimp only at hSw); go_simp; all_goals (with_reducible rfl))
            (try simp only [Act.put, List.setIfInBounds_toArray, List.set_cons_zero, List.set_cons_succ, List.getElem_toArray, List.getElem_cons_succ, List.getElem_cons_zero])
            refine wpAnyH_take (i := 14) (v := ?vq8) rfl (by kernel_rfl) (by kernel_rfl) (by kernel_rfl) (fun _ _ _ h => h) (Or.inl ⟨by rfl, ?yq8⟩) (by assumption) ?_
            case yq8 => (intro w hSw; (try dsimp only at hSw); go_simp; all_goals (with_reducible rfl))
            (try simp only [Act.put, List.setIfInBounds_toArray, List.set_cons_zero, List.set_cons_succ, List.getElem_toArray, List.getElem_cons_succ, List.getElem_cons_zero])
            refine wpAnyH_take (i := 3) (v := ?vq9) rfl (by kernel_rfl) (by kernel_rfl) (by kernel_rfl) (fun _ _ _ h => h) (Or.inl ⟨by rfl, ?yq9⟩) (by assumption) ?_
            case yq9 => (intro w hSw; (try dsimp only at hSw); go_simp; all_goals (with_reducible rfl))
            (try simp only [Act.put, List.setIfInBounds_toArray, List.set_cons_zero, List.set_cons_succ, List.getElem_toArray, List.getElem_cons_succ, List.getElem_cons_zero])
            refine wpAnyH_take (i := 10) (v := ?vq10) rfl (by kernel_rfl) (by kernel_rfl) (by kernel_rfl) (fun _ _ _ h => h) (Or.inl ⟨by rfl, ?yq10⟩) (by assumption) ?_
            case yq10 => (intro w hSw; (try dsimp only at hSw); go_simp; all_goals (with_reducible rfl))
            (try simp only [Act.put, List.setIfInBounds_toArray, List.set_cons_zero, List.set_cons_succ, List.getElem_toArray, List.getElem_cons_succ, List.getElem_cons_zero])
            refine wpAnyH_take (i := 4) (v := ?vq11) rfl (by kernel_rfl) (by kernel_rfl) (by kernel_rfl) (fun _ _ _ h => h) (Or.inl ⟨by rfl, ?yq11⟩) (by assumption) ?_
            case yq11 => (intro w hSw; (try dsimp only at hSw); go_simp; all_goals (with_reducible rfl))
            (try simp only [Act.put, List.setIfInBounds_toArray, List.set_cons_zero, List.set_cons_succ, List.getElem_toArray, List.getElem_cons_succ, List.getElem_cons_zero])
            refine wpAnyH_take (i := 11) (v := ?vq12) rfl (by kernel_rfl) (by kernel_rfl) (by kernel_rfl) (fun _ _ _ h => h) (Or.inl ⟨by rfl, ?yq12⟩) (by assumption) ?_
            case yq12 => (intro w hSw; (try dsimp only at hSw); go_simp; all_goals (with_reducible rfl))
            (try simp only [Act.put, List.setIfInBounds_toArray, List.set_cons_zero, List.set_cons_succ, List.getElem_toArray, List.getElem_cons_succ, List.getElem_cons_zero])
            refine wpAnyH_take (i := 5) (v := ?vq13) rfl (by kernel_rfl) (by kernel_rfl) (by kernel_rfl) (fun _ _ _ h => h) (Or.inl ⟨by rfl, ?yq13⟩) (by assumption) ?_
            case yq13 => (intro w hSw; (try dsimp only at hSw); go_simp; all_goals (with_reducible rfl))
            (try simp only [Act.put, List.setIfInBounds_toArray, List.set_cons_zero, List.set_cons_succ, List.getElem_toArray, List.getElem_cons_succ, List.getElem_cons_zero])
            refine wpAnyH_take (i := 12) (v := ?vq14) rfl (by kernel_rfl) (by kernel_rfl) (by kernel_rfl) (fun _ _ _ h => h) (Or.inl ⟨by rfl, ?yq14⟩) (by assumption) ?_
            case yq14 => (intro w hSw; (try dsimp only at hSw); go_simp; all_goals (with_reducible rfl))
            (try simp only [Act.put, List.setIfInBounds_toArray, List.set_cons_zero, List.set_cons_succ, List.getElem_toArray, List.getElem_cons_succ, List.getElem_cons_zero])
            refine wpAnyH_ready (rs := [6, 13]) (by kernel_rfl) (by simp) ?_
            refine AllReadyH.cons rfl (fun K hK => ?_) ?_
            · have hx9 := (HF.out wq1 FB_q2.out).1.1
              go_simp
              clear hx9
              refine hK.out _ _ (hHeld) (fun hHeld => ?_)
              clear hK K
              (try simp only [Act.put, List.setIfInBounds_toArray, List.set_cons_zero, List.set_cons_succ, List.getElem_toArray, List.getElem_cons_succ, List.getElem_cons_zero])
              refine wpAnyH_ready (rs := [8, 13]) (by kernel_rfl) (by simp) ?_
              refine AllReadyH.cons rfl (fun K hK => ?_) ?_
              · go_simp
                refine (HNa.out wq1).mono ?_
                rintro e wq15 ⟨rfl, belq15⟩
                dsimp only
                have FB_q16 := Lib.hid ((FB_q2.out).trans ((belq15).mono (FB_q2.out).size))
                clear FB_q2
                clear belq15
                refine hK.out _ _ (HSX.out _ FB_q16.out) (fun hHeld => ?_)
                clear hK K
                (try simp only [Act.put, List.setIfInBounds_toArray, List.set_cons_zero, List.set_cons_succ, List.getElem_toArray, List.getElem_cons_succ, List.getElem_cons_zero])
                refine wpAnyH_ready (rs := [13]) (by kernel_rfl) (by simp) ?_
                refine AllReadyH.cons rfl (fun K hK => ?_) ?_
                · have hx9 := (HF.out wq15 FB_q16.out).1.2
                  go_simp
                  clear hx9
                  refine hK.out _ _ (hHeld) (fun hHeld => ?_)
                  clear hK K
                  (try simp only [Act.put, List.setIfInBounds_toArray, List.set_cons_zero, List.set_cons_succ, List.getElem_toArray, List.getElem_cons_succ, List.getElem_cons_zero])
                  refine wpAnyH_ready (rs := [15]) (by kernel_rfl) (by simp) ?_
                  refine AllReadyH.cons rfl (fun K hK => ?_) ?_
                  · go_simp
                    refine (HNb.out wq15).mono ?_
                    rintro e wq17 ⟨rfl, belq17⟩
                    dsimp only
                    have FB_q18 := Lib.hid ((FB_q16.out).trans ((belq17).mono (FB_q16.out).size))
                    clear FB_q16
                    clear belq17
                    refine hK.out _ _ (HSX.out _ FB_q18.out) (fun hHeld => ?_)
                    clear hK K
                    (try simp only [Act.put, List.setIfInBounds_toArray, List.set_cons_zero, List.set_cons_succ, List.getElem_toArray, List.getElem_cons_succ, List.getElem_cons_zero])
                    refine wpAnyH_take (i := 16) (v := ?vq19) rfl (by kernel_rfl) (by kernel_rfl) (by kernel_rfl) (fun _ _ _ h => h) (Or.inl ⟨by rfl, ?yq19⟩) (by assumption) ?_
                    case yq19 => (intro w hSw; (try dsimp only at hSw); go_simp; all_goals (with_reducible rfl))
                    (try simp only [Act.put, List.setIfInBounds_toArray, List.set_cons_zero, List.set_cons_succ, List.getElem_toArray, List.getElem_cons_succ, List.getElem_cons_zero])
                    refine wpAnyH_take (i := 17) (v := ?vq20) rfl (by kernel_rfl) (by kernel_rfl) (by kernel_rfl) (fun _ _ _ h => h) (Or.inl ⟨by rfl, ?yq20⟩) (by assumption) ?_
                    case yq20 => (intro w hSw; (try dsimp only at hSw); go_simp; all_goals (with_reducible rfl))
                    (try simp only [Act.put, List.setIfInBounds_toArray, List.set_cons_zero, List.set_cons_succ, List.getElem_toArray, List.getElem_cons_succ, List.getElem_cons_zero])
                    refine wpAnyH_take (i := 18) (v := ?vq21) rfl (by kernel_rfl) (by kernel_rfl) (by kernel_rfl) (fun _ _ _ h => h) (Or.inl ⟨by rfl, ?yq21⟩) (by assumption) ?_
                    case yq21 => (intro w hSw; (try dsimp only at hSw); go_simp; all_goals (with_reducible rfl))
                    (try simp only [Act.put, List.setIfInBounds_toArray, List.set_cons_zero, List.set_cons_succ, List.getElem_toArray, List.getElem_cons_succ, List.getElem_cons_zero])
                    refine wpAnyH_ready (rs := [19]) (by kernel_rfl) (by simp) ?_
                    refine AllReadyH.cons rfl (fun K hK => ?_) ?_
                    · have hx9 := (HF.out wq17 FB_q18.out).1.1
                      have hf9 := (HF.out wq17 FB_q18.out).2.2.1.1
                      go_simp
                      clear hx9 hf9
                      refine hK.out _ _ ((HF.out wq17 FB_q18.out).2.2.2.2.2.1) (fun hHeld => ?_)
                      clear hK K
                      (try simp only [Act.put, List.setIfInBounds_toArray, List.set_cons_zero, List.set_cons_succ, List.getElem_toArray, List.getElem_cons_succ, List.getElem_cons_zero])
                      refine wpAnyH_take (i := 20) (v := ?vq22) rfl (by kernel_rfl) (by kernel_rfl) (by kernel_rfl) (fun _ _ _ h => h) (Or.inl ⟨by rfl, ?yq22⟩) (by assumption) ?_
                      case yq22 => (intro w hSw; (try dsimp only at hSw); go_simp; all_goals (with_reducible rfl))
                      (try simp only [Act.put, List.setIfInBounds_toArray, List.set_cons_zero, List.set_cons_succ, List.getElem_toArray, List.getElem_cons_succ, List.getElem_cons_zero])
                      refine wpAnyH_take (i := 21) (v := ?vq23) rfl (by kernel_rfl) (by kernel_rfl) (by kernel_rfl) (fun _ _ _ h => h) (Or.inl ⟨by rfl, ?yq23⟩) (by assumption) ?_
                      case yq23 => (intro w hSw; (try dsimp only at hSw); go_simp; all_goals (with_reducible rfl))
                      (try simp only [Act.put, List.setIfInBounds_toArray, List.set_cons_zero, List.set_cons_succ, List.getElem_toArray, List.getElem_cons_succ, List.getElem_cons_zero])
                      refine wpAnyH_take (i := 22) (v := ?vq24) rfl (by kernel_rfl) (by kernel_rfl) (by kernel_rfl) (fun _ _ _ h => h) (Or.inl ⟨by rfl, ?yq24⟩) (by assumption) ?_
                      case yq24 => (intro w hSw; (try dsimp only at hSw); go_simp; all_goals (with_reducible rfl))
                      (try simp only [Act.put, List.setIfInBounds_toArray, List.set_cons_zero, List.set_cons_succ, List.getElem_toArray, List.getElem_cons_succ, List.getElem_cons_zero])
                      refine wpAnyH_ready (rs := [23]) (by kernel_rfl) (by simp) ?_
                      refine AllReadyH.cons rfl (fun K hK => ?_) ?_
                      · have hx9 := (HF.out wq17 FB_q18.out).2.2.2.2.1.1
                        have hf9 := (HF.out wq17 FB_q18.out).2.2.2.2.1.2
                        go_simp
                        clear hx9 hf9
                        refine hK.out _ _ ((HF.out wq17 FB_q18.out).2.2.2.2.2.2.1) (fun hHeld => ?_)
                        clear hK K
                        (try simp only [Act.put, List.setIfInBounds_toArray, List.set_cons_zero, List.set_cons_succ, List.getElem_toArray, List.getElem_cons_succ, List.getElem_cons_zero])
                        refine wpAnyH_done (by kernel_rfl) ?_ _
                        have HC10 := Lib.hid (HF.out wq17 FB_q18.out).2.2.2.2.2.2.2.1
                        have HS10 := Lib.hid (HF.out wq17 FB_q18.out).2.2.2.2.2.2.2.2
                        (try go_wp2_with (fail))
                        go_meet
                        exact ⟨HC10.out, HS10.out⟩
                      exact AllReadyH.nil
                    exact AllReadyH.nil
                  exact AllReadyH.nil
                exact AllReadyH.nil
              refine AllReadyH.cons rfl (fun K hK => ?_) ?_
              · have hx9 := (HF.out wq1 FB_q2.out).1.2
                go_simp
                clear hx9
                refine hK.out _ _ (hHeld) (fun hHeld => ?_)
                clear hK K
                (try simp only [Act.put, List.setIfInBounds_toArray, List.set_cons_zero, List.set_cons_succ, List.getElem_toArray, List.getElem_cons_succ, List.getElem_cons_zero])
                refine wpAnyH_ready (rs := [8]) (by kernel_rfl) (by simp) ?_
                refine AllReadyH.cons rfl (fun K hK => ?_) ?_
                · go_simp
                  refine (HNa.out wq1).mono ?_
                  rintro e wq25 ⟨rfl, belq25⟩
                  dsimp only
                  have FB_q26 := Lib.hid ((FB_q2.out).trans ((belq25).mono (FB_q2.out).size))
                  clear FB_q2
                  clear belq25
                  refine hK.out _ _ (HSX.out _ FB_q26.out) (fun hHeld => ?_)
                  clear hK K
                  (try simp only [Act.put, List.setIfInBounds_toArray, List.set_cons_zero, List.set_cons_succ, List.getElem_toArray, List.getElem_cons_succ, List.getElem_cons_zero])
                  refine wpAnyH_ready (rs := [15]) (by kernel_rfl) (by simp) ?_
                  refine AllReadyH.cons rfl (fun K hK => ?_) ?_
                  · go_simp
                    refine (HNb.out wq25).mono ?_
                    rintro e wq27 ⟨rfl, belq27⟩
                    dsimp only
                    have FB_q28 := Lib.hid ((FB_q26.out).trans ((belq27).mono (FB_q26.out).size))
                    clear FB_q26
                    clear belq27
                    refine hK.out _ _ (HSX.out _ FB_q28.out) (fun hHeld => ?_)
                    clear hK K
                    (try simp only [Act.put, List.setIfInBounds_toArray, List.set_cons_zero, List.set_cons_succ, List.getElem_toArray, List.getElem_cons_succ, List.getElem_cons_zero])
                    refine wpAnyH_take (i := 16) (v := ?vq29) rfl (by kernel_rfl) (by kernel_rfl) (by kernel_rfl) (fun _ _ _ h => h) (Or.inl ⟨by rfl, ?yq29⟩) (by assumption) ?_
                    case yq29 => (intro w hSw; (try dsimp only at hSw); go_simp; all_goals (with_reducible rfl))
                    (try simp only [Act.put, List.setIfInBounds_toArray, List.set_cons_zero, List.set_cons_succ, List.getElem_toArray, List.getElem_cons_succ, List.getElem_cons_zero])
                    refine wpAnyH_take (i := 17) (v := ?vq30) rfl (by kernel_rfl) (by kernel_rfl) (by kernel_rfl) (fun _ _ _ h => h) (Or.inl ⟨by rfl, ?yq30⟩) (by assumption) ?_
                    case yq30 => (intro w hSw; (try dsimp only at hSw); go_simp; all_goals (with_reducible rfl))
                    (try simp only [Act.put, List.setIfInBounds_toArray, List.set_cons_zero, List.set_cons_succ, List.getElem_toArray, List.getElem_cons_succ, List.getElem_cons_zero])
                    refine wpAnyH_take (i := 18) (v := ?vq31) rfl (by kernel_rfl) (by kernel_rfl) (by kernel_rfl) (fun _ _ _ h => h) (Or.inl ⟨by rfl, ?yq31⟩) (by assumption) ?_
                    case yq31 => (intro w hSw; (try dsimp only at hSw); go_simp; all_goals (with_reducible rfl))
                    (try simp only [Act.put, List.setIfInBounds_toArray, List.set_cons_zero, List.set_cons_succ, List.getElem_toArray, List.getElem_cons_succ, List.getElem_cons_zero])
                    refine wpAnyH_ready (rs := [19]) (by kernel_rfl) (by simp) ?_
                    refine AllReadyH.cons rfl (fun K hK => ?_) ?_
                    · have hx9 := (HF.out wq27 FB_q28.out).1.1
                      have hf9 := (HF.out wq27 FB_q28.out).2.2.1.1
                      go_simp
                      clear hx9 hf9
                      refine hK.out _ _ ((HF.out wq27 FB_q28.out).2.2.2.2.2.1) (fun hHeld => ?_)
                      clear hK K
                      (try simp only [Act.put, List.setIfInBounds_toArray, List.set_cons_zero, List.set_cons_succ, List.getElem_toArray, List.getElem_cons_succ, List.getElem_cons_zero])
                      refine wpAnyH_take (i := 20) (v := ?vq32) rfl (by kernel_rfl) (by kernel_rfl) (by kernel_rfl) (fun _ _ _ h => h) (Or.inl ⟨by rfl, ?yq32⟩) (by assumption) ?_
                      case yq32 => (intro w hSw; (try dsimp only at hSw); go_simp; all_goals (with_reducible rfl))
                      (try simp only [Act.put, List.setIfInBounds_toArray, List.set_cons_zero, List.set_cons_succ, List.getElem_toArray, List.getElem_cons_succ, List.getElem_cons_zero])
                      refine wpAnyH_take (i := 21) (v := ?vq33) rfl (by kernel_rfl) (by kernel_rfl) (by kernel_rfl) (fun _ _ _ h => h) (Or.inl ⟨by rfl, ?yq33⟩) (by assumption) ?_
                      case yq33 => (intro w hSw; (try dsimp only at hSw); go_simp; all_goals (with_reducible rfl))
                      (try simp only [Act.put, List.setIfInBounds_toArray, List.set_cons_zero, List.set_cons_succ, List.getElem_toArray, List.getElem_cons_succ, List.getElem_cons_zero])
                      refine wpAnyH_take (i := 22) (v := ?vq34) rfl (by kernel_rfl) (by kernel_rfl) (by kernel_rfl) (fun _ _ _ h => h) (Or.inl ⟨by rfl, ?yq34⟩) (by assumption) ?_
                      case yq34 => (intro w hSw; (try dsimp only at hSw); go_simp; all_goals (with_reducible rfl))
                      (try simp only [Act.put, List.setIfInBounds_toArray, List.set_cons_zero, List.set_cons_succ, List.getElem_toArray, List.getElem_cons_succ, List.getElem_cons_zero])
                      refine wpAnyH_ready (rs := [23]) (by kernel_rfl) (by simp) ?_
                      refine AllReadyH.cons rfl (fun K hK => ?_) ?_
                      · have hx9 := (HF.out wq27 FB_q28.out).2.2.2.2.1.1
                        have hf9 := (HF.out wq27 FB_q28.out).2.2.2.2.1.2
                        go_simp
                        clear hx9 hf9
                        refine hK.out _ _ ((HF.out wq27 FB_q28.out).2.2.2.2.2.2.1) (fun hHeld => ?_)
                        clear hK K
                        (try simp only [Act.put, List.setIfInBounds_toArray, List.set_cons_zero, List.set_cons_succ, List.getElem_toArray, List.getElem_cons_succ, List.getElem_cons_zero])
                        refine wpAnyH_done (by kernel_rfl) ?_ _
                        have HC10 := Lib.hid (HF.out wq27 FB_q28.out).2.2.2.2.2.2.2.1
                        have HS10 := Lib.hid (HF.out wq27 FB_q28.out).2.2.2.2.2.2.2.2
                        (try go_wp2_with (fail))
                        go_meet
                        exact ⟨HC10.out, HS10.out⟩
                      exact AllReadyH.nil
                    exact AllReadyH.nil
                  exact AllReadyH.nil
                exact AllReadyH.nil
              exact AllReadyH.nil
            refine AllReadyH.cons rfl (fun K hK => ?_) ?_
            · have hx9 := (HF.out wq1 FB_q2.out).1.2
              go_simp
              clear hx9
              refine hK.out _ _ (hHeld) (fun hHeld => ?_)
              clear hK K
              (try simp only [Act.put, List.setIfInBounds_toArray, List.set_cons_zero, List.set_cons_succ, List.getElem_toArray, List.getElem_cons_succ, List.getElem_cons_zero])
              refine wpAnyH_ready (rs := [6]) (by kernel_rfl) (by simp) ?_
              refine AllReadyH.cons rfl (fun K hK => ?_) ?_
              · have hx9 := (HF.out wq1 FB_q2.out).1.1
                go_simp
                clear hx9
                refine hK.out _ _ (hHeld) (fun hHeld => ?_)
                clear hK K
                (try simp only [Act.put, List.setIfInBounds_toArray, List.set_cons_zero, List.set_cons_succ, List.getElem_toArray, List.getElem_cons_succ, List.getElem_cons_zero])
                refine wpAnyH_ready (rs := [8]) (by kernel_rfl) (by simp) ?_
                refine AllReadyH.cons rfl (fun K hK => ?_) ?_
                · go_simp
                  refine (HNa.out wq1).mono ?_
                  rintro e wq35 ⟨rfl, belq35⟩
                  dsimp only
                  have FB_q36 := Lib.hid ((FB_q2.out).trans ((belq35).mono (FB_q2.out).size))
                  clear FB_q2
                  clear belq35
                  refine hK.out _ _ (HSX.out _ FB_q36.out) (fun hHeld => ?_)
                  clear hK K
                  (try simp only [Act.put, List.setIfInBounds_toArray, List.set_cons_zero, List.set_cons_succ, List.getElem_toArray, List.getElem_cons_succ, List.getElem_cons_zero])
                  refine wpAnyH_ready (rs := [15]) (by kernel_rfl) (by simp) ?_
                  refine AllReadyH.cons rfl (fun K hK => ?_) ?_
                  · go_simp
                    refine (HNb.out wq35).mono ?_
                    rintro e wq37 ⟨rfl, belq37⟩
                    dsimp only
                    have FB_q38 := Lib.hid ((FB_q36.out).trans ((belq37).mono (FB_q36.out).size))
                    clear FB_q36
                    clear belq37
                    refine hK.out _ _ (HSX.out _ FB_q38.out) (fun hHeld => ?_)
                    clear hK K
                    (try simp only [Act.put, List.setIfInBounds_toArray, List.set_cons_zero, List.set_cons_succ, List.getElem_toArray, List.getElem_cons_succ, List.getElem_cons_zero])
                    refine wpAnyH_take (i := 16) (v := ?vq39) rfl (by kernel_rfl) (by kernel_rfl) (by kernel_rfl) (fun _ _ _ h => h) (Or.inl ⟨by rfl, ?yq39⟩) (by assumption) ?_
                    case yq39 => (intro w hSw; (try dsimp only at hSw); go_simp; all_goals (with_reducible rfl))
                    (try simp only [Act.put, List.setIfInBounds_toArray, List.set_cons_zero, List.set_cons_succ, List.getElem_toArray, List.getElem_cons_succ, List.getElem_cons_zero])
                    refine wpAnyH_take (i := 17) (v := ?vq40) rfl (by kernel_rfl) (by kernel_rfl) (by kernel_rfl) (fun _ _ _ h => h) (Or.inl ⟨by rfl, ?yq40⟩) (by assumption) ?_
                    case yq40 => (intro w hSw; (try dsimp only at hSw); go_simp; all_goals (with_reducible rfl))
                    (try simp only [Act.put, List.setIfInBounds_toArray, List.set_cons_zero, List.set_cons_succ, List.getElem_toArray, List.getElem_cons_succ, List.getElem_cons_zero])
                    refine wpAnyH_take (i := 18) (v := ?vq41) rfl (by kernel_rfl) (by kernel_rfl) (by kernel_rfl) (fun _ _ _ h => h) (Or.inl ⟨by rfl, ?yq41⟩) (by assumption) ?_
                    case yq41 => (intro w hSw; (try dsimp only at hSw); go_simp; all_goals (with_reducible rfl))
                    (try simp only [Act.put, List.setIfInBounds_toArray, List.set_cons_zero, List.set_cons_succ, List.getElem_toArray, List.getElem_cons_succ, List.getElem_cons_zero])
                    refine wpAnyH_ready (rs := [19]) (by kernel_rfl) (by simp) ?_
                    refine AllReadyH.cons rfl (fun K hK => ?_) ?_
                    · have hx9 := (HF.out wq37 FB_q38.out).1.1
                      have hf9 := (HF.out wq37 FB_q38.out).2.2.1.1
                      go_simp
                      clear hx9 hf9
                      refine hK.out _ _ ((HF.out wq37 FB_q38.out).2.2.2.2.2.1) (fun hHeld => ?_)
                      clear hK K
                      (try simp only [Act.put, List.setIfInBounds_toArray, List.set_cons_zero, List.set_cons_succ, List.getElem_toArray, List.getElem_cons_succ, List.getElem_cons_zero])
                      refine wpAnyH_take (i := 20) (v := ?vq42) rfl (by kernel_rfl) (by kernel_rfl) (by kernel_rfl) (fun _ _ _ h => h) (Or.inl ⟨by rfl, ?yq42⟩) (by assumption) ?_
                      case yq42 => (intro w hSw; (try dsimp only at hSw); go_simp; all_goals (with_reducible rfl))
                      (try simp only [Act.put, List.setIfInBounds_toArray, List.set_cons_zero, List.set_cons_succ, List.getElem_toArray, List.getElem_cons_succ, List.getElem_cons_zero])
                      refine wpAnyH_take (i := 21) (v := ?vq43) rfl (by kernel_rfl) (by kernel_rfl) (by kernel_rfl) (fun _ _ _ h => h) (Or.inl ⟨by rfl, ?yq43⟩) (by assumption) ?_
                      case yq43 => (intro w hSw; (try dsimp only at hSw); go_simp; all_goals (with_reducible rfl))
                      (try simp only [Act.put, List.setIfInBounds_toArray, List.set_cons_zero, List.set_cons_succ, List.getElem_toArray, List.getElem_cons_succ, List.getElem_cons_zero])
                      refine wpAnyH_take (i := 22) (v := ?vq44) rfl (by kernel_rfl) (by kernel_rfl) (by kernel_rfl) (fun _ _ _ h => h) (Or.inl ⟨by rfl, ?yq44⟩) (by assumption) ?_
                      case yq44 => (intro w hSw; (try dsimp only at hSw); go_simp; all_goals (with_reducible rfl))
                      (try simp only [Act.put, List.setIfInBounds_toArray, List.set_cons_zero, List.set_cons_succ, List.getElem_toArray, List.getElem_cons_succ, List.getElem_cons_zero])
                      refine wpAnyH_ready (rs := [23]) (by kernel_rfl) (by simp) ?_
                      refine AllReadyH.cons rfl (fun K hK => ?_) ?_
                      · have hx9 := (HF.out wq37 FB_q38.out).2.2.2.2.1.1
                        have hf9 := (HF.out wq37 FB_q38.out).2.2.2.2.1.2
                        go_simp
                        clear hx9 hf9
                        refine hK.out _ _ ((HF.out wq37 FB_q38.out).2.2.2.2.2.2.1) (fun hHeld => ?_)
                        clear hK K
                        (try simp only [Act.put, List.setIfInBounds_toArray, List.set_cons_zero, List.set_cons_succ, List.getElem_toArray, List.getElem_cons_succ, List.getElem_cons_zero])
                        refine wpAnyH_done (by kernel_rfl) ?_ _
                        have HC10 := Lib.hid (HF.out wq37 FB_q38.out).2.2.2.2.2.2.2.1
                        have HS10 := Lib.hid (HF.out wq37 FB_q38.out).2.2.2.2.2.2.2.2
                        (try go_wp2_with (fail))
                        go_meet
                        exact ⟨HC10.out, HS10.out⟩
                      exact AllReadyH.nil
                    exact AllReadyH.nil
                  exact AllReadyH.nil
                exact AllReadyH.nil
              exact AllReadyH.nil
            exact AllReadyH.nil
          case rest =>
            obtain ⟨hC9, hs9⟩ := hcut
            have hlo := HLO.out; have hhi := HHI.out
            clear HF HNa HNb HLO HHI HSX FB_0
            subst hlo hhi
            have HC9 := Lib.hid hC9
            have HS9 := Lib.hid hs9
            clear hC9 hs9
            go_wp2
            go_roundg R'.length
            case measure => exact HNX.out.2
            case rel => exact ⟨K ++ [n], R', Lib.hid ⟨HNX.out.1, rfl⟩, by rw [HP2.out], HC9.out, HS9.out⟩
end Go.Proofs.YtlcapifgpcimpaaDoor
