/- The program's linked list: contractFirst. Made by mkche.py. -/
import Derived.Test.YtlcapifgpcimpaaDoorChB
import Derived.Deep.RegionHeldLaw
import Derived.Deep.DeepCutAuto
import Derived.BigQuiet
import Derived.Deep.LoopGhost
namespace Go.Proofs.YtlcapifgpcimpaaDoor
set_option linter.unusedSimpArgs false
set_option linter.unusedVariables false
open Go.ChangeAt Go.ChangeShapes Go.RowKit Go.WideShapes

/-- What contractFirst leaves. -/
def CfP (W : Nat → Ed → Bool) (w w' : World) (base c : Nat) (nd : Int) (ns : List Nd) (b : Bool) : Prop :=
  (b = true ∧ ∃ k ns', IsFst W (edsN ns) k ∧ ChG w' base c (nd - 1) ns' ∧ PdN ns' ∧ edsN ns' = ctrE (edsN ns) k ∧ Below base w w') ∨ (b = false ∧ NoFst W (edsN ns) ∧ ChG w' base c nd ns ∧ Below w.heap.size w w')
theorem eds_mid (K R : List Nd) (n : Nd) : (edsN (K ++ n :: R)).getD K.length Ed.nil = n.e := by
  unfold edsN
  rw [List.map_append, List.getD_eq_getElem?_getD, List.getElem?_append_right (by simp)]
  simp
set_option maxRecDepth 100000 in
set_option maxHeartbeats 1000000 in
theorem cfirst_any {base c : Nat} {nd : Int} {ns : List Nd} (W : Nat → Ed → Bool) (w : World) (h : ChG w base c nd ns) (P : PdN ns) (H2 : TwoP (edsN ns)) (hn0 : 0 ≤ nd) (hn1 : nd ≤ 1000) (hin : ∀ n ∈ ns, (0 ≤ n.e.a ∧ n.e.a ≤ 1000) ∧ 0 ≤ n.e.b ∧ n.e.b ≤ 1000) (hl : ns.length ≤ 1000)
    (HF : ∀ wx, Below w.heap.size w wx → ∀ (k : Nat) (x : Ed), Calls Tryd.prog 73 #[.int .i64 k, .agg #[.int .i64 x.a, .int .i64 x.b, .int .i64 x.p]] wx fun e w' => e = .returned (.bool (W k x)) ∧ Below wx.heap.size wx w') :
    Calls Tryd.prog 72 #[.pointer (some ⟨c, 0, none⟩), .func (.func 73) #[] #[]] w fun e w' => ∃ b, e = .returned (.bool b) ∧ CfP W w w' base c nd ns b := by
  have HCH := Lib.hid (fun (wx : World) (hx : Below w.heap.size w wx) => show ChG wx base c nd ns from h.below hx)
  have HCAN := Lib.hid (fun (wx : World) (hx : Below w.heap.size w wx) (n : Nd) (hn : n ∈ ns) => canC_any wx (h.below hx) P H2 n hn)
  have HCON := Lib.hid (fun (wx : World) (hx : Below w.heap.size w wx) (n : Nd) (hn : n ∈ ns) => contract_any wx (h.below hx) P n hn hn0 hn1 hin)
  have HCT := Lib.hid (fun (n : Nd) (hn : n ∈ ns) => P.ct hn)
  have HIS := Lib.hid (fun (k : Nat) (t : Nd) (e : ns[k]? = some t) => ctN_is P H2 e)
  have hbs : base ≤ w.heap.size := Nat.le_of_lt (Nat.lt_of_le_of_lt h.loC h.ltC)
  have HBS := Lib.hid hbs
  have HFF := Lib.hid HF
  have y1 := h.cells.2
  have hN1 := neqP1; have hN0 := neqP0
  obtain ⟨pv0, hpv0⟩ : ∃ pv, ptE (hdN ns none) = pv := ⟨_, rfl⟩
  rw [hpv0] at y1
  have HPV := Lib.hid hpv0
  clear hpv0 h P H2 hin HF hbs
  go_enter Tryd.func72, Tryd.ntmps72
  go_wp2
  clear y1
  go_loopg [5, 6] ns.length (fun k iv ev wr => ∃ K R, Hid (ns = K ++ R ∧ R.length = k) ∧ iv = .int .i64 (K.length : Nat) ∧ ev = ptE (hdN R none) ∧ Hid (∀ j, j < K.length → (W j ((edsN ns).getD j Ed.nil) && canE (edsN ns) ((edsN ns).getD j Ed.nil)) = false) ∧ Below w.heap.size w wr)
  case atStart => exact ⟨[], ns, Lib.hid ⟨rfl, rfl⟩, rfl, HPV.out.symm, Lib.hid (fun j hj => absurd hj (by simp)), Below.refl _ _⟩
  case round =>
    obtain ⟨K, R, hKR, rfl, rfl, hNO, hB⟩ := hrel
    have HB := Lib.hid hB
    clear hB HPV
    cases R with
    | nil =>
      simp only [hdN, ptE]
      have hk := hKR.out.1
      rw [List.append_nil] at hk
      have HG : Hid (CfP W w wr base c nd ns false) := Lib.hid (.inr ⟨rfl, fun j hj => hNO.out j (by rw [edsN_len, hk] at hj; exact hj), HCH.out _ HB.out, HB.out⟩)
      clear hk
      go_wp2
      go_ret
      exact ⟨false, rfl, HG.out⟩
    | cons n R' =>
      simp only [hdN, ptE]
      obtain ⟨hk1, hk2⟩ := hKR.out
      have hnm : n ∈ ns := by rw [hk1]; simp
      have HNM := Lib.hid hnm
      have hcx := HCH.out _ HB.out
      have hat : NdAt wr n (hdN R' none) := by rw [hk1] at hcx; exact hcx.at
      obtain ⟨c0, c1, c2, c3, c4⟩ := hat.cells
      have HNX : Hid (ns = (K ++ [n]) ++ R' ∧ R'.length < gk) := Lib.hid ⟨by rw [hk1]; simp, by rw [← hk2]; simp⟩
      have HNE : Hid ((edsN ns).getD K.length Ed.nil = n.e) := Lib.hid (by rw [hk1]; exact eds_mid K R' n)
      have HKL : Hid (K.length < (edsN ns).length) := Lib.hid (by rw [edsN_len, hk1]; simp)
      have HGT : Hid (ns[K.length]? = some n) := Lib.hid (by rw [hk1]; simp)
      have HNX4 : Hid (∀ wx, Below w.heap.size w wx → wx.cell? ⟨n.x, 4, none⟩ = some (ptE (hdN R' none))) := Lib.hid fun wx hx => by
        have h5 := HCH.out wx hx
        rw [hk1] at h5
        exact h5.at.cells.2.2.2.2
      have HCA := Lib.hid (fun wx hx => HCAN.out wx hx n hnm)
      have HCO := Lib.hid (fun wx hx => HCON.out wx hx n hnm)
      have HCF := Lib.hid (HFF.out wr HB.out K.length n.e)
      have hkb : K.length ≤ 1000 := by
        have : ns.length = K.length + (n :: R').length := by rw [hk1, List.length_append]
        omega
      have HST : Hid ((W K.length n.e && canE (edsN ns) n.e) = false → ∀ j, j < (K ++ [n]).length → (W j ((edsN ns).getD j Ed.nil) && canE (edsN ns) ((edsN ns).getD j Ed.nil)) = false) := Lib.hid fun e j hj => by
        rw [List.length_append] at hj
        by_cases e2 : j < K.length
        · exact hNO.out j e2
        · have : j = K.length := by simp at hj; omega
          subst this
          rw [HNE.out]; exact e
      have HYE : Hid (W K.length n.e = true → canE (edsN ns) n.e = true → ∀ w', ChG w' base c (nd - 1) (ctN n ns) → Below base w w' → CfP W w w' base c nd ns true) := Lib.hid fun e1 e2 w' hc hb => by
        refine .inl ⟨rfl, K.length, ctN n ns, ⟨HKL.out, by rw [HNE.out]; exact e1, by rw [HNE.out]; exact e2, hNO.out⟩, hc, HCT.out n HNM.out, HIS.out _ _ HGT.out, hb⟩
      have HLX : Hid ((K ++ [n]).length = K.length + 1) := Lib.hid (by simp)
      clear hk1 hk2 hKR hnm hcx hat HCT HIS HCAN HCON HFF hNO
      obtain ⟨ea, hea⟩ : ∃ q, n.e.a = q := ⟨_, rfl⟩
      obtain ⟨eb, heb⟩ : ∃ q, n.e.b = q := ⟨_, rfl⟩
      obtain ⟨ep, hep⟩ : ∃ q, n.e.p = q := ⟨_, rfl⟩
      rw [hea] at c0 HCF; rw [heb] at c1 HCF; rw [hep] at c2 HCF
      clear hea heb hep c3 c4
      generalize K.length = kk at *
      obtain ⟨bw, hbw⟩ : ∃ q, W kk n.e = q := ⟨_, rfl⟩
      obtain ⟨bc, hbc⟩ : ∃ q, canE (edsN ns) n.e = q := ⟨_, rfl⟩
      simp only [hbw, hbc] at HST HYE HCF HCA
      clear hbw hbc
      cases bw with
      | false =>
        have HS := Lib.hid (HST.out (by simp))
        go_wp2_with (fail)
        refine HCF.out.mono ?_
        rintro e w1 ⟨rfl, bel1⟩
        have B1 := Lib.hid (HB.out.trans (bel1.mono HB.out.size))
        clear bel1 c0 c1 c2
        have t4 := HNX4.out _ B1.out
        obtain ⟨tv, htv⟩ : ∃ tv, ptE (hdN R' none) = tv := ⟨_, rfl⟩
        rw [htv] at t4
        have HTV := Lib.hid htv
        clear htv
        go_wp2
        go_roundg R'.length
        case measure => exact HNX.out.2
        case rel => exact ⟨K ++ [n], R', Lib.hid ⟨HNX.out.1, rfl⟩, by rw [HLX.out]; go_num, HTV.out.symm, Lib.hid HS.out, B1.out⟩
      | true =>
        cases bc with
        | false =>
          have HS := Lib.hid (HST.out (by simp))
          go_wp2_with (fail)
          refine HCF.out.mono ?_
          rintro e w1 ⟨rfl, bel1⟩
          have B1 := Lib.hid (HB.out.trans (bel1.mono HB.out.size))
          clear bel1 c0 c1 c2
          go_wp2_with (fail)
          refine (HCA.out _ B1.out).mono ?_
          rintro e w2 ⟨rfl, bel2⟩
          have B2 := Lib.hid (B1.out.trans (bel2.mono B1.out.size))
          clear bel2
          have t4 := HNX4.out _ B2.out
          obtain ⟨tv, htv⟩ : ∃ tv, ptE (hdN R' none) = tv := ⟨_, rfl⟩
          rw [htv] at t4
          have HTV := Lib.hid htv
          clear htv
          go_wp2
          go_roundg R'.length
          case measure => exact HNX.out.2
          case rel => exact ⟨K ++ [n], R', Lib.hid ⟨HNX.out.1, rfl⟩, by rw [HLX.out]; go_num, HTV.out.symm, Lib.hid HS.out, B2.out⟩
        | true =>
          go_wp2_with (fail)
          refine HCF.out.mono ?_
          rintro e w1 ⟨rfl, bel1⟩
          have B1 := Lib.hid (HB.out.trans (bel1.mono HB.out.size))
          clear bel1 c0 c1 c2
          go_wp2_with (fail)
          refine (HCA.out _ B1.out).mono ?_
          rintro e w2 ⟨rfl, bel2⟩
          have B2 := Lib.hid (B1.out.trans (bel2.mono B1.out.size))
          clear bel2
          go_wp2_with (fail)
          refine (HCO.out _ B2.out).mono ?_
          rintro e w3 ⟨rfl, hc3, bel3⟩
          have HG := Lib.hid (HYE.out (by first | rfl | trivial) (by first | rfl | trivial) w3 hc3 ((B2.out.mono HBS.out).trans bel3))
          clear hc3 bel3
          go_wp2
          go_ret
          exact ⟨true, rfl, HG.out⟩
end Go.Proofs.YtlcapifgpcimpaaDoor
