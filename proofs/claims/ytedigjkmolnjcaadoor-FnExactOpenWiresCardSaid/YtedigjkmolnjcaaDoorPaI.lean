/- The program's OpenWires, FiringOrder, LastFiringOrder, StuckLinks, CorrectByParsing. -/
import Derived.Test.YtedigjkmolnjcaaDoorPaH
import Derived.Deep.RegionHeldLaw
import Derived.Deep.DeepCutAuto
import Derived.BigQuiet
namespace Go.Proofs.YtedigjkmolnjcaaDoor
set_option linter.unusedSimpArgs false
set_option linter.unusedVariables false
open Go.ChangeAt Go.ChangeShapes Go.RowKit Go.WideShapes

theorem mark_cast (n : Nat) : markL 0 n = (List.range n).map fun x : Nat => (x : Int) := by
  unfold markL
  exact List.map_congr_left fun x _ => by omega
/-- The closure of OpenWires. -/
theorem isClosed_any (h : NH) (N : Nt) (g bx : Nat) (fs : List Int) (r : PzH) (x : Int) (w : World) (hv : valN N = true) (s : PzS w g h N fs r) (hx : inW N.w.length x = true) (hb : w.cell? ⟨bx, 0, none⟩ = some (.pointer (some ⟨g, 0, none⟩))) :
    Calls Tryd.prog 55 #[.int .i64 x, .pointer (some ⟨bx, 0, none⟩)] w fun e w' => e = .returned (.bool (!opnQ N (qN N fs) x)) ∧ Below w.heap.size w w' := by
  have HO := Lib.hid (isOpen_any h N g fs r x w hv s hx)
  clear s hv hx
  generalize opnQ N (qN N fs) x = b at *
  go_enter Tryd.func55, Tryd.ntmps55
  go_wp2_with (fail)
  refine HO.out.mono ?_
  rintro e w1 ⟨rfl, hd⟩
  have B1 := Lib.hid (drewN_below hd w.heap.size)
  clear hd
  go_wp2
  go_ret
  exact ⟨rfl, B1.out⟩
set_option maxRecDepth 100000 in
set_option maxHeartbeats 1000000 in
theorem openWires_impl (h : NH) (N : Nt) (fs : List Int) (F : Option Addr) (fc : Nat) (w : World) (r : RdN w w.heap.size h N) (sm : SmallN N) (hfl : fs.length ≤ 1048576) (rF : RdI w w.heap.size F fs.length fs) (ht : Arit w) (hu : Dual w) :
    Calls Tryd.prog 26 #[.agg #[.slice h.A N.w.length h.c, .slice h.L N.l.length h.d, .slice h.C N.c.length h.e], .slice F fs.length fc] w (GivesB w (owV N fs) (ifB N fs)) := by
  obtain ⟨w0, hw0⟩ : ∃ w0, w0 = w.alloc (.cells #[.slice h.A N.w.length h.c, .slice h.L N.l.length h.d, .slice h.C N.c.length h.e] 31) := ⟨_, rfl⟩
  obtain ⟨hb, hh, hsz⟩ := box3_any w (.slice h.A N.w.length h.c) (.slice h.L N.l.length h.d) (.slice h.C N.c.length h.e) 31
  rw [← hw0] at hb hh hsz
  have hs0 : w.heap.size + 1 ≤ w0.heap.size := by omega
  have HK : Hid (∀ w', Below w0.heap.size w0 w' → w'.cell? ⟨w.heap.size, 0, none⟩ = some (.slice h.A N.w.length h.c) ∧ w'.cell? ⟨w.heap.size, 1, none⟩ = some (.slice h.L N.l.length h.d) ∧ w'.cell? ⟨w.heap.size, 2, none⟩ = some (.slice h.C N.c.length h.e)) := Lib.hid fun w' hw => three_cells ((hw.block _ (by omega)).trans hh)
  have HP := Lib.hid (parsedBy_any h N fs F fc w0 ((r.below hb).more hb.size) sm hfl ((rF.below hb).more hb.size) (ht.below hb ht.lt) (hu.below hb hu.lt))
  have HB0 := Lib.hid hb
  have hmf : ∀ (fn : Fn) (first cap : Array Value) (w : World), (Instr.makeFunc fn first cap).run Tryd.prog w = .ok (.func fn first cap) w := fun _ _ _ _ => rfl
  obtain ⟨y0, y1, y2⟩ := three_cells hh
  clear hb hh hsz r rF ht hu sm
  go_enter Tryd.func26, Tryd.ntmps26
  go_wp2_with (fail)
  rw [← hw0]
  clear hw0
  refine HP.out.mono ?_
  rintro e w1 ⟨bel1, hc⟩
  have B1 := Lib.hid bel1
  have HB1 := Lib.hid (HB0.out.trans (bel1.mono HB0.out.size))
  clear bel1 y0 y1 y2
  rcases hc with ⟨hi, g, r1, rfl, hg, hP⟩ | ⟨hi, rfl⟩
  · have HV : Hid (owV N fs = opU N fs N.w.length) := Lib.hid (if_pos hi)
    have HE : Hid (true = ifB N fs) := Lib.hid hi.symm
    have hv : valN N = true := (Bool.and_eq_true _ _ ▸ hi : valN N = true ∧ isF N fs = true).1
    have h48 := (valN_size hv).1
    obtain ⟨w2, hw2⟩ : ∃ w2, w2 = w1.alloc (.cells #[.pointer (some ⟨g, 0, none⟩)] 52) := ⟨_, rfl⟩
    have b2 : Below w1.heap.size w1 w2 := by rw [hw2]; exact (Below.refl _ _).alloc (Nat.le_refl _) _
    have g2 : w2.heap[w1.heap.size]? = some (.cells #[.pointer (some ⟨g, 0, none⟩)] 52 (0, 0)) := by rw [hw2]; exact heap_alloc_new _ _
    have hl2 : w1.heap.size < w2.heap.size := (Array.getElem?_eq_some_iff.1 g2).1
    have hP2 := hP.below b2
    have HCL := Lib.hid (fun (x : Int) (hx : inW N.w.length x = true) (wx : World) (hb : Below w2.heap.size w2 wx) => isClosed_any h N g w1.heap.size fs r1 x wx hv (hP2.below hb) hx (cell_of_row _ _ 0 _ _ (0, 0) ((hb.block _ hl2).trans g2)))
    have HNF := Lib.hid (numbersFrom_any 0 N.w.length w2 (by omega) (by omega))
    have B2 := Lib.hid (B1.out.trans (b2.mono B1.out.size))
    have HB2 := Lib.hid (HB1.out.trans (b2.mono HB1.out.size))
    obtain ⟨y0, y1, y2⟩ := HK.out _ B2.out
    have HW2 := Lib.hid hw2
    clear hi hv hP hg b2 g2 hl2 hP2 hw2
    go_upto_region 5 with (fail)
    rw [← HW2.out]
    go_wp2_with (fail)
    refine HNF.out.mono ?_
    rintro e w3 ⟨A3, c3, rfl, own3, bel3⟩
    have hml : (markL 0 N.w.length).length = N.w.length := markL_len _ _
    have HB3 := Lib.hid (HB2.out.trans (bel3.mono HB2.out.size))
    have hall : ∀ x ∈ markL 0 N.w.length, inW N.w.length x = true := fun x hx => by
      rw [mark_cast] at hx
      obtain ⟨k, hk, rfl⟩ := List.mem_map.1 hx
      have := List.mem_range.1 hk
      exact decide_eq_true (by omega)
    have HDEL := Lib.hid (delOpen_any w1.heap.size (fun x => !opnQ N (qN N fs) x) A3 c3 (markL 0 N.w.length) w3 w2.heap.size own3 (by rw [hml]; omega) fun wx hx x hm => HCL.out x (hall x hm) wx (bel3.grown hx bel3.size fun q hq => (own3.lt q hq).1))
    have HOL := Lib.hid (fun q (hq : Value.ownBlock (.slice A3 (markL 0 N.w.length).length c3) = some q) => (own3.lt q hq).1)
    have HLE : Hid (kpI (fun x => !opnQ N (qN N fs) x) (markL 0 N.w.length) (markL 0 N.w.length).length = opU N fs N.w.length) := Lib.hid (by
      rw [kpI_end, mark_cast]
      unfold opU
      congr 1
      funext x
      rw [Bool.not_not])
    clear own3 bel3 hall hml y0 y1 y2
    generalize (markL 0 N.w.length).length = ml at *
    go_wp2_with (fail)
    refine HDEL.out.mono ?_
    rintro e w4 ⟨A4, c4, rfl, own4, gr4⟩
    rw [HLE.out] at own4 ⊢
    have HG : Hid (GivesB w (owV N fs) (ifB N fs) (.returned (.tuple #[.slice A4 (opU N fs N.w.length).length c4, .bool true])) w4) := Lib.hid ⟨A4, c4, by rw [HV.out, ← HE.out], by rw [HV.out]; exact own4.mono HB2.out.size, HB3.out.grown gr4 HB3.out.size fun q hq => Nat.le_trans HB2.out.size (HOL.out q hq)⟩
    clear own4 gr4
    generalize (opU N fs N.w.length).length = q at *
    go_wp2
    go_ret2
    exact HG.out
  · have HG : Hid (GivesB w (owV N fs) (ifB N fs) (.returned (.tuple #[.slice none 0 0, .bool false])) (w1.alloc (.cells #[.pointer none] 52))) := Lib.hid (by
      have e1 : ifB N fs = false := hi
      have e2 : owV N fs = [] := if_neg (by rw [e1]; decide)
      rw [e1, e2]
      exact ⟨none, 0, rfl, World.ownsRow_nil _ _ _ _, HB1.out.alloc HB1.out.size _⟩)
    clear hi
    go_wp2
    go_ret2
    exact HG.out
end Go.Proofs.YtedigjkmolnjcaaDoor
