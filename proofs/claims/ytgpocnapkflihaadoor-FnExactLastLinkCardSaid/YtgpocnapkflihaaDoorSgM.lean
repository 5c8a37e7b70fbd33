/- Rows of arcs: what they read as; the program's arcs of a net. -/
import Derived.Test.YtgpocnapkflihaaDoorFaM
import Derived.Test.YtgpocnapkflihaaDoorLxP
import Derived.Test.YtgpocnapkflihaaDoorSwS
import Derived.Deep.RegionHeldLaw
import Derived.Deep.DeepCutAuto
import Derived.BigQuiet
namespace Go.Proofs.YtgpocnapkflihaaDoor
set_option linter.unusedSimpArgs false
set_option linter.unusedVariables false
open Go.ChangeAt Go.ChangeShapes Go.RowKit Go.WideShapes

/-- The cells of a row of arcs. -/
def flA : List Ac → List Int
  | [] => []
  | a :: ar => a.w :: a.f :: a.t :: flA ar
theorem flA_len : ∀ ar : List Ac, (flA ar).length = ar.length * 3
  | [] => rfl
  | a :: ar => by simp only [flA, List.length_cons, flA_len ar]; omega
theorem flA_app : ∀ xs ys : List Ac, flA (xs ++ ys) = flA xs ++ flA ys
  | [], _ => rfl
  | x :: xs, ys => by simp only [flA, List.cons_append, flA_app xs ys]
theorem flA_at : ∀ (ar : List Ac) (i : Nat), i < ar.length → (flA ar).getD (i * 3) 0 = (ar.getD i Ac.nil).w ∧ (flA ar).getD (i * 3 + 1) 0 = (ar.getD i Ac.nil).f ∧ (flA ar).getD (i * 3 + 2) 0 = (ar.getD i Ac.nil).t
  | [], i, h => absurd h (by simp)
  | a :: ar, 0, _ => ⟨rfl, rfl, rfl⟩
  | a :: ar, i + 1, h => by
    have ih := flA_at ar i (by simpa using h)
    have e : ∀ t, (flA (a :: ar)).getD ((i + 1) * 3 + t) 0 = (flA ar).getD (i * 3 + t) 0 := fun t => by
      have : (i + 1) * 3 + t = i * 3 + t + 1 + 1 + 1 := by omega
      rw [this]; rfl
    have e0 := e 0
    rw [Nat.add_zero, Nat.add_zero] at e0
    rw [e0, e 1, e 2]
    exact ih
/-- The slice value '.slice A n c' reads as the arcs ar, below block B. -/
def RdA (w : World) (B : Nat) (A : Option Addr) (n : Nat) (ar : List Ac) : Prop := ar.length = n ∧ RdI w B A (n * 3) (flA ar)
section
variable {w w' : World} {B B' n : Nat} {A : Option Addr} {ar : List Ac}
theorem RdA.below (h : RdA w B A n ar) (hb : Below B w w') : RdA w' B A n ar := ⟨h.1, h.2.below hb⟩
theorem RdA.more (h : RdA w B A n ar) (hB : B ≤ B') : RdA w B' A n ar := ⟨h.1, h.2.more hB⟩
/-- The cells of each arc. -/
theorem RdA.at (h : RdA w B A n ar) (hn : 0 < n) : ∃ b off, A = some ⟨b, off, none⟩ ∧ b < B ∧ ∀ i, i < n → w.cell? ⟨b, off + i * 3, none⟩ = some (.int .i64 (ar.getD i Ac.nil).w) ∧ w.cell? ⟨b, off + i * 3 + 1, none⟩ = some (.int .i64 (ar.getD i Ac.nil).f) ∧ w.cell? ⟨b, off + i * 3 + 2, none⟩ = some (.int .i64 (ar.getD i Ac.nil).t) := by
  obtain ⟨b, off, e, hb, hc⟩ := h.2.2 (by omega)
  refine ⟨b, off, e, hb, fun i hi => ?_⟩
  obtain ⟨f0, f1, f2⟩ := flA_at ar i (by rw [h.1]; exact hi)
  refine ⟨?_, ?_, ?_⟩
  · rw [hc (i * 3) (by omega), f0]
  · rw [Nat.add_assoc, hc (i * 3 + 1) (by omega), f1]
  · rw [Nat.add_assoc, hc (i * 3 + 2) (by omega), f2]
theorem RdA.of_own {lo c : Nat} (h : w.ownsRow lo 100 3 (.slice A ar.length c) ar.length ((flA ar).map (Value.int .i64))) : RdA w w.heap.size A ar.length ar := by
  refine ⟨rfl, by rw [flA_len], fun hn => ?_⟩
  obtain ⟨g, cap, hv, hlo, hhi⟩ := h.form (by omega)
  injection hv with e1 e2 e3
  subst e1
  refine ⟨g, 0, rfl, hhi, fun j hj => ?_⟩
  rw [Nat.zero_add, h.cellAt (g := g) j (by omega), List.getElem?_map]
  have hj2 : j < (flA ar).length := by rw [flA_len]; exact hj
  simp [List.getD, hj2]
end
/-- What a function leaves that hands back a row of arcs. -/
def GivesA (w : World) (ar : List Ac) (e : Ending) (w' : World) : Prop :=
  ∃ A c, e = .returned (.slice A ar.length c) ∧ w'.ownsRow w.heap.size 100 3 (.slice A ar.length c) ar.length ((flA ar).map (Value.int .i64)) ∧ Below w.heap.size w w'
theorem own_shape3 {w : World} {base n : Nat} {e : TypeId} {v : Value} {xs : List Value} (h : w.ownsRow base e 3 v n xs) : ∃ A c, v = .slice A n c := by
  rcases h.2 with ⟨rfl, rfl⟩ | ⟨g, cap, cur, rfl, _, _, hn, _⟩
  · exact ⟨_, _, rfl⟩
  · exact ⟨_, _, rfl⟩
theorem info_arc : (Tryd.prog.info? 100).map (fun i => (i.zero, i.size, i.bytes)) = some (some (.agg #[.int .i64 0, .int .i64 0, .int .i64 0]), 3, 24) := by kernel_rfl
theorem lxN_in (p : Lk → List Int) (N : Nt) (x : Int) : -1 ≤ lxN p N x ∧ lxN p N x < N.l.length := by
  rcases lxN_cases p N x with ⟨j, hj, _, e⟩ | ⟨_, e⟩ <;> rw [e] <;> omega
theorem three_new (w : World) (a b c : Value) (t : TypeId) : ∀ j u, [a, b, c][j]? = some u → (w.alloc (.cells #[a, b, c] t)).cell? ((⟨w.heap.size, 0, none⟩ : Addr).add j) = some u := by
  intro j u hu
  have ea : (⟨w.heap.size, 0, none⟩ : Addr).add j = ⟨w.heap.size, j, none⟩ := by simp [Addr.add]; omega
  rw [ea, cell_of_row _ _ j _ _ (0, 0) (heap_alloc_new w _)]
  simpa using hu
set_option maxRecDepth 100000 in
set_option maxHeartbeats 1000000 in
theorem arcsOf_any (h : NH) (N : Nt) (w : World) (hv : valN N = true) (r : RdN w w.heap.size h N) :
    Calls Tryd.prog 98 #[.agg #[.slice h.A N.w.length h.c, .slice h.L N.l.length h.d, .slice h.C N.c.length h.e]] w (GivesA w (arcsU N N.w.length)) := by
  obtain ⟨h48, h48l⟩ := valN_size hv
  obtain ⟨i3, hi3, hz3, hs3, hb3⟩ := info_parts info_arc
  have HI := Lib.hid hi3; have HZ0 := Lib.hid hz3; have HZ1 := Lib.hid hs3; have HZ2 := Lib.hid hb3
  obtain ⟨w0, hw0⟩ : ∃ w0, w0 = w.alloc (.cells #[.slice h.A N.w.length h.c, .slice h.L N.l.length h.d, .slice h.C N.c.length h.e] 31) := ⟨_, rfl⟩
  obtain ⟨hb, hh, hsz⟩ := box3_any w (.slice h.A N.w.length h.c) (.slice h.L N.l.length h.d) (.slice h.C N.c.length h.e) 31
  rw [← hw0] at hb hh hsz
  have HK : Hid (∀ w', Below w0.heap.size w0 w' → w'.cell? ⟨w.heap.size, 0, none⟩ = some (.slice h.A N.w.length h.c) ∧ w'.cell? ⟨w.heap.size, 1, none⟩ = some (.slice h.L N.l.length h.d) ∧ w'.cell? ⟨w.heap.size, 2, none⟩ = some (.slice h.C N.c.length h.e)) := Lib.hid fun w' hw => three_cells ((hw.block _ (by omega)).trans hh)
  have HO := Lib.hid (fun (wx : World) (hx : Below w0.heap.size w0 wx) => linksOut_any h N wx hv ((r.below (hb.trans (hx.mono hb.size))).more (Nat.le_trans hb.size hx.size)))
  have HIN := Lib.hid (fun (wx : World) (hx : Below w0.heap.size w0 wx) => linksIn_any h N wx hv ((r.below (hb.trans (hx.mono hb.size))).more (Nat.le_trans hb.size hx.size)))
  have HB0 := Lib.hid hb
  obtain ⟨y0, y1, y2⟩ := three_cells hh
  clear hb hh hsz r hi3 hz3 hs3 hb3
  go_enter Tryd.func98, Tryd.ntmps98
  go_upto_region 1 with (fail)
  rw [← hw0]
  clear hw0
  go_cut [3, 4] (fun v3 v4 wx => ∃ A c B d, v3 = .slice A (lxL outL N).length c ∧ v4 = .slice B (lxL inL N).length d ∧ RdI wx wx.heap.size A (lxL outL N).length (lxL outL N) ∧ RdI wx wx.heap.size B (lxL inL N).length (lxL inL N) ∧ Below w0.heap.size w0 wx)
  case first =>
    go_region_with (first
      | (go_at_call 72; refine (HO.out _ (Below.refl _ _).drew).mono ?_; rintro e w3 ⟨A3, c3, rfl, own3, bel3⟩; have B3 := Lib.hid (((Below.refl w0.heap.size w0).drew).trans bel3); have R3 := Lib.hid (RdI.of_own own3); have y1' := HK.out _ B3.out; obtain ⟨z0, z1, z2⟩ := y1'; clear own3 bel3 HO)
      | (go_at_call 72; refine (HIN.out _ B3.out).mono ?_; rintro e w4 ⟨A4, c4, rfl, own4, bel4⟩; have B4 := Lib.hid (B3.out.trans (bel4.mono B3.out.size)); have R4 := Lib.hid (RdI.of_own own4); have R34 := Lib.hid ((R3.out.below bel4).more bel4.size); clear own4 bel4))
    all_goals (try go_wp2_with (fail))
    all_goals go_meet
    all_goals exact ⟨A3, c3, A4, c4, rfl, rfl, R34.out, R4.out, B4.out⟩
  case rest =>
    obtain ⟨A, c, B, d, rfl, rfl, RA, RB, hBc⟩ := hcut
    have RA1 := Lib.hid RA; have RB1 := Lib.hid RB; have HBC := Lib.hid hBc
    have HLO := Lib.hid (lxL_len outL N); have HLI := Lib.hid (lxL_len inL N)
    clear RA RB hBc HIN y0 y1 y2
    have hl1 : (lxL inL N).length ≤ 48 := by rw [HLI.out]; exact h48
    go_wp2
    go_loopw [5, 14] (fun v i wr => ∃ k : Nat, k ≤ (lxL inL N).length ∧ i = .int .i64 k ∧ wr.ownsRow wc.heap.size 100 3 v (arcsU N k).length ((flA (arcsU N k)).map (Value.int .i64)) ∧ Below wc.heap.size wc wr) (fun _ i _ => (lxL inL N).length - (intOf i).toNat)
    case atStart => exact ⟨0, Nat.zero_le _, rfl, World.ownsRow_nil _ _ _ _, Below.refl _ _⟩
    case round =>
      obtain ⟨k, hk, rfl, hO, hB⟩ := hrel
      by_cases hlt : k < (lxL inL N).length
      · have hkw : k < N.w.length := by rw [← HLI.out]; exact hlt
        obtain ⟨bB, oB, hBe, hbb, hcb⟩ := RB1.out.2 (by omega)
        obtain ⟨bA, oA, hAe, hba, hca⟩ := RA1.out.2 (by rw [HLO.out]; omega)
        have cb := (hB.cell (p := ⟨bB, oB + k, none⟩) (by show bB < _; omega)).trans (hcb k hlt)
        have ca := (hB.cell (p := ⟨bA, oA + k, none⟩) (by show bA < _; omega)).trans (hca k (by rw [HLO.out]; exact hkw))
        rw [lxL_at inL N hkw] at cb
        rw [lxL_at outL N hkw] at ca
        have HYE := Lib.hid (fun e => arcsU_yes (N := N) (k := k) e)
        have HNO := Lib.hid (fun e => arcsU_no (N := N) (k := k) e)
        have HAR : Hid (arcA N k = ⟨(k : Int), lxN outL N (k : Int), lxN inL N (k : Int)⟩) := Lib.hid rfl
        have hln := arcsU_len N k
        have hkA : (k : Int) < ((lxL outL N).length : Int) := by rw [HLO.out]; omega
        have HO := Lib.hid hO; have HB := Lib.hid hB
        have hsz1 := hB.size
        generalize lxN outL N (k : Int) = p at *
        generalize lxN inL N (k : Int) = q at *
        subst hBe; subst hAe
        clear hO hB hcb hca
        by_cases hq : q = -1
        · have hd : (q != -1) = false := by simp [hq]
          have HS := Lib.hid (HNO.out hq)
          have HO1 := HO.out
          rw [← HS.out] at HO1
          have HO2 := Lib.hid HO1
          clear hq HO1
          go_wp2
          go_roundw
          case rel => exact ⟨k + 1, by omega, by go_num, HO2.out, HB.out⟩
          case measure => simp [intOf]; omega
        · have hd : (q != -1) = true := by simp [hq]
          have HS := Lib.hid (HYE.out hq)
          have HLN : Hid ((arcsU N (k + 1)).length = (arcsU N k).length + 1) := Lib.hid (by rw [HS.out]; simp)
          clear hq
          go_wp2_with (at_builtin; refine wpList_append_own _ rfl _ _ 97 rfl wc.heap.size 100 i3 (.agg #[.int .i64 0, .int .i64 0, .int .i64 0]) 3 24 Tryd.underlying97 HI.out HZ0.out HZ1.out HZ2.out rfl (by decide) _ _ _ rfl (HO.out.alloc _) ⟨wr.heap.size, 0, none⟩ 1 1 [.int .i64 k, .int .i64 p, .int .i64 q] rfl rfl ?c1 ?c2 ?c3 ?c4 ?c5 ?_)
          case c1 => exact three_new _ _ _ _ _
          case c2 => intro u hu; simp at hu; rcases hu with rfl | rfl | rfl <;> rfl
          case c3 => unfold maxLen; omega
          case c4 => omega
          case c5 => simp; omega
          intro v' w2 hown' hgrow _
          have hb2 := Lib.hid ((HB.out.alloc hsz1 (.cells #[.int .i64 k, .int .i64 p, .int .i64 q] 100)).grown hgrow (by simp; omega) (fun q hq => (HO.out.lt q hq).1))
          have hown2 : w2.ownsRow wc.heap.size 100 3 v' (arcsU N (k + 1)).length ((flA (arcsU N (k + 1))).map (Value.int .i64)) := by
            rw [HLN.out, HS.out, flA_app, List.map_append, HAR.out]; exact hown'
          have hown1 := Lib.hid hown2
          clear hown' hgrow hown2 hsz1
          go_wp2
          go_roundw
          case rel => exact ⟨k + 1, by omega, by go_num, hown1.out, hb2.out⟩
          case measure => simp [intOf]; omega
      · have hkl : k = N.w.length := by rw [← HLI.out]; omega
        subst hkl
        obtain ⟨A5, c5, rfl⟩ := own_shape3 hO
        have HG : Hid (GivesA w (arcsU N N.w.length) (.returned (.slice A5 (arcsU N N.w.length).length c5)) wr) := Lib.hid ⟨A5, c5, rfl, hO.mono (Nat.le_trans HB0.out.size HBC.out.size), HB0.out.trans ((HBC.out.trans (hB.mono HBC.out.size)).mono HB0.out.size)⟩
        clear hO hB
        go_wp2
        go_ret
        exact HG.out
end Go.Proofs.YtgpocnapkflihaaDoor
