/- DERIVED. The reference's PlanOf: its ways. No condition. -/
import Derived.Test.YtkobenohijipeaaPlanO
namespace Go.Proofs.Ytkobenohijipeaa
open Go.RowKit
set_option linter.unusedVariables false
set_option maxRecDepth 100000 in
set_option maxHeartbeats 800000 in
theorem pof_ww_wh_3 (W H ww wh : Int) (w : World) (hw : sideB W = true) (hh : sideB H = true) (hz : wantE 3 ww wh (sideB ww) (sideB wh) = 0) (m1 : ww ≤ W) (m2 : wh ≤ H) :
    Calls Try.prog 14 #[.int .i64 W, .int .i64 H, .agg #[.int .i64 3, .int .i64 ww, .int .i64 wh]] w fun e w' => e = .returned (.tuple #[cutV 0 0 W H ww (scl H ww W), .int .i64 0]) ∧ Below w.heap.size w w' := by
  have H1 := Lib.hid (fun wX => rSide_any W wX)
  have H2 := Lib.hid (fun wX => rSide_any H wX)
  rw [hw] at H1
  rw [hh] at H2
  obtain ⟨b1, b2, b3, b4, -, k1, k2⟩ := wantE_in hz
  obtain ⟨d1, d2⟩ := sideB_inv hw
  obtain ⟨d3, d4⟩ := sideB_inv hh
  have ha : sideB ww = true := sideB_true (k1 (by decide)) (by omega)
  have H3 := Lib.hid (fun wX => rSide_any ww wX)
  rw [ha] at H3
  have hzz : wh = 0 := wantE_3 hz
  subst hzz
  have H5 := Lib.hid (fun wX p1 h1 h2 h3 => by1_any ww W H p1 (w.heap.size + 1) w.heap.size wX d1 d2 d3 d4 (by omega) (by omega) h1 h2 h3)
  obtain ⟨s1, hs1⟩ : ∃ s1, scl H ww W = s1 := ⟨_, rfl⟩
  obtain ⟨s2, hs2⟩ : ∃ s2, scl W 0 H = s2 := ⟨_, rfl⟩
  simp only [hs1] at *
  simp only [hs2] at *
  clear hw hh hz hs1 hs2 b1 b2 b3 b4 k1 k2 d1 d2 d3 d4 ha
  go_enter Try.func14, Try.ntmps14
  go_wp2_with fail
  refine (H1.out _).mono ?_
  rintro e w' ⟨rfl, rfl⟩
  go_wp2_with fail
  refine (H2.out _).mono ?_
  rintro e w' ⟨rfl, rfl⟩
  go_wp2_with fail
  go_quiet (fail)
  have hfour := four w (.cells #[.int .i64 W] 3) (.cells #[.int .i64 H] 3) (.cells #[.int .i64 3, .int .i64 ww, .int .i64 0] 34) (.cells (ints6 0 0 0 0 0 0) 36) nq
  unfold ints6 at hfour
  generalize ((((w.alloc (.cells #[.int .i64 W] 3)).alloc (.cells #[.int .i64 H] 3)).alloc (.cells #[.int .i64 3, .int .i64 ww, .int .i64 0] 34)).alloc (.cells #[.int .i64 0, .int .i64 0, .int .i64 0, .int .i64 0, .int .i64 0, .int .i64 0] 36)).drewN nq = w1 at hfour ⊢
  obtain ⟨o0, o1, o2, o3, hbs⟩ := hfour
  have e0 : w1.cell? ⟨w.heap.size, 0, none⟩ = some (.int .i64 W) := by rw [cell_of_row _ _ _ _ _ _ o0]; rfl
  have e1 : w1.cell? ⟨w.heap.size + 1, 0, none⟩ = some (.int .i64 H) := by rw [cell_of_row _ _ _ _ _ _ o1]; rfl
  have e2 : w1.cell? ⟨w.heap.size + 2, 0, none⟩ = some (.int .i64 3) := by rw [cell_of_row _ _ _ _ _ _ o2]; rfl
  have e3 : w1.cell? ⟨w.heap.size + 2, 1, none⟩ = some (.int .i64 ww) := by rw [cell_of_row _ _ _ _ _ _ o2]; rfl
  have e4 : w1.cell? ⟨w.heap.size + 2, 2, none⟩ = some (.int .i64 0) := by rw [cell_of_row _ _ _ _ _ _ o2]; rfl
  have o3' : w1.heap[w.heap.size + 3]? = some (.cells (ints6 0 0 0 0 0 0) 36 (0, 0)) := o3
  obtain ⟨⟨c0, f0⟩, ⟨c1, f1⟩, ⟨c2, f2⟩, ⟨c3, f3⟩, ⟨c4, f4⟩, ⟨c5, f5⟩⟩ := six o3'
  have HC := Lib.hid (And.intro hbs o3')
  clear o0 o1 o2 o3 o3' hbs
  go_wp2_with fail
  refine (H3.out _).mono ?_
  rintro e w' ⟨rfl, rfl⟩
  go_wp2_with fail
  go_region
  have g0 : w1.drew.cell? ⟨w.heap.size, 0, none⟩ = some (.int .i64 W) := e0
  have g1 : w1.drew.cell? ⟨w.heap.size + 1, 0, none⟩ = some (.int .i64 H) := e1
  have g2 : w1.drew.cell? ⟨w.heap.size + 2, 0, none⟩ = some (.int .i64 3) := e2
  have g6 : w1.drew.heap[w.heap.size + 3]? = some (.cells (ints6 0 0 0 0 0 0) 36 (0, 0)) := HC.out.2
  have g7 := HC.out.1.drew
  clear e0 e1 e2 e3 e4 c0 f0 c1 f1 c2 f2 c3 f3 c4 f4 c5 f5 HC
  generalize w1.drew = w2 at g0 g1 g2 g6 g7 ⊢
  have HC := Lib.hid (And.intro g7 g6)
  have hlt := lt_block g6
  obtain ⟨wA, hwA⟩ : ∃ wA, w2.alloc (.cells #[.int .i64 0, .int .i64 0, .int .i64 W, .int .i64 H, .int .i64 0, .int .i64 0] 36) = wA := ⟨_, rfl⟩
  have ha2 : Below w2.heap.size w2 wA := by rw [← hwA]; exact (Below.refl _ w2).alloc (Nat.le_refl _) _
  have hA0 : wA.cell? ⟨w.heap.size, 0, none⟩ = some (.int .i64 W) := (ha2.cell (p := ⟨w.heap.size, 0, none⟩) (by show w.heap.size < _; omega)).trans g0
  have hA1 : wA.cell? ⟨w.heap.size + 1, 0, none⟩ = some (.int .i64 H) := (ha2.cell (p := ⟨w.heap.size + 1, 0, none⟩) (by show w.heap.size + 1 < _; omega)).trans g1
  have hA2 : wA.heap[w2.heap.size]? = some (.cells (ints6 0 0 W H 0 0) 36 (0, 0)) := by rw [← hwA]; exact heap_alloc_new _ _
  have hA3 : wA.cell? ⟨w.heap.size + 2, 0, none⟩ = some (.int .i64 3) := (ha2.cell (p := ⟨w.heap.size + 2, 0, none⟩) (by show w.heap.size + 2 < _; omega)).trans g2
  have hAz : wA.heap.size = w2.heap.size + 1 := by rw [← hwA]; simp
  have HA := Lib.hid (And.intro hA0 (And.intro hA1 (And.intro hA2 (And.intro hAz ha2))))
  have HL := Lib.hid hlt
  have HWA := Lib.hid hwA
  have j0 : w.heap.size < w2.heap.size := by omega
  have j1 : w.heap.size + 1 < w2.heap.size := by omega
  have j2 : w.heap.size + 2 < w2.heap.size := by omega
  clear g6 g7 hA0 hA1 hA2 hAz ha2 hwA
  go_wp2_with fail
  have hwA := HWA.out
  rw [hwA]
  clear hwA g0 g1 g2 j0 j1 j2 hlt
  refine (H5.out wA _ HA.out.2.2.1 HA.out.2.1 HA.out.1).mono ?_
  rintro e w3 ⟨rfl, hb3⟩
  unfold cutV
  have hbz : Below w2.heap.size w2 w3 := HA.out.2.2.2.2.trans (hb3.mono (by rw [HA.out.2.2.2.1]; exact Nat.le_succ _))
  clear hb3
  have hc3 : w3.heap[w.heap.size + 1 + 1 + 1]? = some (.cells (ints6 0 0 0 0 0 0) 36 (0, 0)) := ((hbz).block _ HL.out).trans HC.out.2
  have hb3 : Below w.heap.size w w3 := HC.out.1.trans ((hbz).mono (by have := HL.out; omega))
  obtain ⟨⟨c0, f0⟩, ⟨c1, f1⟩, ⟨c2, f2⟩, ⟨c3, f3⟩, ⟨c4, f4⟩, ⟨c5, f5⟩⟩ := six hc3
  have HD := Lib.hid (And.intro hb3 hc3)
  clear hc3 hb3
  go_wp2_with fail
  exact bodyPost_ret (planRes rfl _ _ (w.heap.size + 1 + 1 + 1) _ _ _ _ (by simp) rfl (set6 HD.out.2 0 0 W H ww s1) rfl) rfl ⟨rfl, below6 HD.out.1 (by omega) _ _ _ _ _ _⟩
set_option maxRecDepth 100000 in
set_option maxHeartbeats 800000 in
theorem pof_ww_wh_4 (W H ww wh : Int) (w : World) (hw : sideB W = true) (hh : sideB H = true) (hz : wantE 4 ww wh (sideB ww) (sideB wh) = 0) (m1 : ww ≤ W) (m2 : wh ≤ H) :
    Calls Try.prog 14 #[.int .i64 W, .int .i64 H, .agg #[.int .i64 4, .int .i64 ww, .int .i64 wh]] w fun e w' => e = .returned (.tuple #[cutV 0 0 W H (scl W wh H) wh, .int .i64 0]) ∧ Below w.heap.size w w' := by
  have H1 := Lib.hid (fun wX => rSide_any W wX)
  have H2 := Lib.hid (fun wX => rSide_any H wX)
  rw [hw] at H1
  rw [hh] at H2
  obtain ⟨b1, b2, b3, b4, -, k1, k2⟩ := wantE_in hz
  obtain ⟨d1, d2⟩ := sideB_inv hw
  obtain ⟨d3, d4⟩ := sideB_inv hh
  have hb : sideB wh = true := sideB_true (k2 (by decide)) (by omega)
  have H4 := Lib.hid (fun wX => rSide_any wh wX)
  rw [hb] at H4
  have hzz : ww = 0 := wantE_4 hz
  subst hzz
  have H6 := Lib.hid (fun wX p1 h1 h2 h3 => by2_any wh W H p1 w.heap.size (w.heap.size + 1) wX d1 d2 d3 d4 (by omega) (by omega) h1 h2 h3)
  obtain ⟨s1, hs1⟩ : ∃ s1, scl H 0 W = s1 := ⟨_, rfl⟩
  obtain ⟨s2, hs2⟩ : ∃ s2, scl W wh H = s2 := ⟨_, rfl⟩
  simp only [hs1] at *
  simp only [hs2] at *
  clear hw hh hz hs1 hs2 b1 b2 b3 b4 k1 k2 d1 d2 d3 d4 hb
  go_enter Try.func14, Try.ntmps14
  go_wp2_with fail
  refine (H1.out _).mono ?_
  rintro e w' ⟨rfl, rfl⟩
  go_wp2_with fail
  refine (H2.out _).mono ?_
  rintro e w' ⟨rfl, rfl⟩
  go_wp2_with fail
  go_quiet (fail)
  have hfour := four w (.cells #[.int .i64 W] 3) (.cells #[.int .i64 H] 3) (.cells #[.int .i64 4, .int .i64 0, .int .i64 wh] 34) (.cells (ints6 0 0 0 0 0 0) 36) nq
  unfold ints6 at hfour
  generalize ((((w.alloc (.cells #[.int .i64 W] 3)).alloc (.cells #[.int .i64 H] 3)).alloc (.cells #[.int .i64 4, .int .i64 0, .int .i64 wh] 34)).alloc (.cells #[.int .i64 0, .int .i64 0, .int .i64 0, .int .i64 0, .int .i64 0, .int .i64 0] 36)).drewN nq = w1 at hfour ⊢
  obtain ⟨o0, o1, o2, o3, hbs⟩ := hfour
  have e0 : w1.cell? ⟨w.heap.size, 0, none⟩ = some (.int .i64 W) := by rw [cell_of_row _ _ _ _ _ _ o0]; rfl
  have e1 : w1.cell? ⟨w.heap.size + 1, 0, none⟩ = some (.int .i64 H) := by rw [cell_of_row _ _ _ _ _ _ o1]; rfl
  have e2 : w1.cell? ⟨w.heap.size + 2, 0, none⟩ = some (.int .i64 4) := by rw [cell_of_row _ _ _ _ _ _ o2]; rfl
  have e3 : w1.cell? ⟨w.heap.size + 2, 1, none⟩ = some (.int .i64 0) := by rw [cell_of_row _ _ _ _ _ _ o2]; rfl
  have e4 : w1.cell? ⟨w.heap.size + 2, 2, none⟩ = some (.int .i64 wh) := by rw [cell_of_row _ _ _ _ _ _ o2]; rfl
  have o3' : w1.heap[w.heap.size + 3]? = some (.cells (ints6 0 0 0 0 0 0) 36 (0, 0)) := o3
  obtain ⟨⟨c0, f0⟩, ⟨c1, f1⟩, ⟨c2, f2⟩, ⟨c3, f3⟩, ⟨c4, f4⟩, ⟨c5, f5⟩⟩ := six o3'
  have HC := Lib.hid (And.intro hbs o3')
  clear o0 o1 o2 o3 o3' hbs
  go_wp2_with fail
  refine (H4.out _).mono ?_
  rintro e w' ⟨rfl, rfl⟩
  go_wp2_with fail
  go_region
  have g0 : w1.drew.cell? ⟨w.heap.size, 0, none⟩ = some (.int .i64 W) := e0
  have g1 : w1.drew.cell? ⟨w.heap.size + 1, 0, none⟩ = some (.int .i64 H) := e1
  have g2 : w1.drew.cell? ⟨w.heap.size + 2, 0, none⟩ = some (.int .i64 4) := e2
  have g6 : w1.drew.heap[w.heap.size + 3]? = some (.cells (ints6 0 0 0 0 0 0) 36 (0, 0)) := HC.out.2
  have g7 := HC.out.1.drew
  clear e0 e1 e2 e3 e4 c0 f0 c1 f1 c2 f2 c3 f3 c4 f4 c5 f5 HC
  generalize w1.drew = w2 at g0 g1 g2 g6 g7 ⊢
  have HC := Lib.hid (And.intro g7 g6)
  have hlt := lt_block g6
  obtain ⟨wA, hwA⟩ : ∃ wA, w2.alloc (.cells #[.int .i64 0, .int .i64 0, .int .i64 W, .int .i64 H, .int .i64 0, .int .i64 0] 36) = wA := ⟨_, rfl⟩
  have ha2 : Below w2.heap.size w2 wA := by rw [← hwA]; exact (Below.refl _ w2).alloc (Nat.le_refl _) _
  have hA0 : wA.cell? ⟨w.heap.size, 0, none⟩ = some (.int .i64 W) := (ha2.cell (p := ⟨w.heap.size, 0, none⟩) (by show w.heap.size < _; omega)).trans g0
  have hA1 : wA.cell? ⟨w.heap.size + 1, 0, none⟩ = some (.int .i64 H) := (ha2.cell (p := ⟨w.heap.size + 1, 0, none⟩) (by show w.heap.size + 1 < _; omega)).trans g1
  have hA2 : wA.heap[w2.heap.size]? = some (.cells (ints6 0 0 W H 0 0) 36 (0, 0)) := by rw [← hwA]; exact heap_alloc_new _ _
  have hA3 : wA.cell? ⟨w.heap.size + 2, 0, none⟩ = some (.int .i64 4) := (ha2.cell (p := ⟨w.heap.size + 2, 0, none⟩) (by show w.heap.size + 2 < _; omega)).trans g2
  have hAz : wA.heap.size = w2.heap.size + 1 := by rw [← hwA]; simp
  have HA := Lib.hid (And.intro hA0 (And.intro hA1 (And.intro hA2 (And.intro hAz ha2))))
  have HL := Lib.hid hlt
  have HWA := Lib.hid hwA
  have j0 : w.heap.size < w2.heap.size := by omega
  have j1 : w.heap.size + 1 < w2.heap.size := by omega
  have j2 : w.heap.size + 2 < w2.heap.size := by omega
  clear g6 g7 hA0 hA1 hA2 hAz ha2 hwA
  go_wp2_with fail
  have hwA := HWA.out
  rw [hwA]
  clear hwA g0 g1 g2 j0 j1 j2 hlt
  refine (H6.out wA _ HA.out.2.2.1 HA.out.1 HA.out.2.1).mono ?_
  rintro e w3 ⟨rfl, hb3⟩
  unfold cutV
  have hbz : Below w2.heap.size w2 w3 := HA.out.2.2.2.2.trans (hb3.mono (by rw [HA.out.2.2.2.1]; exact Nat.le_succ _))
  clear hb3
  have hc3 : w3.heap[w.heap.size + 1 + 1 + 1]? = some (.cells (ints6 0 0 0 0 0 0) 36 (0, 0)) := ((hbz).block _ HL.out).trans HC.out.2
  have hb3 : Below w.heap.size w w3 := HC.out.1.trans ((hbz).mono (by have := HL.out; omega))
  obtain ⟨⟨c0, f0⟩, ⟨c1, f1⟩, ⟨c2, f2⟩, ⟨c3, f3⟩, ⟨c4, f4⟩, ⟨c5, f5⟩⟩ := six hc3
  have HD := Lib.hid (And.intro hb3 hc3)
  clear hc3 hb3
  go_wp2_with fail
  exact bodyPost_ret (planRes rfl _ _ (w.heap.size + 1 + 1 + 1) _ _ _ _ (by simp) rfl (set6 HD.out.2 0 0 W H s2 wh) rfl) rfl ⟨rfl, below6 HD.out.1 (by omega) _ _ _ _ _ _⟩
set_option maxRecDepth 100000 in
set_option maxHeartbeats 800000 in
theorem pof_ww_wh_1b (W H ww wh : Int) (w : World) (hw : sideB W = true) (hh : sideB H = true) (hz : wantE 1 ww wh (sideB ww) (sideB wh) = 0) (m1 : ww ≤ W) (m2 : wh ≤ H) (hs : scl H ww W ≤ wh) :
    Calls Try.prog 14 #[.int .i64 W, .int .i64 H, .agg #[.int .i64 1, .int .i64 ww, .int .i64 wh]] w fun e w' => e = .returned (.tuple #[cutV 0 0 W H ww (scl H ww W), .int .i64 0]) ∧ Below w.heap.size w w' := by
  have H1 := Lib.hid (fun wX => rSide_any W wX)
  have H2 := Lib.hid (fun wX => rSide_any H wX)
  rw [hw] at H1
  rw [hh] at H2
  obtain ⟨b1, b2, b3, b4, -, k1, k2⟩ := wantE_in hz
  obtain ⟨d1, d2⟩ := sideB_inv hw
  obtain ⟨d3, d4⟩ := sideB_inv hh
  have ha : sideB ww = true := sideB_true (k1 (by decide)) (by omega)
  have H3 := Lib.hid (fun wX => rSide_any ww wX)
  rw [ha] at H3
  have hb : sideB wh = true := sideB_true (k2 (by decide)) (by omega)
  have H4 := Lib.hid (fun wX => rSide_any wh wX)
  rw [hb] at H4
  have H5 := Lib.hid (fun wX p1 h1 h2 h3 => by1_any ww W H p1 (w.heap.size + 1) w.heap.size wX d1 d2 d3 d4 (by omega) (by omega) h1 h2 h3)
  obtain ⟨s1, hs1⟩ : ∃ s1, scl H ww W = s1 := ⟨_, rfl⟩
  obtain ⟨s2, hs2⟩ : ∃ s2, scl W wh H = s2 := ⟨_, rfl⟩
  simp only [hs1] at *
  simp only [hs2] at *
  clear hw hh hz hs1 hs2 b1 b2 b3 b4 k1 k2 d1 d2 d3 d4 ha hb
  go_enter Try.func14, Try.ntmps14
  go_wp2_with fail
  refine (H1.out _).mono ?_
  rintro e w' ⟨rfl, rfl⟩
  go_wp2_with fail
  refine (H2.out _).mono ?_
  rintro e w' ⟨rfl, rfl⟩
  go_wp2_with fail
  go_quiet (fail)
  have hfour := four w (.cells #[.int .i64 W] 3) (.cells #[.int .i64 H] 3) (.cells #[.int .i64 1, .int .i64 ww, .int .i64 wh] 34) (.cells (ints6 0 0 0 0 0 0) 36) nq
  unfold ints6 at hfour
  generalize ((((w.alloc (.cells #[.int .i64 W] 3)).alloc (.cells #[.int .i64 H] 3)).alloc (.cells #[.int .i64 1, .int .i64 ww, .int .i64 wh] 34)).alloc (.cells #[.int .i64 0, .int .i64 0, .int .i64 0, .int .i64 0, .int .i64 0, .int .i64 0] 36)).drewN nq = w1 at hfour ⊢
  obtain ⟨o0, o1, o2, o3, hbs⟩ := hfour
  have e0 : w1.cell? ⟨w.heap.size, 0, none⟩ = some (.int .i64 W) := by rw [cell_of_row _ _ _ _ _ _ o0]; rfl
  have e1 : w1.cell? ⟨w.heap.size + 1, 0, none⟩ = some (.int .i64 H) := by rw [cell_of_row _ _ _ _ _ _ o1]; rfl
  have e2 : w1.cell? ⟨w.heap.size + 2, 0, none⟩ = some (.int .i64 1) := by rw [cell_of_row _ _ _ _ _ _ o2]; rfl
  have e3 : w1.cell? ⟨w.heap.size + 2, 1, none⟩ = some (.int .i64 ww) := by rw [cell_of_row _ _ _ _ _ _ o2]; rfl
  have e4 : w1.cell? ⟨w.heap.size + 2, 2, none⟩ = some (.int .i64 wh) := by rw [cell_of_row _ _ _ _ _ _ o2]; rfl
  have o3' : w1.heap[w.heap.size + 3]? = some (.cells (ints6 0 0 0 0 0 0) 36 (0, 0)) := o3
  obtain ⟨⟨c0, f0⟩, ⟨c1, f1⟩, ⟨c2, f2⟩, ⟨c3, f3⟩, ⟨c4, f4⟩, ⟨c5, f5⟩⟩ := six o3'
  have HC := Lib.hid (And.intro hbs o3')
  clear o0 o1 o2 o3 o3' hbs
  go_wp2_with fail
  refine (H3.out _).mono ?_
  rintro e w' ⟨rfl, rfl⟩
  go_wp2_with fail
  refine (H4.out _).mono ?_
  rintro e w' ⟨rfl, rfl⟩
  go_wp2_with fail
  go_region
  have g0 : w1.drew.cell? ⟨w.heap.size, 0, none⟩ = some (.int .i64 W) := e0
  have g1 : w1.drew.cell? ⟨w.heap.size + 1, 0, none⟩ = some (.int .i64 H) := e1
  have g2 : w1.drew.cell? ⟨w.heap.size + 2, 0, none⟩ = some (.int .i64 1) := e2
  have g6 : w1.drew.heap[w.heap.size + 3]? = some (.cells (ints6 0 0 0 0 0 0) 36 (0, 0)) := HC.out.2
  have g7 := HC.out.1.drew
  clear e0 e1 e2 e3 e4 c0 f0 c1 f1 c2 f2 c3 f3 c4 f4 c5 f5 HC
  generalize w1.drew = w2 at g0 g1 g2 g6 g7 ⊢
  have HC := Lib.hid (And.intro g7 g6)
  have hlt := lt_block g6
  obtain ⟨wA, hwA⟩ : ∃ wA, w2.alloc (.cells #[.int .i64 0, .int .i64 0, .int .i64 W, .int .i64 H, .int .i64 0, .int .i64 0] 36) = wA := ⟨_, rfl⟩
  have ha2 : Below w2.heap.size w2 wA := by rw [← hwA]; exact (Below.refl _ w2).alloc (Nat.le_refl _) _
  have hA0 : wA.cell? ⟨w.heap.size, 0, none⟩ = some (.int .i64 W) := (ha2.cell (p := ⟨w.heap.size, 0, none⟩) (by show w.heap.size < _; omega)).trans g0
  have hA1 : wA.cell? ⟨w.heap.size + 1, 0, none⟩ = some (.int .i64 H) := (ha2.cell (p := ⟨w.heap.size + 1, 0, none⟩) (by show w.heap.size + 1 < _; omega)).trans g1
  have hA2 : wA.heap[w2.heap.size]? = some (.cells (ints6 0 0 W H 0 0) 36 (0, 0)) := by rw [← hwA]; exact heap_alloc_new _ _
  have hA3 : wA.cell? ⟨w.heap.size + 2, 0, none⟩ = some (.int .i64 1) := (ha2.cell (p := ⟨w.heap.size + 2, 0, none⟩) (by show w.heap.size + 2 < _; omega)).trans g2
  have hAz : wA.heap.size = w2.heap.size + 1 := by rw [← hwA]; simp
  have HA := Lib.hid (And.intro hA0 (And.intro hA1 (And.intro hA2 (And.intro hAz ha2))))
  have HL := Lib.hid hlt
  have HWA := Lib.hid hwA
  have j0 : w.heap.size < w2.heap.size := by omega
  have j1 : w.heap.size + 1 < w2.heap.size := by omega
  have j2 : w.heap.size + 2 < w2.heap.size := by omega
  clear g6 g7 hA0 hA1 hA2 hAz ha2 hwA
  go_wp2_with fail
  have hwA := HWA.out
  rw [hwA]
  clear hwA g0 g1 g2 j0 j1 j2 hlt
  refine (H5.out wA _ HA.out.2.2.1 HA.out.2.1 HA.out.1).mono ?_
  rintro e w3 ⟨rfl, hb3⟩
  unfold cutV
  have hbz : Below w2.heap.size w2 w3 := HA.out.2.2.2.2.trans (hb3.mono (by rw [HA.out.2.2.2.1]; exact Nat.le_succ _))
  have hx1 : w3.cell? ⟨w.heap.size, 0, none⟩ = some (.int .i64 W) := (hb3.cell (p := ⟨w.heap.size, 0, none⟩) (by show w.heap.size < _; have := HL.out; have := HA.out.2.2.2.1; omega)).trans HA.out.1
  have hx2 : w3.cell? ⟨w.heap.size + 1, 0, none⟩ = some (.int .i64 H) := (hb3.cell (p := ⟨w.heap.size + 1, 0, none⟩) (by show w.heap.size + 1 < _; have := HL.out; have := HA.out.2.2.2.1; omega)).trans HA.out.2.1
  have hx3 : w3.heap[w2.heap.size]? = some (.cells (ints6 0 0 W H 0 0) 36 (0, 0)) := (hb3.block _ (by rw [HA.out.2.2.2.1]; exact Nat.lt_succ_self _)).trans HA.out.2.2.1
  have HX := Lib.hid (And.intro hx1 (And.intro hx2 hx3))
  clear hb3 hx1 hx2 hx3
  obtain ⟨wB, hwB⟩ : ∃ wB, w3.alloc (.cells #[.int .i64 0, .int .i64 0, .int .i64 W, .int .i64 H, .int .i64 ww, .int .i64 s1] 36) = wB := ⟨_, rfl⟩
  have hB0 : Below w3.heap.size w3 wB := by rw [← hwB]; exact (Below.refl _ w3).alloc (Nat.le_refl _) _
  have hB1 : wB.heap[w3.heap.size]? = some (.cells (ints6 0 0 W H ww s1) 36 (0, 0)) := by rw [← hwB]; exact heap_alloc_new _ _
  have hBz : wB.heap.size = w3.heap.size + 1 := by rw [← hwB]; simp
  have hBb : Below w2.heap.size w2 wB := hbz.trans (hB0.mono hbz.size)
  have hcz : w3.heap[w.heap.size + 1 + 1 + 1]? = some (.cells (ints6 0 0 0 0 0 0) 36 (0, 0)) := (hbz.block _ HL.out).trans HC.out.2
  have hl3 : w.heap.size + 1 + 1 + 1 < w3.heap.size := lt_block hcz
  obtain ⟨⟨c0, f0⟩, ⟨c1, f1⟩, ⟨c2, f2⟩, ⟨c3, f3⟩, ⟨c4, f4⟩, ⟨c5, f5⟩⟩ := six hcz
  have hbB : Below w.heap.size w w3 := HC.out.1.trans (hbz.mono (by have := HL.out; omega))
  have h6 := set6 hcz 0 0 W H ww s1
  have h7 := below6 hbB (by omega : w.heap.size ≤ w.heap.size + 1 + 1 + 1) (.int .i64 0) (.int .i64 0) (.int .i64 W) (.int .i64 H) (.int .i64 ww) (.int .i64 s1)
  have HD := Lib.hid (And.intro h7 h6)
  clear hB0 hB1 hBz hBb hbz hwB hcz hbB h6 h7
  go_wp2_with fail
  exact bodyPost_ret (planRes rfl _ _ (w.heap.size + 1 + 1 + 1) _ _ _ _ (by simp) rfl ((Below.heap_alloc _ _ _ (lt_block HD.out.2)).trans HD.out.2) rfl) rfl ⟨rfl, HD.out.1.alloc HD.out.1.size _⟩
set_option maxRecDepth 100000 in
set_option maxHeartbeats 800000 in
theorem pof_ww_wh_1a (W H ww wh : Int) (w : World) (hw : sideB W = true) (hh : sideB H = true) (hz : wantE 1 ww wh (sideB ww) (sideB wh) = 0) (m1 : ww ≤ W) (m2 : wh ≤ H) (hs : ¬ scl H ww W ≤ wh) :
    Calls Try.prog 14 #[.int .i64 W, .int .i64 H, .agg #[.int .i64 1, .int .i64 ww, .int .i64 wh]] w fun e w' => e = .returned (.tuple #[cutV 0 0 W H (scl W wh H) wh, .int .i64 0]) ∧ Below w.heap.size w w' := by
  have H1 := Lib.hid (fun wX => rSide_any W wX)
  have H2 := Lib.hid (fun wX => rSide_any H wX)
  rw [hw] at H1
  rw [hh] at H2
  obtain ⟨b1, b2, b3, b4, -, k1, k2⟩ := wantE_in hz
  obtain ⟨d1, d2⟩ := sideB_inv hw
  obtain ⟨d3, d4⟩ := sideB_inv hh
  have ha : sideB ww = true := sideB_true (k1 (by decide)) (by omega)
  have H3 := Lib.hid (fun wX => rSide_any ww wX)
  rw [ha] at H3
  have hb : sideB wh = true := sideB_true (k2 (by decide)) (by omega)
  have H4 := Lib.hid (fun wX => rSide_any wh wX)
  rw [hb] at H4
  have H5 := Lib.hid (fun wX p1 h1 h2 h3 => by1_any ww W H p1 (w.heap.size + 1) w.heap.size wX d1 d2 d3 d4 (by omega) (by omega) h1 h2 h3)
  have H6 := Lib.hid (fun wX p1 h1 h2 h3 => by2_any wh W H p1 w.heap.size (w.heap.size + 1) wX d1 d2 d3 d4 (by omega) (by omega) h1 h2 h3)
  obtain ⟨s1, hs1⟩ : ∃ s1, scl H ww W = s1 := ⟨_, rfl⟩
  obtain ⟨s2, hs2⟩ : ∃ s2, scl W wh H = s2 := ⟨_, rfl⟩
  simp only [hs1] at *
  simp only [hs2] at *
  clear hw hh hz hs1 hs2 b1 b2 b3 b4 k1 k2 d1 d2 d3 d4 ha hb
  go_enter Try.func14, Try.ntmps14
  go_wp2_with fail
  refine (H1.out _).mono ?_
  rintro e w' ⟨rfl, rfl⟩
  go_wp2_with fail
  refine (H2.out _).mono ?_
  rintro e w' ⟨rfl, rfl⟩
  go_wp2_with fail
  go_quiet (fail)
  have hfour := four w (.cells #[.int .i64 W] 3) (.cells #[.int .i64 H] 3) (.cells #[.int .i64 1, .int .i64 ww, .int .i64 wh] 34) (.cells (ints6 0 0 0 0 0 0) 36) nq
  unfold ints6 at hfour
  generalize ((((w.alloc (.cells #[.int .i64 W] 3)).alloc (.cells #[.int .i64 H] 3)).alloc (.cells #[.int .i64 1, .int .i64 ww, .int .i64 wh] 34)).alloc (.cells #[.int .i64 0, .int .i64 0, .int .i64 0, .int .i64 0, .int .i64 0, .int .i64 0] 36)).drewN nq = w1 at hfour ⊢
  obtain ⟨o0, o1, o2, o3, hbs⟩ := hfour
  have e0 : w1.cell? ⟨w.heap.size, 0, none⟩ = some (.int .i64 W) := by rw [cell_of_row _ _ _ _ _ _ o0]; rfl
  have e1 : w1.cell? ⟨w.heap.size + 1, 0, none⟩ = some (.int .i64 H) := by rw [cell_of_row _ _ _ _ _ _ o1]; rfl
  have e2 : w1.cell? ⟨w.heap.size + 2, 0, none⟩ = some (.int .i64 1) := by rw [cell_of_row _ _ _ _ _ _ o2]; rfl
  have e3 : w1.cell? ⟨w.heap.size + 2, 1, none⟩ = some (.int .i64 ww) := by rw [cell_of_row _ _ _ _ _ _ o2]; rfl
  have e4 : w1.cell? ⟨w.heap.size + 2, 2, none⟩ = some (.int .i64 wh) := by rw [cell_of_row _ _ _ _ _ _ o2]; rfl
  have o3' : w1.heap[w.heap.size + 3]? = some (.cells (ints6 0 0 0 0 0 0) 36 (0, 0)) := o3
  obtain ⟨⟨c0, f0⟩, ⟨c1, f1⟩, ⟨c2, f2⟩, ⟨c3, f3⟩, ⟨c4, f4⟩, ⟨c5, f5⟩⟩ := six o3'
  have HC := Lib.hid (And.intro hbs o3')
  clear o0 o1 o2 o3 o3' hbs
  go_wp2_with fail
  refine (H3.out _).mono ?_
  rintro e w' ⟨rfl, rfl⟩
  go_wp2_with fail
  refine (H4.out _).mono ?_
  rintro e w' ⟨rfl, rfl⟩
  go_wp2_with fail
  go_region
  have g0 : w1.drew.cell? ⟨w.heap.size, 0, none⟩ = some (.int .i64 W) := e0
  have g1 : w1.drew.cell? ⟨w.heap.size + 1, 0, none⟩ = some (.int .i64 H) := e1
  have g2 : w1.drew.cell? ⟨w.heap.size + 2, 0, none⟩ = some (.int .i64 1) := e2
  have g6 : w1.drew.heap[w.heap.size + 3]? = some (.cells (ints6 0 0 0 0 0 0) 36 (0, 0)) := HC.out.2
  have g7 := HC.out.1.drew
  clear e0 e1 e2 e3 e4 c0 f0 c1 f1 c2 f2 c3 f3 c4 f4 c5 f5 HC
  generalize w1.drew = w2 at g0 g1 g2 g6 g7 ⊢
  have HC := Lib.hid (And.intro g7 g6)
  have hlt := lt_block g6
  obtain ⟨wA, hwA⟩ : ∃ wA, w2.alloc (.cells #[.int .i64 0, .int .i64 0, .int .i64 W, .int .i64 H, .int .i64 0, .int .i64 0] 36) = wA := ⟨_, rfl⟩
  have ha2 : Below w2.heap.size w2 wA := by rw [← hwA]; exact (Below.refl _ w2).alloc (Nat.le_refl _) _
  have hA0 : wA.cell? ⟨w.heap.size, 0, none⟩ = some (.int .i64 W) := (ha2.cell (p := ⟨w.heap.size, 0, none⟩) (by show w.heap.size < _; omega)).trans g0
  have hA1 : wA.cell? ⟨w.heap.size + 1, 0, none⟩ = some (.int .i64 H) := (ha2.cell (p := ⟨w.heap.size + 1, 0, none⟩) (by show w.heap.size + 1 < _; omega)).trans g1
  have hA2 : wA.heap[w2.heap.size]? = some (.cells (ints6 0 0 W H 0 0) 36 (0, 0)) := by rw [← hwA]; exact heap_alloc_new _ _
  have hA3 : wA.cell? ⟨w.heap.size + 2, 0, none⟩ = some (.int .i64 1) := (ha2.cell (p := ⟨w.heap.size + 2, 0, none⟩) (by show w.heap.size + 2 < _; omega)).trans g2
  have hAz : wA.heap.size = w2.heap.size + 1 := by rw [← hwA]; simp
  have HA := Lib.hid (And.intro hA0 (And.intro hA1 (And.intro hA2 (And.intro hAz ha2))))
  have HL := Lib.hid hlt
  have HWA := Lib.hid hwA
  have j0 : w.heap.size < w2.heap.size := by omega
  have j1 : w.heap.size + 1 < w2.heap.size := by omega
  have j2 : w.heap.size + 2 < w2.heap.size := by omega
  clear g6 g7 hA0 hA1 hA2 hAz ha2 hwA
  go_wp2_with fail
  have hwA := HWA.out
  rw [hwA]
  clear hwA g0 g1 g2 j0 j1 j2 hlt
  refine (H5.out wA _ HA.out.2.2.1 HA.out.2.1 HA.out.1).mono ?_
  rintro e w3 ⟨rfl, hb3⟩
  unfold cutV
  have hbz : Below w2.heap.size w2 w3 := HA.out.2.2.2.2.trans (hb3.mono (by rw [HA.out.2.2.2.1]; exact Nat.le_succ _))
  have hx1 : w3.cell? ⟨w.heap.size, 0, none⟩ = some (.int .i64 W) := (hb3.cell (p := ⟨w.heap.size, 0, none⟩) (by show w.heap.size < _; have := HL.out; have := HA.out.2.2.2.1; omega)).trans HA.out.1
  have hx2 : w3.cell? ⟨w.heap.size + 1, 0, none⟩ = some (.int .i64 H) := (hb3.cell (p := ⟨w.heap.size + 1, 0, none⟩) (by show w.heap.size + 1 < _; have := HL.out; have := HA.out.2.2.2.1; omega)).trans HA.out.2.1
  have hx3 : w3.heap[w2.heap.size]? = some (.cells (ints6 0 0 W H 0 0) 36 (0, 0)) := (hb3.block _ (by rw [HA.out.2.2.2.1]; exact Nat.lt_succ_self _)).trans HA.out.2.2.1
  have HX := Lib.hid (And.intro hx1 (And.intro hx2 hx3))
  clear hb3 hx1 hx2 hx3
  obtain ⟨wB, hwB⟩ : ∃ wB, w3.alloc (.cells #[.int .i64 0, .int .i64 0, .int .i64 W, .int .i64 H, .int .i64 ww, .int .i64 s1] 36) = wB := ⟨_, rfl⟩
  have hB0 : Below w3.heap.size w3 wB := by rw [← hwB]; exact (Below.refl _ w3).alloc (Nat.le_refl _) _
  have hB1 : wB.heap[w3.heap.size]? = some (.cells (ints6 0 0 W H ww s1) 36 (0, 0)) := by rw [← hwB]; exact heap_alloc_new _ _
  have hBz : wB.heap.size = w3.heap.size + 1 := by rw [← hwB]; simp
  have hBb : Below w2.heap.size w2 wB := hbz.trans (hB0.mono hbz.size)
  have hy1 : wB.cell? ⟨w.heap.size, 0, none⟩ = some (.int .i64 W) := (hB0.cell (p := ⟨w.heap.size, 0, none⟩) (by show w.heap.size < _; have := HL.out; have := hbz.size; omega)).trans HX.out.1
  have hy2 : wB.cell? ⟨w.heap.size + 1, 0, none⟩ = some (.int .i64 H) := (hB0.cell (p := ⟨w.heap.size + 1, 0, none⟩) (by show w.heap.size + 1 < _; have := HL.out; have := hbz.size; omega)).trans HX.out.2.1
  have hy3 : wB.heap[w2.heap.size]? = some (.cells (ints6 0 0 W H 0 0) 36 (0, 0)) := (hB0.block _ (lt_block HX.out.2.2)).trans HX.out.2.2
  have HY := Lib.hid (H6.out wB _ hy3 hy1 hy2)
  have HBB := Lib.hid (And.intro hBb hBz)
  have HWB := Lib.hid hwB
  clear hy1 hy2 hy3 hB0 hB1 hBz hBb hbz H6 hwB
  go_wp2_with fail
  have hwB := HWB.out
  rw [hwB]
  clear hwB
  refine HY.out.mono ?_
  rintro e w4 ⟨rfl, hb4⟩
  unfold cutV
  have hbz : Below w2.heap.size w2 w4 := HBB.out.1.trans (hb4.mono HBB.out.1.size)
  clear hb4
  have hc3 : w4.heap[w.heap.size + 1 + 1 + 1]? = some (.cells (ints6 0 0 0 0 0 0) 36 (0, 0)) := ((hbz).block _ HL.out).trans HC.out.2
  have hb3 : Below w.heap.size w w4 := HC.out.1.trans ((hbz).mono (by have := HL.out; omega))
  obtain ⟨⟨c0, f0⟩, ⟨c1, f1⟩, ⟨c2, f2⟩, ⟨c3, f3⟩, ⟨c4, f4⟩, ⟨c5, f5⟩⟩ := six hc3
  have HD := Lib.hid (And.intro hb3 hc3)
  clear hc3 hb3
  go_wp2_with fail
  exact bodyPost_ret (planRes rfl _ _ (w.heap.size + 1 + 1 + 1) _ _ _ _ (by simp) rfl (set6 HD.out.2 0 0 W H s2 wh) rfl) rfl ⟨rfl, below6 HD.out.1 (by omega) _ _ _ _ _ _⟩
end Go.Proofs.Ytkobenohijipeaa
