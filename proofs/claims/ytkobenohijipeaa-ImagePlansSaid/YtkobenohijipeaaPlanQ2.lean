/- DERIVED. asset.Plan: the ways, one by one. No condition. -/
import Derived.Test.YtkobenohijipeaaPlanP
namespace Go.Proofs.Ytkobenohijipeaa
open Go.RowKit
set_option linter.unusedVariables false
set_option maxRecDepth 100000 in
set_option maxHeartbeats 800000 in
theorem plan_W_wh_1a (W H ww wh : Int) (w : World) (hw : sideB W = true) (hh : sideB H = true) (hz : wantE 1 ww wh (sideB ww) (sideB wh) = 0) (m1 : ¬ ww ≤ W) (m2 : wh ≤ H) (hs : wh < scl H W W) :
    Calls Try.prog 13 #[.int .i64 W, .int .i64 H, .agg #[.int .i64 1, .int .i64 ww, .int .i64 wh]] w fun e w' => e = .returned (.tuple #[cutV 0 0 W H (scl W wh H) wh, .int .i64 0]) ∧ Below w.heap.size w w' := by
  have H1 := Lib.hid (fun wX => pSide_any W wX)
  have H2 := Lib.hid (fun wX => pSide_any H wX)
  have H3 := Lib.hid (fun wX => checkWant_any 1 ww wh wX)
  obtain ⟨b1, b2, b3, b4, -, k1, k2⟩ := wantE_in hz
  obtain ⟨d1, d2⟩ := sideB_inv hw
  obtain ⟨d3, d4⟩ := sideB_inv hh
  rw [hz] at H3
  rw [hw] at H1
  rw [hh] at H2
  have H4 := Lib.hid (fun wX => scaled_any H W W wX (by omega) d4 (by omega) (by omega) d1 d2)
  have H5 := Lib.hid (fun wX => scaled_any W wh H wX (by omega) d2 (by omega) (by omega) d3 d4)
  obtain ⟨s1, hs1⟩ : ∃ s1, scl H W W = s1 := ⟨_, rfl⟩
  obtain ⟨s2, hs2⟩ : ∃ s2, scl W wh H = s2 := ⟨_, rfl⟩
  simp only [hs1] at *
  simp only [hs2] at *
  clear hw hh hz hs1 hs2 b1 b2 b3 b4 k1 k2 d1 d2 d3 d4
  go_enter Try.func13, Try.ntmps13
  go_wp2_with fail
  refine (H1.out _).mono ?_
  rintro e w' ⟨rfl, rfl⟩
  go_wp2_with fail
  refine (H2.out _).mono ?_
  rintro e w' ⟨rfl, rfl⟩
  go_wp2_with fail
  refine (H3.out _).mono ?_
  rintro e w1 ⟨rfl, hb1⟩
  have hb : Below w.heap.size w w1 := (((Below.refl _ w).alloc (Nat.le_refl _) _).alloc (by simp) _).trans (hb1.mono (by simp; omega))
  have hc : w1.heap[w.heap.size + 1]? = some (.cells (ints6 0 0 0 0 0 0) 36 (0, 0)) := (hb1.block _ (by simp)).trans (heap_alloc2_new _ _ _)
  have hd : w1.heap[w.heap.size]? = some (.cells #[.int .i64 1, .int .i64 ww, .int .i64 wh] 34 (0, 0)) := (hb1.block _ (by simp; omega)).trans (heap_alloc2_old _ _ _)
  have e0 : w1.cell? ⟨w.heap.size, 0, none⟩ = some (.int .i64 1) := by rw [cell_of_row _ _ _ _ _ _ hd]; rfl
  have e1 : w1.cell? ⟨w.heap.size, 1, none⟩ = some (.int .i64 ww) := by rw [cell_of_row _ _ _ _ _ _ hd]; rfl
  have e2 : w1.cell? ⟨w.heap.size, 2, none⟩ = some (.int .i64 wh) := by rw [cell_of_row _ _ _ _ _ _ hd]; rfl
  obtain ⟨⟨c0, f0⟩, ⟨c1, f1⟩, ⟨c2, f2⟩, ⟨c3, f3⟩, ⟨c4, f4⟩, ⟨c5, f5⟩⟩ := six hc
  have HC := Lib.hid (And.intro hb hc)
  clear hb1 hb hc hd
  go_wp2_with fail
  go_region
  go_wp2_with fail
  refine (H4.out _).mono ?_
  rintro e w' ⟨rfl, rfl⟩
  go_wp2_with fail
  refine (H5.out _).mono ?_
  rintro e w' ⟨rfl, rfl⟩
  go_wp2_with fail
  have hcd := set6 HC.out.2 0 0 W H s2 wh
  have hbd := below6 HC.out.1 (Nat.le_succ _) (.int .i64 (0)) (.int .i64 (0)) (.int .i64 (W)) (.int .i64 (H)) (.int .i64 (s2)) (.int .i64 (wh))
  revert hcd hbd
  generalize ((((((w1.setCell ⟨w.heap.size + 1, 0, none⟩ _).setCell ⟨w.heap.size + 1, 1, none⟩ _).setCell ⟨w.heap.size + 1, 2, none⟩ _).setCell ⟨w.heap.size + 1, 3, none⟩ _).setCell ⟨w.heap.size + 1, 4, none⟩ _).setCell ⟨w.heap.size + 1, 5, none⟩ _) = wz
  intro hcd hbd
  have hcd2 : wz.drew.heap[w.heap.size + 1]? = some (.cells (ints6 0 0 W H s2 wh) 36 (0, 0)) := hcd
  have hbd2 := hbd.drew
  clear hcd hbd
  generalize wz.drew = wy at hcd2 hbd2 ⊢
  exact bodyPost_ret (planRes rfl _ _ (w.heap.size + 1) _ _ _ _ (by simp) rfl hcd2 rfl) rfl ⟨rfl, hbd2⟩
set_option maxRecDepth 100000 in
set_option maxHeartbeats 800000 in
theorem plan_W_wh_1b (W H ww wh : Int) (w : World) (hw : sideB W = true) (hh : sideB H = true) (hz : wantE 1 ww wh (sideB ww) (sideB wh) = 0) (m1 : ¬ ww ≤ W) (m2 : wh ≤ H) (hs : ¬ wh < scl H W W) :
    Calls Try.prog 13 #[.int .i64 W, .int .i64 H, .agg #[.int .i64 1, .int .i64 ww, .int .i64 wh]] w fun e w' => e = .returned (.tuple #[cutV 0 0 W H W (scl H W W), .int .i64 0]) ∧ Below w.heap.size w w' := by
  have H1 := Lib.hid (fun wX => pSide_any W wX)
  have H2 := Lib.hid (fun wX => pSide_any H wX)
  have H3 := Lib.hid (fun wX => checkWant_any 1 ww wh wX)
  obtain ⟨b1, b2, b3, b4, -, k1, k2⟩ := wantE_in hz
  obtain ⟨d1, d2⟩ := sideB_inv hw
  obtain ⟨d3, d4⟩ := sideB_inv hh
  rw [hz] at H3
  rw [hw] at H1
  rw [hh] at H2
  have H4 := Lib.hid (fun wX => scaled_any H W W wX (by omega) d4 (by omega) (by omega) d1 d2)
  have H5 := Lib.hid (fun wX => scaled_any W wh H wX (by omega) d2 (by omega) (by omega) d3 d4)
  obtain ⟨s1, hs1⟩ : ∃ s1, scl H W W = s1 := ⟨_, rfl⟩
  obtain ⟨s2, hs2⟩ : ∃ s2, scl W wh H = s2 := ⟨_, rfl⟩
  simp only [hs1] at *
  simp only [hs2] at *
  clear hw hh hz hs1 hs2 b1 b2 b3 b4 k1 k2 d1 d2 d3 d4
  go_enter Try.func13, Try.ntmps13
  go_wp2_with fail
  refine (H1.out _).mono ?_
  rintro e w' ⟨rfl, rfl⟩
  go_wp2_with fail
  refine (H2.out _).mono ?_
  rintro e w' ⟨rfl, rfl⟩
  go_wp2_with fail
  refine (H3.out _).mono ?_
  rintro e w1 ⟨rfl, hb1⟩
  have hb : Below w.heap.size w w1 := (((Below.refl _ w).alloc (Nat.le_refl _) _).alloc (by simp) _).trans (hb1.mono (by simp; omega))
  have hc : w1.heap[w.heap.size + 1]? = some (.cells (ints6 0 0 0 0 0 0) 36 (0, 0)) := (hb1.block _ (by simp)).trans (heap_alloc2_new _ _ _)
  have hd : w1.heap[w.heap.size]? = some (.cells #[.int .i64 1, .int .i64 ww, .int .i64 wh] 34 (0, 0)) := (hb1.block _ (by simp; omega)).trans (heap_alloc2_old _ _ _)
  have e0 : w1.cell? ⟨w.heap.size, 0, none⟩ = some (.int .i64 1) := by rw [cell_of_row _ _ _ _ _ _ hd]; rfl
  have e1 : w1.cell? ⟨w.heap.size, 1, none⟩ = some (.int .i64 ww) := by rw [cell_of_row _ _ _ _ _ _ hd]; rfl
  have e2 : w1.cell? ⟨w.heap.size, 2, none⟩ = some (.int .i64 wh) := by rw [cell_of_row _ _ _ _ _ _ hd]; rfl
  obtain ⟨⟨c0, f0⟩, ⟨c1, f1⟩, ⟨c2, f2⟩, ⟨c3, f3⟩, ⟨c4, f4⟩, ⟨c5, f5⟩⟩ := six hc
  have HC := Lib.hid (And.intro hb hc)
  clear hb1 hb hc hd
  go_wp2_with fail
  go_region
  go_wp2_with fail
  refine (H4.out _).mono ?_
  rintro e w' ⟨rfl, rfl⟩
  go_wp2_with fail
  refine (H5.out _).mono ?_
  rintro e w' ⟨rfl, rfl⟩
  go_wp2_with fail
  have hcd := set6 HC.out.2 0 0 W H W s1
  have hbd := below6 HC.out.1 (Nat.le_succ _) (.int .i64 (0)) (.int .i64 (0)) (.int .i64 (W)) (.int .i64 (H)) (.int .i64 (W)) (.int .i64 (s1))
  revert hcd hbd
  generalize ((((((w1.setCell ⟨w.heap.size + 1, 0, none⟩ _).setCell ⟨w.heap.size + 1, 1, none⟩ _).setCell ⟨w.heap.size + 1, 2, none⟩ _).setCell ⟨w.heap.size + 1, 3, none⟩ _).setCell ⟨w.heap.size + 1, 4, none⟩ _).setCell ⟨w.heap.size + 1, 5, none⟩ _) = wz
  intro hcd hbd
  have hcd2 : wz.drew.heap[w.heap.size + 1]? = some (.cells (ints6 0 0 W H W s1) 36 (0, 0)) := hcd
  have hbd2 := hbd.drew
  clear hcd hbd
  generalize wz.drew = wy at hcd2 hbd2 ⊢
  exact bodyPost_ret (planRes rfl _ _ (w.heap.size + 1) _ _ _ _ (by simp) rfl hcd2 rfl) rfl ⟨rfl, hbd2⟩
set_option maxRecDepth 100000 in
set_option maxHeartbeats 800000 in
theorem plan_W_wh_2 (W H ww wh : Int) (w : World) (hw : sideB W = true) (hh : sideB H = true) (hz : wantE 2 ww wh (sideB ww) (sideB wh) = 0) (m1 : ¬ ww ≤ W) (m2 : wh ≤ H) :
    Calls Try.prog 13 #[.int .i64 W, .int .i64 H, .agg #[.int .i64 2, .int .i64 ww, .int .i64 wh]] w fun e w' => e = .returned (.tuple #[fillV W H W wh, .int .i64 0]) ∧ Below w.heap.size w w' := by
  have H1 := Lib.hid (fun wX => pSide_any W wX)
  have H2 := Lib.hid (fun wX => pSide_any H wX)
  have H3 := Lib.hid (fun wX => checkWant_any 2 ww wh wX)
  obtain ⟨b1, b2, b3, b4, -, k1, k2⟩ := wantE_in hz
  obtain ⟨d1, d2⟩ := sideB_inv hw
  obtain ⟨d3, d4⟩ := sideB_inv hh
  rw [hz] at H3
  rw [hw] at H1
  rw [hh] at H2
  have H4 := Lib.hid (fun wX => scaled_any H W W wX (by omega) d4 (by omega) (by omega) d1 d2)
  have H5 := Lib.hid (fun wX => scaled_any W wh H wX (by omega) d2 (by omega) (by omega) d3 d4)
  have H6 := Lib.hid (fun wX => filled_any W H W wh wX d1 d2 d3 d4 (by omega) (by omega) (by omega) (by omega))
  obtain ⟨s1, hs1⟩ : ∃ s1, scl H W W = s1 := ⟨_, rfl⟩
  obtain ⟨s2, hs2⟩ : ∃ s2, scl W wh H = s2 := ⟨_, rfl⟩
  simp only [hs1] at *
  simp only [hs2] at *
  clear hw hh hz hs1 hs2 b1 b2 b3 b4 k1 k2 d1 d2 d3 d4
  obtain ⟨x0, x1, x2, x3, x4, x5, hf⟩ : ∃ x0 x1 x2 x3 x4 x5, fillV W H W wh = cutV x0 x1 x2 x3 x4 x5 := ⟨_, _, _, _, _, _, rfl⟩
  rw [hf] at H6 ⊢
  clear hf
  go_enter Try.func13, Try.ntmps13
  go_wp2_with fail
  refine (H1.out _).mono ?_
  rintro e w' ⟨rfl, rfl⟩
  go_wp2_with fail
  refine (H2.out _).mono ?_
  rintro e w' ⟨rfl, rfl⟩
  go_wp2_with fail
  refine (H3.out _).mono ?_
  rintro e w1 ⟨rfl, hb1⟩
  have hb : Below w.heap.size w w1 := (((Below.refl _ w).alloc (Nat.le_refl _) _).alloc (by simp) _).trans (hb1.mono (by simp; omega))
  have hc : w1.heap[w.heap.size + 1]? = some (.cells (ints6 0 0 0 0 0 0) 36 (0, 0)) := (hb1.block _ (by simp)).trans (heap_alloc2_new _ _ _)
  have hd : w1.heap[w.heap.size]? = some (.cells #[.int .i64 2, .int .i64 ww, .int .i64 wh] 34 (0, 0)) := (hb1.block _ (by simp; omega)).trans (heap_alloc2_old _ _ _)
  have e0 : w1.cell? ⟨w.heap.size, 0, none⟩ = some (.int .i64 2) := by rw [cell_of_row _ _ _ _ _ _ hd]; rfl
  have e1 : w1.cell? ⟨w.heap.size, 1, none⟩ = some (.int .i64 ww) := by rw [cell_of_row _ _ _ _ _ _ hd]; rfl
  have e2 : w1.cell? ⟨w.heap.size, 2, none⟩ = some (.int .i64 wh) := by rw [cell_of_row _ _ _ _ _ _ hd]; rfl
  obtain ⟨⟨c0, f0⟩, ⟨c1, f1⟩, ⟨c2, f2⟩, ⟨c3, f3⟩, ⟨c4, f4⟩, ⟨c5, f5⟩⟩ := six hc
  have HC := Lib.hid (And.intro hb hc)
  clear hb1 hb hc hd
  go_wp2_with fail
  go_region
  go_wp2_with fail
  refine (H4.out _).mono ?_
  rintro e w' ⟨rfl, rfl⟩
  go_wp2_with fail
  refine (H5.out _).mono ?_
  rintro e w' ⟨rfl, rfl⟩
  go_wp2_with fail
  refine (H6.out _).mono ?_
  rintro e w2 ⟨rfl, hb2⟩
  unfold cutV
  have hlt : w.heap.size + 1 < w1.drew.heap.size := (Array.getElem?_eq_some_iff.1 HC.out.2).1
  have hc2 : w2.heap[w.heap.size + 1]? = some (.cells (ints6 0 0 0 0 0 0) 36 (0, 0)) := (hb2.block _ hlt).trans HC.out.2
  have hb3 := HC.out.1.drew.trans (hb2.mono HC.out.1.size)
  clear c0 f0 c1 f1 c2 f2 c3 f3 c4 f4 c5 f5 hb2 hlt
  obtain ⟨⟨c0, f0⟩, ⟨c1, f1⟩, ⟨c2, f2⟩, ⟨c3, f3⟩, ⟨c4, f4⟩, ⟨c5, f5⟩⟩ := six hc2
  have HD := Lib.hid (And.intro hb3 hc2)
  clear hc2 hb3
  go_wp2_with fail
  exact bodyPost_ret (planRes rfl _ _ (w.heap.size + 1) _ _ _ _ (by simp) rfl (set6 HD.out.2 x0 x1 x2 x3 x4 x5) rfl) rfl ⟨rfl, below6 HD.out.1 (Nat.le_succ _) _ _ _ _ _ _⟩
set_option maxRecDepth 100000 in
set_option maxHeartbeats 800000 in
theorem plan_W_wh_3 (W H ww wh : Int) (w : World) (hw : sideB W = true) (hh : sideB H = true) (hz : wantE 3 ww wh (sideB ww) (sideB wh) = 0) (m1 : ¬ ww ≤ W) (m2 : wh ≤ H) :
    Calls Try.prog 13 #[.int .i64 W, .int .i64 H, .agg #[.int .i64 3, .int .i64 ww, .int .i64 wh]] w fun e w' => e = .returned (.tuple #[cutV 0 0 W H W (scl H W W), .int .i64 0]) ∧ Below w.heap.size w w' := by
  have H1 := Lib.hid (fun wX => pSide_any W wX)
  have H2 := Lib.hid (fun wX => pSide_any H wX)
  have H3 := Lib.hid (fun wX => checkWant_any 3 ww wh wX)
  obtain ⟨b1, b2, b3, b4, -, k1, k2⟩ := wantE_in hz
  obtain ⟨d1, d2⟩ := sideB_inv hw
  obtain ⟨d3, d4⟩ := sideB_inv hh
  rw [hz] at H3
  rw [hw] at H1
  rw [hh] at H2
  have H4 := Lib.hid (fun wX => scaled_any H W W wX (by omega) d4 (by omega) (by omega) d1 d2)
  have H5 := Lib.hid (fun wX => scaled_any W wh H wX (by omega) d2 (by omega) (by omega) d3 d4)
  obtain ⟨s1, hs1⟩ : ∃ s1, scl H W W = s1 := ⟨_, rfl⟩
  obtain ⟨s2, hs2⟩ : ∃ s2, scl W wh H = s2 := ⟨_, rfl⟩
  simp only [hs1] at *
  simp only [hs2] at *
  clear hw hh hz hs1 hs2 b1 b2 b3 b4 k1 k2 d1 d2 d3 d4
  go_enter Try.func13, Try.ntmps13
  go_wp2_with fail
  refine (H1.out _).mono ?_
  rintro e w' ⟨rfl, rfl⟩
  go_wp2_with fail
  refine (H2.out _).mono ?_
  rintro e w' ⟨rfl, rfl⟩
  go_wp2_with fail
  refine (H3.out _).mono ?_
  rintro e w1 ⟨rfl, hb1⟩
  have hb : Below w.heap.size w w1 := (((Below.refl _ w).alloc (Nat.le_refl _) _).alloc (by simp) _).trans (hb1.mono (by simp; omega))
  have hc : w1.heap[w.heap.size + 1]? = some (.cells (ints6 0 0 0 0 0 0) 36 (0, 0)) := (hb1.block _ (by simp)).trans (heap_alloc2_new _ _ _)
  have hd : w1.heap[w.heap.size]? = some (.cells #[.int .i64 3, .int .i64 ww, .int .i64 wh] 34 (0, 0)) := (hb1.block _ (by simp; omega)).trans (heap_alloc2_old _ _ _)
  have e0 : w1.cell? ⟨w.heap.size, 0, none⟩ = some (.int .i64 3) := by rw [cell_of_row _ _ _ _ _ _ hd]; rfl
  have e1 : w1.cell? ⟨w.heap.size, 1, none⟩ = some (.int .i64 ww) := by rw [cell_of_row _ _ _ _ _ _ hd]; rfl
  have e2 : w1.cell? ⟨w.heap.size, 2, none⟩ = some (.int .i64 wh) := by rw [cell_of_row _ _ _ _ _ _ hd]; rfl
  obtain ⟨⟨c0, f0⟩, ⟨c1, f1⟩, ⟨c2, f2⟩, ⟨c3, f3⟩, ⟨c4, f4⟩, ⟨c5, f5⟩⟩ := six hc
  have HC := Lib.hid (And.intro hb hc)
  clear hb1 hb hc hd
  go_wp2_with fail
  go_region
  go_wp2_with fail
  refine (H4.out _).mono ?_
  rintro e w' ⟨rfl, rfl⟩
  go_wp2_with fail
  refine (H5.out _).mono ?_
  rintro e w' ⟨rfl, rfl⟩
  go_wp2_with fail
  have hcd := set6 HC.out.2 0 0 W H W s1
  have hbd := below6 HC.out.1 (Nat.le_succ _) (.int .i64 (0)) (.int .i64 (0)) (.int .i64 (W)) (.int .i64 (H)) (.int .i64 (W)) (.int .i64 (s1))
  revert hcd hbd
  generalize ((((((w1.setCell ⟨w.heap.size + 1, 0, none⟩ _).setCell ⟨w.heap.size + 1, 1, none⟩ _).setCell ⟨w.heap.size + 1, 2, none⟩ _).setCell ⟨w.heap.size + 1, 3, none⟩ _).setCell ⟨w.heap.size + 1, 4, none⟩ _).setCell ⟨w.heap.size + 1, 5, none⟩ _) = wz
  intro hcd hbd
  have hcd2 : wz.drew.heap[w.heap.size + 1]? = some (.cells (ints6 0 0 W H W s1) 36 (0, 0)) := hcd
  have hbd2 := hbd.drew
  clear hcd hbd
  generalize wz.drew = wy at hcd2 hbd2 ⊢
  exact bodyPost_ret (planRes rfl _ _ (w.heap.size + 1) _ _ _ _ (by simp) rfl hcd2 rfl) rfl ⟨rfl, hbd2⟩
set_option maxRecDepth 100000 in
set_option maxHeartbeats 800000 in
theorem plan_W_wh_4 (W H ww wh : Int) (w : World) (hw : sideB W = true) (hh : sideB H = true) (hz : wantE 4 ww wh (sideB ww) (sideB wh) = 0) (m1 : ¬ ww ≤ W) (m2 : wh ≤ H) :
    Calls Try.prog 13 #[.int .i64 W, .int .i64 H, .agg #[.int .i64 4, .int .i64 ww, .int .i64 wh]] w fun e w' => e = .returned (.tuple #[cutV 0 0 W H (scl W wh H) wh, .int .i64 0]) ∧ Below w.heap.size w w' := by
  have H1 := Lib.hid (fun wX => pSide_any W wX)
  have H2 := Lib.hid (fun wX => pSide_any H wX)
  have H3 := Lib.hid (fun wX => checkWant_any 4 ww wh wX)
  obtain ⟨b1, b2, b3, b4, -, k1, k2⟩ := wantE_in hz
  obtain ⟨d1, d2⟩ := sideB_inv hw
  obtain ⟨d3, d4⟩ := sideB_inv hh
  rw [hz] at H3
  rw [hw] at H1
  rw [hh] at H2
  have H4 := Lib.hid (fun wX => scaled_any H W W wX (by omega) d4 (by omega) (by omega) d1 d2)
  have H5 := Lib.hid (fun wX => scaled_any W wh H wX (by omega) d2 (by omega) (by omega) d3 d4)
  obtain ⟨s1, hs1⟩ : ∃ s1, scl H W W = s1 := ⟨_, rfl⟩
  obtain ⟨s2, hs2⟩ : ∃ s2, scl W wh H = s2 := ⟨_, rfl⟩
  simp only [hs1] at *
  simp only [hs2] at *
  clear hw hh hz hs1 hs2 b1 b2 b3 b4 k1 k2 d1 d2 d3 d4
  go_enter Try.func13, Try.ntmps13
  go_wp2_with fail
  refine (H1.out _).mono ?_
  rintro e w' ⟨rfl, rfl⟩
  go_wp2_with fail
  refine (H2.out _).mono ?_
  rintro e w' ⟨rfl, rfl⟩
  go_wp2_with fail
  refine (H3.out _).mono ?_
  rintro e w1 ⟨rfl, hb1⟩
  have hb : Below w.heap.size w w1 := (((Below.refl _ w).alloc (Nat.le_refl _) _).alloc (by simp) _).trans (hb1.mono (by simp; omega))
  have hc : w1.heap[w.heap.size + 1]? = some (.cells (ints6 0 0 0 0 0 0) 36 (0, 0)) := (hb1.block _ (by simp)).trans (heap_alloc2_new _ _ _)
  have hd : w1.heap[w.heap.size]? = some (.cells #[.int .i64 4, .int .i64 ww, .int .i64 wh] 34 (0, 0)) := (hb1.block _ (by simp; omega)).trans (heap_alloc2_old _ _ _)
  have e0 : w1.cell? ⟨w.heap.size, 0, none⟩ = some (.int .i64 4) := by rw [cell_of_row _ _ _ _ _ _ hd]; rfl
  have e1 : w1.cell? ⟨w.heap.size, 1, none⟩ = some (.int .i64 ww) := by rw [cell_of_row _ _ _ _ _ _ hd]; rfl
  have e2 : w1.cell? ⟨w.heap.size, 2, none⟩ = some (.int .i64 wh) := by rw [cell_of_row _ _ _ _ _ _ hd]; rfl
  obtain ⟨⟨c0, f0⟩, ⟨c1, f1⟩, ⟨c2, f2⟩, ⟨c3, f3⟩, ⟨c4, f4⟩, ⟨c5, f5⟩⟩ := six hc
  have HC := Lib.hid (And.intro hb hc)
  clear hb1 hb hc hd
  go_wp2_with fail
  go_region
  go_wp2_with fail
  refine (H4.out _).mono ?_
  rintro e w' ⟨rfl, rfl⟩
  go_wp2_with fail
  refine (H5.out _).mono ?_
  rintro e w' ⟨rfl, rfl⟩
  go_wp2_with fail
  have hcd := set6 HC.out.2 0 0 W H s2 wh
  have hbd := below6 HC.out.1 (Nat.le_succ _) (.int .i64 (0)) (.int .i64 (0)) (.int .i64 (W)) (.int .i64 (H)) (.int .i64 (s2)) (.int .i64 (wh))
  revert hcd hbd
  generalize ((((((w1.setCell ⟨w.heap.size + 1, 0, none⟩ _).setCell ⟨w.heap.size + 1, 1, none⟩ _).setCell ⟨w.heap.size + 1, 2, none⟩ _).setCell ⟨w.heap.size + 1, 3, none⟩ _).setCell ⟨w.heap.size + 1, 4, none⟩ _).setCell ⟨w.heap.size + 1, 5, none⟩ _) = wz
  intro hcd hbd
  have hcd2 : wz.drew.heap[w.heap.size + 1]? = some (.cells (ints6 0 0 W H s2 wh) 36 (0, 0)) := hcd
  have hbd2 := hbd.drew
  clear hcd hbd
  generalize wz.drew = wy at hcd2 hbd2 ⊢
  exact bodyPost_ret (planRes rfl _ _ (w.heap.size + 1) _ _ _ _ (by simp) rfl hcd2 rfl) rfl ⟨rfl, hbd2⟩
end Go.Proofs.Ytkobenohijipeaa
