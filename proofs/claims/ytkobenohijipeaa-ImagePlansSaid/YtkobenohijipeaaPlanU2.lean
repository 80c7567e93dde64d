/- DERIVED. The reference's PlanOf: the part in the middle. No condition. -/
import Derived.Test.YtkobenohijipeaaPlanO
namespace Go.Proofs.Ytkobenohijipeaa
open Go.RowKit
set_option linter.unusedVariables false
theorem tail2_2 (w : World) (A B : Obj) : ((w.alloc A).alloc B).drew.heap[w.heap.size + 1]? = some B ∧ Below w.heap.size w ((w.alloc A).alloc B).drew :=
  ⟨heap_alloc2_new w A B, (((Below.refl _ w).alloc (Nat.le_refl _) _).alloc (by simp) _).drew⟩
set_option maxRecDepth 100000 in
set_option maxHeartbeats 1600000 in
theorem pof_W_wh_2a1 (W H ww wh : Int) (w : World) (hw : sideB W = true) (hh : sideB H = true) (hz : wantE 2 ww wh (sideB ww) (sideB wh) = 0) (m1 : ¬ ww ≤ W) (m2 : wh ≤ H) (hs : H * W < W * wh) (hm : 1 < H * W / wh) :
    Calls Try.prog 14 #[.int .i64 W, .int .i64 H, .agg #[.int .i64 2, .int .i64 ww, .int .i64 wh]] w fun e w' => e = .returned (.tuple #[fillV W H W wh, .int .i64 0]) ∧ Below w.heap.size w w' := by
  have H1 := Lib.hid (fun wX => rSide_any W wX)
  have H2 := Lib.hid (fun wX => rSide_any H wX)
  rw [hw] at H1
  rw [hh] at H2
  obtain ⟨b1, b2, b3, b4, -, k1, k2⟩ := wantE_in hz
  obtain ⟨d1, d2⟩ := sideB_inv hw
  obtain ⟨d3, d4⟩ := sideB_inv hh
  have k1 := k1 (by decide)
  have k2 := k2 (by decide)
  have ha : sideB ww = true := sideB_true k1 (by omega)
  have hb : sideB wh = true := sideB_true k2 (by omega)
  have H3 := Lib.hid (fun wX => rSide_any ww wX)
  rw [ha] at H3
  have H4 := Lib.hid (fun wX => rSide_any wh wX)
  rw [hb] at H4
  have ka : 1 ≤ W := by omega
  have ka2 : W ≤ 64 := by omega
  have kb : 1 ≤ wh := by omega
  have kb2 : wh ≤ 64 := by omega
  obtain ⟨p1, p2⟩ := prod_le (a := W) (b := wh) (by omega) (by omega) d2 kb2
  obtain ⟨r1, r2⟩ := prod_le (a := H) (b := W) (by omega) (by omega) d4 ka2
  obtain ⟨q1, q2⟩ := quo_le kb r1 (by omega : H * W ≤ W * wh)
  have hv : ∀ c, max 1 (H * W / wh) = c → fillV W H W wh = cutV ((W - c) / 2) ((H - H) / 2) c H W wh := by
    rintro c rfl
    unfold fillV fillW fillH
    rw [if_pos hs, if_pos hs]
  have HV := Lib.hid hv
  clear hv hw hh hz b1 b2 b3 b4 ha hb
  go_enter Try.func14, Try.ntmps14
  go_wp2_with fail
  refine (H1.out _).mono ?_
  rintro e w' ⟨rfl, rfl⟩
  go_wp2_with fail
  refine (H2.out _).mono ?_
  rintro e w' ⟨rfl, rfl⟩
  go_wp2_with fail
  go_quiet (fail)
  have hfour := four w (.cells #[.int .i64 W] 3) (.cells #[.int .i64 H] 3) (.cells #[.int .i64 2, .int .i64 ww, .int .i64 wh] 34) (.cells (ints6 0 0 0 0 0 0) 36) nq
  unfold ints6 at hfour
  generalize ((((w.alloc (.cells #[.int .i64 W] 3)).alloc (.cells #[.int .i64 H] 3)).alloc (.cells #[.int .i64 2, .int .i64 ww, .int .i64 wh] 34)).alloc (.cells #[.int .i64 0, .int .i64 0, .int .i64 0, .int .i64 0, .int .i64 0, .int .i64 0] 36)).drewN nq = w1 at hfour ⊢
  obtain ⟨o0, o1, o2, o3, hbs⟩ := hfour
  have e0 : w1.cell? ⟨w.heap.size, 0, none⟩ = some (.int .i64 W) := by rw [cell_of_row _ _ _ _ _ _ o0]; rfl
  have e1 : w1.cell? ⟨w.heap.size + 1, 0, none⟩ = some (.int .i64 H) := by rw [cell_of_row _ _ _ _ _ _ o1]; rfl
  have e2 : w1.cell? ⟨w.heap.size + 2, 0, none⟩ = some (.int .i64 2) := by rw [cell_of_row _ _ _ _ _ _ o2]; rfl
  have e3 : w1.cell? ⟨w.heap.size + 2, 1, none⟩ = some (.int .i64 ww) := by rw [cell_of_row _ _ _ _ _ _ o2]; rfl
  have e4 : w1.cell? ⟨w.heap.size + 2, 2, none⟩ = some (.int .i64 wh) := by rw [cell_of_row _ _ _ _ _ _ o2]; rfl
  have o3' : w1.heap[w.heap.size + 3]? = some (.cells (ints6 0 0 0 0 0 0) 36 (0, 0)) := o3
  obtain ⟨⟨c0, f0⟩, ⟨c1, f1⟩, ⟨c2, f2⟩, ⟨c3, f3⟩, ⟨c4, f4⟩, ⟨c5, f5⟩⟩ := six o3'
  have HC := Lib.hid (And.intro hbs o3')
  clear o0 o1 o2 o3 o3' hbs
  go_wp2_with fail
  refine (H3.out _).mono ?_
  rintro e w' ⟨rfl, rfl⟩
  go_wp2_with fail
  refine (H4.out _).mono ?_
  rintro e w' ⟨rfl, rfl⟩
  go_wp2_with fail
  go_region
  have g0 : w1.drew.cell? ⟨w.heap.size, 0, none⟩ = some (.int .i64 W) := e0
  have g1 : w1.drew.cell? ⟨w.heap.size + 1, 0, none⟩ = some (.int .i64 H) := e1
  have g2 : w1.drew.cell? ⟨w.heap.size + 2, 0, none⟩ = some (.int .i64 2) := e2
  have g6 : w1.drew.heap[w.heap.size + 1 + 1 + 1]? = some (.cells (ints6 0 0 0 0 0 0) 36 (0, 0)) := HC.out.2
  have g7 := HC.out.1.drew
  clear e0 e1 e2 e3 e4 c0 f0 c1 f1 c2 f2 c3 f3 c4 f4 c5 f5 HC
  generalize w1.drew = w2 at g0 g1 g2 g6 g7 ⊢
  obtain ⟨⟨c0, f0⟩, ⟨c1, f1⟩, ⟨c2, f2⟩, ⟨c3, f3⟩, ⟨c4, f4⟩, ⟨c5, f5⟩⟩ := six g6
  have HC := Lib.hid (And.intro g7 g6)
  have hlt := lt_block g6
  have j0 : w.heap.size < w2.heap.size := by omega
  have j1 : w.heap.size + 1 < w2.heap.size := by omega
  have j2 : w.heap.size + 2 < w2.heap.size := by omega
  clear g6 g7
  go_wp2_with fail
  go_region
  go_wp2_with fail
  have hle : w.heap.size ≤ w.heap.size + 1 + 1 + 1 := Nat.le_add_right _ 3
  have hfin := set6 HC.out.2 ((W - H * W / wh) / 2) (0) (H * W / wh) (H) (W) (wh)
  have hbel := below6 HC.out.1 hle (.int .i64 ((W - H * W / wh) / 2)) (.int .i64 (0)) (.int .i64 (H * W / wh)) (.int .i64 (H)) (.int .i64 (W)) (.int .i64 (wh))
  exact bodyPost_ret (planRes rfl _ _ (w.heap.size + 1 + 1 + 1) _ _ _ _ (by simp) rfl (((tail2_2 _ _ _).2.block _ (lt_block hfin)).trans hfin) rfl) rfl ⟨by rw [HV.out _ (Int.max_eq_right (Int.le_of_lt hm) : max 1 (H * W / wh) = H * W / wh)]; simp [cutV, ints6], hbel.trans ((tail2_2 _ _ _).2.mono hbel.size)⟩
set_option maxRecDepth 100000 in
set_option maxHeartbeats 1600000 in
theorem pof_W_wh_2a2 (W H ww wh : Int) (w : World) (hw : sideB W = true) (hh : sideB H = true) (hz : wantE 2 ww wh (sideB ww) (sideB wh) = 0) (m1 : ¬ ww ≤ W) (m2 : wh ≤ H) (hs : H * W < W * wh) (hm : H * W / wh ≤ 1) :
    Calls Try.prog 14 #[.int .i64 W, .int .i64 H, .agg #[.int .i64 2, .int .i64 ww, .int .i64 wh]] w fun e w' => e = .returned (.tuple #[fillV W H W wh, .int .i64 0]) ∧ Below w.heap.size w w' := by
  have H1 := Lib.hid (fun wX => rSide_any W wX)
  have H2 := Lib.hid (fun wX => rSide_any H wX)
  rw [hw] at H1
  rw [hh] at H2
  obtain ⟨b1, b2, b3, b4, -, k1, k2⟩ := wantE_in hz
  obtain ⟨d1, d2⟩ := sideB_inv hw
  obtain ⟨d3, d4⟩ := sideB_inv hh
  have k1 := k1 (by decide)
  have k2 := k2 (by decide)
  have ha : sideB ww = true := sideB_true k1 (by omega)
  have hb : sideB wh = true := sideB_true k2 (by omega)
  have H3 := Lib.hid (fun wX => rSide_any ww wX)
  rw [ha] at H3
  have H4 := Lib.hid (fun wX => rSide_any wh wX)
  rw [hb] at H4
  have ka : 1 ≤ W := by omega
  have ka2 : W ≤ 64 := by omega
  have kb : 1 ≤ wh := by omega
  have kb2 : wh ≤ 64 := by omega
  obtain ⟨p1, p2⟩ := prod_le (a := W) (b := wh) (by omega) (by omega) d2 kb2
  obtain ⟨r1, r2⟩ := prod_le (a := H) (b := W) (by omega) (by omega) d4 ka2
  obtain ⟨q1, q2⟩ := quo_le kb r1 (by omega : H * W ≤ W * wh)
  have hv : ∀ c, max 1 (H * W / wh) = c → fillV W H W wh = cutV ((W - c) / 2) ((H - H) / 2) c H W wh := by
    rintro c rfl
    unfold fillV fillW fillH
    rw [if_pos hs, if_pos hs]
  have HV := Lib.hid hv
  clear hv hw hh hz b1 b2 b3 b4 ha hb
  go_enter Try.func14, Try.ntmps14
  go_wp2_with fail
  refine (H1.out _).mono ?_
  rintro e w' ⟨rfl, rfl⟩
  go_wp2_with fail
  refine (H2.out _).mono ?_
  rintro e w' ⟨rfl, rfl⟩
  go_wp2_with fail
  go_quiet (fail)
  have hfour := four w (.cells #[.int .i64 W] 3) (.cells #[.int .i64 H] 3) (.cells #[.int .i64 2, .int .i64 ww, .int .i64 wh] 34) (.cells (ints6 0 0 0 0 0 0) 36) nq
  unfold ints6 at hfour
  generalize ((((w.alloc (.cells #[.int .i64 W] 3)).alloc (.cells #[.int .i64 H] 3)).alloc (.cells #[.int .i64 2, .int .i64 ww, .int .i64 wh] 34)).alloc (.cells #[.int .i64 0, .int .i64 0, .int .i64 0, .int .i64 0, .int .i64 0, .int .i64 0] 36)).drewN nq = w1 at hfour ⊢
  obtain ⟨o0, o1, o2, o3, hbs⟩ := hfour
  have e0 : w1.cell? ⟨w.heap.size, 0, none⟩ = some (.int .i64 W) := by rw [cell_of_row _ _ _ _ _ _ o0]; rfl
  have e1 : w1.cell? ⟨w.heap.size + 1, 0, none⟩ = some (.int .i64 H) := by rw [cell_of_row _ _ _ _ _ _ o1]; rfl
  have e2 : w1.cell? ⟨w.heap.size + 2, 0, none⟩ = some (.int .i64 2) := by rw [cell_of_row _ _ _ _ _ _ o2]; rfl
  have e3 : w1.cell? ⟨w.heap.size + 2, 1, none⟩ = some (.int .i64 ww) := by rw [cell_of_row _ _ _ _ _ _ o2]; rfl
  have e4 : w1.cell? ⟨w.heap.size + 2, 2, none⟩ = some (.int .i64 wh) := by rw [cell_of_row _ _ _ _ _ _ o2]; rfl
  have o3' : w1.heap[w.heap.size + 3]? = some (.cells (ints6 0 0 0 0 0 0) 36 (0, 0)) := o3
  obtain ⟨⟨c0, f0⟩, ⟨c1, f1⟩, ⟨c2, f2⟩, ⟨c3, f3⟩, ⟨c4, f4⟩, ⟨c5, f5⟩⟩ := six o3'
  have HC := Lib.hid (And.intro hbs o3')
  clear o0 o1 o2 o3 o3' hbs
  go_wp2_with fail
  refine (H3.out _).mono ?_
  rintro e w' ⟨rfl, rfl⟩
  go_wp2_with fail
  refine (H4.out _).mono ?_
  rintro e w' ⟨rfl, rfl⟩
  go_wp2_with fail
  go_region
  have g0 : w1.drew.cell? ⟨w.heap.size, 0, none⟩ = some (.int .i64 W) := e0
  have g1 : w1.drew.cell? ⟨w.heap.size + 1, 0, none⟩ = some (.int .i64 H) := e1
  have g2 : w1.drew.cell? ⟨w.heap.size + 2, 0, none⟩ = some (.int .i64 2) := e2
  have g6 : w1.drew.heap[w.heap.size + 1 + 1 + 1]? = some (.cells (ints6 0 0 0 0 0 0) 36 (0, 0)) := HC.out.2
  have g7 := HC.out.1.drew
  clear e0 e1 e2 e3 e4 c0 f0 c1 f1 c2 f2 c3 f3 c4 f4 c5 f5 HC
  generalize w1.drew = w2 at g0 g1 g2 g6 g7 ⊢
  obtain ⟨⟨c0, f0⟩, ⟨c1, f1⟩, ⟨c2, f2⟩, ⟨c3, f3⟩, ⟨c4, f4⟩, ⟨c5, f5⟩⟩ := six g6
  have HC := Lib.hid (And.intro g7 g6)
  have hlt := lt_block g6
  have j0 : w.heap.size < w2.heap.size := by omega
  have j1 : w.heap.size + 1 < w2.heap.size := by omega
  have j2 : w.heap.size + 2 < w2.heap.size := by omega
  clear g6 g7
  go_wp2_with fail
  go_region
  go_wp2_with fail
  have hle : w.heap.size ≤ w.heap.size + 1 + 1 + 1 := Nat.le_add_right _ 3
  have hfin := set6 HC.out.2 ((W - 1) / 2) (0) (1) (H) (W) (wh)
  have hbel := below6 HC.out.1 hle (.int .i64 ((W - 1) / 2)) (.int .i64 (0)) (.int .i64 (1)) (.int .i64 (H)) (.int .i64 (W)) (.int .i64 (wh))
  exact bodyPost_ret (planRes rfl _ _ (w.heap.size + 1 + 1 + 1) _ _ _ _ (by simp) rfl (((tail2_2 _ _ _).2.block _ (lt_block hfin)).trans hfin) rfl) rfl ⟨by rw [HV.out _ (Int.max_eq_left hm : max 1 (H * W / wh) = 1)]; simp [cutV, ints6], hbel.trans ((tail2_2 _ _ _).2.mono hbel.size)⟩
set_option maxRecDepth 100000 in
set_option maxHeartbeats 1600000 in
theorem pof_W_wh_2b1 (W H ww wh : Int) (w : World) (hw : sideB W = true) (hh : sideB H = true) (hz : wantE 2 ww wh (sideB ww) (sideB wh) = 0) (m1 : ¬ ww ≤ W) (m2 : wh ≤ H) (hs : ¬ H * W < W * wh) (hm : 1 < W * wh / W) :
    Calls Try.prog 14 #[.int .i64 W, .int .i64 H, .agg #[.int .i64 2, .int .i64 ww, .int .i64 wh]] w fun e w' => e = .returned (.tuple #[fillV W H W wh, .int .i64 0]) ∧ Below w.heap.size w w' := by
  have H1 := Lib.hid (fun wX => rSide_any W wX)
  have H2 := Lib.hid (fun wX => rSide_any H wX)
  rw [hw] at H1
  rw [hh] at H2
  obtain ⟨b1, b2, b3, b4, -, k1, k2⟩ := wantE_in hz
  obtain ⟨d1, d2⟩ := sideB_inv hw
  obtain ⟨d3, d4⟩ := sideB_inv hh
  have k1 := k1 (by decide)
  have k2 := k2 (by decide)
  have ha : sideB ww = true := sideB_true k1 (by omega)
  have hb : sideB wh = true := sideB_true k2 (by omega)
  have H3 := Lib.hid (fun wX => rSide_any ww wX)
  rw [ha] at H3
  have H4 := Lib.hid (fun wX => rSide_any wh wX)
  rw [hb] at H4
  have ka : 1 ≤ W := by omega
  have ka2 : W ≤ 64 := by omega
  have kb : 1 ≤ wh := by omega
  have kb2 : wh ≤ 64 := by omega
  obtain ⟨p1, p2⟩ := prod_le (a := W) (b := wh) (by omega) (by omega) d2 kb2
  obtain ⟨r1, r2⟩ := prod_le (a := H) (b := W) (by omega) (by omega) d4 ka2
  obtain ⟨q1, q2⟩ := quo_le ka p1 (by omega : W * wh ≤ H * W)
  have hv : ∀ c, max 1 (W * wh / W) = c → fillV W H W wh = cutV ((W - W) / 2) ((H - c) / 2) W c W wh := by
    rintro c rfl
    unfold fillV fillW fillH
    rw [if_neg hs, if_neg hs]
  have HV := Lib.hid hv
  clear hv hw hh hz b1 b2 b3 b4 ha hb
  go_enter Try.func14, Try.ntmps14
  go_wp2_with fail
  refine (H1.out _).mono ?_
  rintro e w' ⟨rfl, rfl⟩
  go_wp2_with fail
  refine (H2.out _).mono ?_
  rintro e w' ⟨rfl, rfl⟩
  go_wp2_with fail
  go_quiet (fail)
  have hfour := four w (.cells #[.int .i64 W] 3) (.cells #[.int .i64 H] 3) (.cells #[.int .i64 2, .int .i64 ww, .int .i64 wh] 34) (.cells (ints6 0 0 0 0 0 0) 36) nq
  unfold ints6 at hfour
  generalize ((((w.alloc (.cells #[.int .i64 W] 3)).alloc (.cells #[.int .i64 H] 3)).alloc (.cells #[.int .i64 2, .int .i64 ww, .int .i64 wh] 34)).alloc (.cells #[.int .i64 0, .int .i64 0, .int .i64 0, .int .i64 0, .int .i64 0, .int .i64 0] 36)).drewN nq = w1 at hfour ⊢
  obtain ⟨o0, o1, o2, o3, hbs⟩ := hfour
  have e0 : w1.cell? ⟨w.heap.size, 0, none⟩ = some (.int .i64 W) := by rw [cell_of_row _ _ _ _ _ _ o0]; rfl
  have e1 : w1.cell? ⟨w.heap.size + 1, 0, none⟩ = some (.int .i64 H) := by rw [cell_of_row _ _ _ _ _ _ o1]; rfl
  have e2 : w1.cell? ⟨w.heap.size + 2, 0, none⟩ = some (.int .i64 2) := by rw [cell_of_row _ _ _ _ _ _ o2]; rfl
  have e3 : w1.cell? ⟨w.heap.size + 2, 1, none⟩ = some (.int .i64 ww) := by rw [cell_of_row _ _ _ _ _ _ o2]; rfl
  have e4 : w1.cell? ⟨w.heap.size + 2, 2, none⟩ = some (.int .i64 wh) := by rw [cell_of_row _ _ _ _ _ _ o2]; rfl
  have o3' : w1.heap[w.heap.size + 3]? = some (.cells (ints6 0 0 0 0 0 0) 36 (0, 0)) := o3
  obtain ⟨⟨c0, f0⟩, ⟨c1, f1⟩, ⟨c2, f2⟩, ⟨c3, f3⟩, ⟨c4, f4⟩, ⟨c5, f5⟩⟩ := six o3'
  have HC := Lib.hid (And.intro hbs o3')
  clear o0 o1 o2 o3 o3' hbs
  go_wp2_with fail
  refine (H3.out _).mono ?_
  rintro e w' ⟨rfl, rfl⟩
  go_wp2_with fail
  refine (H4.out _).mono ?_
  rintro e w' ⟨rfl, rfl⟩
  go_wp2_with fail
  go_region
  have g0 : w1.drew.cell? ⟨w.heap.size, 0, none⟩ = some (.int .i64 W) := e0
  have g1 : w1.drew.cell? ⟨w.heap.size + 1, 0, none⟩ = some (.int .i64 H) := e1
  have g2 : w1.drew.cell? ⟨w.heap.size + 2, 0, none⟩ = some (.int .i64 2) := e2
  have g6 : w1.drew.heap[w.heap.size + 1 + 1 + 1]? = some (.cells (ints6 0 0 0 0 0 0) 36 (0, 0)) := HC.out.2
  have g7 := HC.out.1.drew
  clear e0 e1 e2 e3 e4 c0 f0 c1 f1 c2 f2 c3 f3 c4 f4 c5 f5 HC
  generalize w1.drew = w2 at g0 g1 g2 g6 g7 ⊢
  obtain ⟨⟨c0, f0⟩, ⟨c1, f1⟩, ⟨c2, f2⟩, ⟨c3, f3⟩, ⟨c4, f4⟩, ⟨c5, f5⟩⟩ := six g6
  have HC := Lib.hid (And.intro g7 g6)
  have hlt := lt_block g6
  have j0 : w.heap.size < w2.heap.size := by omega
  have j1 : w.heap.size + 1 < w2.heap.size := by omega
  have j2 : w.heap.size + 2 < w2.heap.size := by omega
  clear g6 g7
  go_wp2_with fail
  go_region
  go_wp2_with fail
  have hle : w.heap.size ≤ w.heap.size + 1 + 1 + 1 := Nat.le_add_right _ 3
  have hfin := set6 HC.out.2 (0) ((H - W * wh / W) / 2) (W) (W * wh / W) (W) (wh)
  have hbel := below6 HC.out.1 hle (.int .i64 (0)) (.int .i64 ((H - W * wh / W) / 2)) (.int .i64 (W)) (.int .i64 (W * wh / W)) (.int .i64 (W)) (.int .i64 (wh))
  exact bodyPost_ret (planRes rfl _ _ (w.heap.size + 1 + 1 + 1) _ _ _ _ (by simp) rfl (((tail2_2 _ _ _).2.block _ (lt_block hfin)).trans hfin) rfl) rfl ⟨by rw [HV.out _ (Int.max_eq_right (Int.le_of_lt hm) : max 1 (W * wh / W) = W * wh / W)]; simp [cutV, ints6], hbel.trans ((tail2_2 _ _ _).2.mono hbel.size)⟩
set_option maxRecDepth 100000 in
set_option maxHeartbeats 1600000 in
theorem pof_W_wh_2b2 (W H ww wh : Int) (w : World) (hw : sideB W = true) (hh : sideB H = true) (hz : wantE 2 ww wh (sideB ww) (sideB wh) = 0) (m1 : ¬ ww ≤ W) (m2 : wh ≤ H) (hs : ¬ H * W < W * wh) (hm : W * wh / W ≤ 1) :
    Calls Try.prog 14 #[.int .i64 W, .int .i64 H, .agg #[.int .i64 2, .int .i64 ww, .int .i64 wh]] w fun e w' => e = .returned (.tuple #[fillV W H W wh, .int .i64 0]) ∧ Below w.heap.size w w' := by
  have H1 := Lib.hid (fun wX => rSide_any W wX)
  have H2 := Lib.hid (fun wX => rSide_any H wX)
  rw [hw] at H1
  rw [hh] at H2
  obtain ⟨b1, b2, b3, b4, -, k1, k2⟩ := wantE_in hz
  obtain ⟨d1, d2⟩ := sideB_inv hw
  obtain ⟨d3, d4⟩ := sideB_inv hh
  have k1 := k1 (by decide)
  have k2 := k2 (by decide)
  have ha : sideB ww = true := sideB_true k1 (by omega)
  have hb : sideB wh = true := sideB_true k2 (by omega)
  have H3 := Lib.hid (fun wX => rSide_any ww wX)
  rw [ha] at H3
  have H4 := Lib.hid (fun wX => rSide_any wh wX)
  rw [hb] at H4
  have ka : 1 ≤ W := by omega
  have ka2 : W ≤ 64 := by omega
  have kb : 1 ≤ wh := by omega
  have kb2 : wh ≤ 64 := by omega
  obtain ⟨p1, p2⟩ := prod_le (a := W) (b := wh) (by omega) (by omega) d2 kb2
  obtain ⟨r1, r2⟩ := prod_le (a := H) (b := W) (by omega) (by omega) d4 ka2
  obtain ⟨q1, q2⟩ := quo_le ka p1 (by omega : W * wh ≤ H * W)
  have hv : ∀ c, max 1 (W * wh / W) = c → fillV W H W wh = cutV ((W - W) / 2) ((H - c) / 2) W c W wh := by
    rintro c rfl
    unfold fillV fillW fillH
    rw [if_neg hs, if_neg hs]
  have HV := Lib.hid hv
  clear hv hw hh hz b1 b2 b3 b4 ha hb
  go_enter Try.func14, Try.ntmps14
  go_wp2_with fail
  refine (H1.out _).mono ?_
  rintro e w' ⟨rfl, rfl⟩
  go_wp2_with fail
  refine (H2.out _).mono ?_
  rintro e w' ⟨rfl, rfl⟩
  go_wp2_with fail
  go_quiet (fail)
  have hfour := four w (.cells #[.int .i64 W] 3) (.cells #[.int .i64 H] 3) (.cells #[.int .i64 2, .int .i64 ww, .int .i64 wh] 34) (.cells (ints6 0 0 0 0 0 0) 36) nq
  unfold ints6 at hfour
  generalize ((((w.alloc (.cells #[.int .i64 W] 3)).alloc (.cells #[.int .i64 H] 3)).alloc (.cells #[.int .i64 2, .int .i64 ww, .int .i64 wh] 34)).alloc (.cells #[.int .i64 0, .int .i64 0, .int .i64 0, .int .i64 0, .int .i64 0, .int .i64 0] 36)).drewN nq = w1 at hfour ⊢
  obtain ⟨o0, o1, o2, o3, hbs⟩ := hfour
  have e0 : w1.cell? ⟨w.heap.size, 0, none⟩ = some (.int .i64 W) := by rw [cell_of_row _ _ _ _ _ _ o0]; rfl
  have e1 : w1.cell? ⟨w.heap.size + 1, 0, none⟩ = some (.int .i64 H) := by rw [cell_of_row _ _ _ _ _ _ o1]; rfl
  have e2 : w1.cell? ⟨w.heap.size + 2, 0, none⟩ = some (.int .i64 2) := by rw [cell_of_row _ _ _ _ _ _ o2]; rfl
  have e3 : w1.cell? ⟨w.heap.size + 2, 1, none⟩ = some (.int .i64 ww) := by rw [cell_of_row _ _ _ _ _ _ o2]; rfl
  have e4 : w1.cell? ⟨w.heap.size + 2, 2, none⟩ = some (.int .i64 wh) := by rw [cell_of_row _ _ _ _ _ _ o2]; rfl
  have o3' : w1.heap[w.heap.size + 3]? = some (.cells (ints6 0 0 0 0 0 0) 36 (0, 0)) := o3
  obtain ⟨⟨c0, f0⟩, ⟨c1, f1⟩, ⟨c2, f2⟩, ⟨c3, f3⟩, ⟨c4, f4⟩, ⟨c5, f5⟩⟩ := six o3'
  have HC := Lib.hid (And.intro hbs o3')
  clear o0 o1 o2 o3 o3' hbs
  go_wp2_with fail
  refine (H3.out _).mono ?_
  rintro e w' ⟨rfl, rfl⟩
  go_wp2_with fail
  refine (H4.out _).mono ?_
  rintro e w' ⟨rfl, rfl⟩
  go_wp2_with fail
  go_region
  have g0 : w1.drew.cell? ⟨w.heap.size, 0, none⟩ = some (.int .i64 W) := e0
  have g1 : w1.drew.cell? ⟨w.heap.size + 1, 0, none⟩ = some (.int .i64 H) := e1
  have g2 : w1.drew.cell? ⟨w.heap.size + 2, 0, none⟩ = some (.int .i64 2) := e2
  have g6 : w1.drew.heap[w.heap.size + 1 + 1 + 1]? = some (.cells (ints6 0 0 0 0 0 0) 36 (0, 0)) := HC.out.2
  have g7 := HC.out.1.drew
  clear e0 e1 e2 e3 e4 c0 f0 c1 f1 c2 f2 c3 f3 c4 f4 c5 f5 HC
  generalize w1.drew = w2 at g0 g1 g2 g6 g7 ⊢
  obtain ⟨⟨c0, f0⟩, ⟨c1, f1⟩, ⟨c2, f2⟩, ⟨c3, f3⟩, ⟨c4, f4⟩, ⟨c5, f5⟩⟩ := six g6
  have HC := Lib.hid (And.intro g7 g6)
  have hlt := lt_block g6
  have j0 : w.heap.size < w2.heap.size := by omega
  have j1 : w.heap.size + 1 < w2.heap.size := by omega
  have j2 : w.heap.size + 2 < w2.heap.size := by omega
  clear g6 g7
  go_wp2_with fail
  go_region
  go_wp2_with fail
  have hle : w.heap.size ≤ w.heap.size + 1 + 1 + 1 := Nat.le_add_right _ 3
  have hfin := set6 HC.out.2 (0) ((H - 1) / 2) (W) (1) (W) (wh)
  have hbel := below6 HC.out.1 hle (.int .i64 (0)) (.int .i64 ((H - 1) / 2)) (.int .i64 (W)) (.int .i64 (1)) (.int .i64 (W)) (.int .i64 (wh))
  exact bodyPost_ret (planRes rfl _ _ (w.heap.size + 1 + 1 + 1) _ _ _ _ (by simp) rfl (((tail2_2 _ _ _).2.block _ (lt_block hfin)).trans hfin) rfl) rfl ⟨by rw [HV.out _ (Int.max_eq_left hm : max 1 (W * wh / W) = 1)]; simp [cutV, ints6], hbel.trans ((tail2_2 _ _ _).2.mono hbel.size)⟩
end Go.Proofs.Ytkobenohijipeaa
