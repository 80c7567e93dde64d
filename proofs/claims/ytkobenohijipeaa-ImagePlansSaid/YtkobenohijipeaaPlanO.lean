/- DERIVED. The reference's PlanOf: its errors. No condition. -/
import Derived.Test.YtkobenohijipeaaPlanB
namespace Go.Proofs.Ytkobenohijipeaa
open Go.RowKit
set_option linter.unusedVariables false
theorem four (w : World) (A B C D : Obj) (q : Nat) : (((((w.alloc A).alloc B).alloc C).alloc D).drewN q).heap[w.heap.size]? = some A ∧ (((((w.alloc A).alloc B).alloc C).alloc D).drewN q).heap[w.heap.size + 1]? = some B ∧
    (((((w.alloc A).alloc B).alloc C).alloc D).drewN q).heap[w.heap.size + 2]? = some C ∧ (((((w.alloc A).alloc B).alloc C).alloc D).drewN q).heap[w.heap.size + 3]? = some D ∧ Below w.heap.size w (((((w.alloc A).alloc B).alloc C).alloc D).drewN q) := by
  refine ⟨?_, ?_, ?_, ?_, below_drewN (((((Below.refl _ w).alloc (Nat.le_refl _) _).alloc (by simp) _).alloc (by simp; omega) _).alloc (by simp; omega) _) q⟩
  · show ((((w.alloc A).alloc B).alloc C).alloc D).heap[w.heap.size]? = some A
    rw [heap_alloc_old _ D (by simp <;> omega), heap_alloc_old _ C (by simp <;> omega), heap_alloc_old _ B (by simp), heap_alloc_new]
  · show ((((w.alloc A).alloc B).alloc C).alloc D).heap[w.heap.size + 1]? = some B
    rw [heap_alloc_old _ D (by simp <;> omega), heap_alloc_old _ C (by simp), heap_alloc2_new]
  · show ((((w.alloc A).alloc B).alloc C).alloc D).heap[w.heap.size + 2]? = some C
    rw [heap_alloc_old _ D (by simp)]
    have := heap_alloc_new ((w.alloc A).alloc B) C
    rwa [show ((w.alloc A).alloc B).heap.size = w.heap.size + 2 by simp] at this
  · show ((((w.alloc A).alloc B).alloc C).alloc D).heap[w.heap.size + 3]? = some D
    have := heap_alloc_new (((w.alloc A).alloc B).alloc C) D
    rwa [show (((w.alloc A).alloc B).alloc C).heap.size = w.heap.size + 3 by simp] at this
set_option maxRecDepth 100000 in
set_option maxHeartbeats 400000 in
theorem pof_lo (W H y ww wh : Int) (w : World) (hw : sideB W = true) (hh : sideB H = true) (hy : y < 1) :
    Calls Try.prog 14 #[.int .i64 W, .int .i64 H, .agg #[.int .i64 y, .int .i64 ww, .int .i64 wh]] w fun e w' => e = .returned (.tuple #[cutV 0 0 0 0 0 0, .int .i64 1]) ∧ Below w.heap.size w w' := by
  have H1 := Lib.hid (fun wX => rSide_any W wX)
  have H2 := Lib.hid (fun wX => rSide_any H wX)
  rw [hw] at H1
  rw [hh] at H2
  clear hw hh
  go_enter Try.func14, Try.ntmps14
  go_wp2_with fail
  refine (H1.out _).mono ?_
  rintro e w' ⟨rfl, rfl⟩
  go_wp2_with fail
  refine (H2.out _).mono ?_
  rintro e w' ⟨rfl, rfl⟩
  go_wp2_with fail
  go_quiet (fail)
  have hfour := four w (.cells #[.int .i64 W] 3) (.cells #[.int .i64 H] 3) (.cells #[.int .i64 y, .int .i64 ww, .int .i64 wh] 34) (.cells (ints6 0 0 0 0 0 0) 36) nq
  unfold ints6 at hfour
  generalize ((((w.alloc (.cells #[.int .i64 W] 3)).alloc (.cells #[.int .i64 H] 3)).alloc (.cells #[.int .i64 y, .int .i64 ww, .int .i64 wh] 34)).alloc (.cells #[.int .i64 0, .int .i64 0, .int .i64 0, .int .i64 0, .int .i64 0, .int .i64 0] 36)).drewN nq = w1 at hfour ⊢
  obtain ⟨o0, o1, o2, o3, hbs⟩ := hfour
  have e0 : w1.cell? ⟨w.heap.size, 0, none⟩ = some (.int .i64 W) := by rw [cell_of_row _ _ _ _ _ _ o0]; rfl
  have e1 : w1.cell? ⟨w.heap.size + 1, 0, none⟩ = some (.int .i64 H) := by rw [cell_of_row _ _ _ _ _ _ o1]; rfl
  have e2 : w1.cell? ⟨w.heap.size + 2, 0, none⟩ = some (.int .i64 y) := by rw [cell_of_row _ _ _ _ _ _ o2]; rfl
  have e3 : w1.cell? ⟨w.heap.size + 2, 1, none⟩ = some (.int .i64 ww) := by rw [cell_of_row _ _ _ _ _ _ o2]; rfl
  have e4 : w1.cell? ⟨w.heap.size + 2, 2, none⟩ = some (.int .i64 wh) := by rw [cell_of_row _ _ _ _ _ _ o2]; rfl
  have o3' : w1.heap[w.heap.size + 3]? = some (.cells (ints6 0 0 0 0 0 0) 36 (0, 0)) := o3
  obtain ⟨⟨c0, f0⟩, ⟨c1, f1⟩, ⟨c2, f2⟩, ⟨c3, f3⟩, ⟨c4, f4⟩, ⟨c5, f5⟩⟩ := six o3'
  have HC := Lib.hid (And.intro hbs o3')
  clear o0 o1 o2 o3 o3' hbs
  go_wp2_with fail
  exact bodyPost_ret (planRes rfl _ _ (w.heap.size + 3) _ _ _ _ (by simp) rfl (set6 HC.out.2 0 0 0 0 0 0) rfl) rfl ⟨rfl, below6 HC.out.1 (by omega) _ _ _ _ _ _⟩
set_option maxRecDepth 100000 in
set_option maxHeartbeats 400000 in
theorem pof_hi (W H y ww wh : Int) (w : World) (hw : sideB W = true) (hh : sideB H = true) (hy : 4 < y) :
    Calls Try.prog 14 #[.int .i64 W, .int .i64 H, .agg #[.int .i64 y, .int .i64 ww, .int .i64 wh]] w fun e w' => e = .returned (.tuple #[cutV 0 0 0 0 0 0, .int .i64 1]) ∧ Below w.heap.size w w' := by
  have H1 := Lib.hid (fun wX => rSide_any W wX)
  have H2 := Lib.hid (fun wX => rSide_any H wX)
  rw [hw] at H1
  rw [hh] at H2
  clear hw hh
  go_enter Try.func14, Try.ntmps14
  go_wp2_with fail
  refine (H1.out _).mono ?_
  rintro e w' ⟨rfl, rfl⟩
  go_wp2_with fail
  refine (H2.out _).mono ?_
  rintro e w' ⟨rfl, rfl⟩
  go_wp2_with fail
  go_quiet (fail)
  have hfour := four w (.cells #[.int .i64 W] 3) (.cells #[.int .i64 H] 3) (.cells #[.int .i64 y, .int .i64 ww, .int .i64 wh] 34) (.cells (ints6 0 0 0 0 0 0) 36) nq
  unfold ints6 at hfour
  generalize ((((w.alloc (.cells #[.int .i64 W] 3)).alloc (.cells #[.int .i64 H] 3)).alloc (.cells #[.int .i64 y, .int .i64 ww, .int .i64 wh] 34)).alloc (.cells #[.int .i64 0, .int .i64 0, .int .i64 0, .int .i64 0, .int .i64 0, .int .i64 0] 36)).drewN nq = w1 at hfour ⊢
  obtain ⟨o0, o1, o2, o3, hbs⟩ := hfour
  have e0 : w1.cell? ⟨w.heap.size, 0, none⟩ = some (.int .i64 W) := by rw [cell_of_row _ _ _ _ _ _ o0]; rfl
  have e1 : w1.cell? ⟨w.heap.size + 1, 0, none⟩ = some (.int .i64 H) := by rw [cell_of_row _ _ _ _ _ _ o1]; rfl
  have e2 : w1.cell? ⟨w.heap.size + 2, 0, none⟩ = some (.int .i64 y) := by rw [cell_of_row _ _ _ _ _ _ o2]; rfl
  have e3 : w1.cell? ⟨w.heap.size + 2, 1, none⟩ = some (.int .i64 ww) := by rw [cell_of_row _ _ _ _ _ _ o2]; rfl
  have e4 : w1.cell? ⟨w.heap.size + 2, 2, none⟩ = some (.int .i64 wh) := by rw [cell_of_row _ _ _ _ _ _ o2]; rfl
  have o3' : w1.heap[w.heap.size + 3]? = some (.cells (ints6 0 0 0 0 0 0) 36 (0, 0)) := o3
  obtain ⟨⟨c0, f0⟩, ⟨c1, f1⟩, ⟨c2, f2⟩, ⟨c3, f3⟩, ⟨c4, f4⟩, ⟨c5, f5⟩⟩ := six o3'
  have HC := Lib.hid (And.intro hbs o3')
  clear o0 o1 o2 o3 o3' hbs
  go_wp2_with fail
  exact bodyPost_ret (planRes rfl _ _ (w.heap.size + 3) _ _ _ _ (by simp) rfl (set6 HC.out.2 0 0 0 0 0 0) rfl) rfl ⟨rfl, below6 HC.out.1 (by omega) _ _ _ _ _ _⟩
set_option maxRecDepth 100000 in
set_option maxHeartbeats 400000 in
theorem pof0 (W H ww wh : Int) (w : World) (hw : sideB W = true) (hh : sideB H = true) (ha : sideB ww = false) :
    Calls Try.prog 14 #[.int .i64 W, .int .i64 H, .agg #[.int .i64 1, .int .i64 ww, .int .i64 wh]] w fun e w' => e = .returned (.tuple #[cutV 0 0 0 0 0 0, .int .i64 2]) ∧ Below w.heap.size w w' := by
  have H1 := Lib.hid (fun wX => rSide_any W wX)
  have H2 := Lib.hid (fun wX => rSide_any H wX)
  rw [hw] at H1
  rw [hh] at H2
  have H3 := Lib.hid (fun wX => rSide_any ww wX)
  rw [ha] at H3
  clear hw hh ha
  go_enter Try.func14, Try.ntmps14
  go_wp2_with fail
  refine (H1.out _).mono ?_
  rintro e w' ⟨rfl, rfl⟩
  go_wp2_with fail
  refine (H2.out _).mono ?_
  rintro e w' ⟨rfl, rfl⟩
  go_wp2_with fail
  go_quiet (fail)
  have hfour := four w (.cells #[.int .i64 W] 3) (.cells #[.int .i64 H] 3) (.cells #[.int .i64 1, .int .i64 ww, .int .i64 wh] 34) (.cells (ints6 0 0 0 0 0 0) 36) nq
  unfold ints6 at hfour
  generalize ((((w.alloc (.cells #[.int .i64 W] 3)).alloc (.cells #[.int .i64 H] 3)).alloc (.cells #[.int .i64 1, .int .i64 ww, .int .i64 wh] 34)).alloc (.cells #[.int .i64 0, .int .i64 0, .int .i64 0, .int .i64 0, .int .i64 0, .int .i64 0] 36)).drewN nq = w1 at hfour ⊢
  obtain ⟨o0, o1, o2, o3, hbs⟩ := hfour
  have e0 : w1.cell? ⟨w.heap.size, 0, none⟩ = some (.int .i64 W) := by rw [cell_of_row _ _ _ _ _ _ o0]; rfl
  have e1 : w1.cell? ⟨w.heap.size + 1, 0, none⟩ = some (.int .i64 H) := by rw [cell_of_row _ _ _ _ _ _ o1]; rfl
  have e2 : w1.cell? ⟨w.heap.size + 2, 0, none⟩ = some (.int .i64 1) := by rw [cell_of_row _ _ _ _ _ _ o2]; rfl
  have e3 : w1.cell? ⟨w.heap.size + 2, 1, none⟩ = some (.int .i64 ww) := by rw [cell_of_row _ _ _ _ _ _ o2]; rfl
  have e4 : w1.cell? ⟨w.heap.size + 2, 2, none⟩ = some (.int .i64 wh) := by rw [cell_of_row _ _ _ _ _ _ o2]; rfl
  have o3' : w1.heap[w.heap.size + 3]? = some (.cells (ints6 0 0 0 0 0 0) 36 (0, 0)) := o3
  obtain ⟨⟨c0, f0⟩, ⟨c1, f1⟩, ⟨c2, f2⟩, ⟨c3, f3⟩, ⟨c4, f4⟩, ⟨c5, f5⟩⟩ := six o3'
  have HC := Lib.hid (And.intro hbs o3')
  clear o0 o1 o2 o3 o3' hbs
  go_wp2_with fail
  refine (H3.out _).mono ?_
  rintro e w' ⟨rfl, rfl⟩
  go_wp2_with fail
  exact bodyPost_ret (planRes rfl _ _ (w.heap.size + 3) _ _ _ _ (by simp) rfl (set6 HC.out.2 0 0 0 0 0 0) rfl) rfl ⟨rfl, below6 HC.out.1 (by omega) _ _ _ _ _ _⟩
set_option maxRecDepth 100000 in
set_option maxHeartbeats 400000 in
theorem pof1 (W H ww wh : Int) (w : World) (hw : sideB W = true) (hh : sideB H = true) (ha : sideB ww = true) (hb : sideB wh = false) :
    Calls Try.prog 14 #[.int .i64 W, .int .i64 H, .agg #[.int .i64 1, .int .i64 ww, .int .i64 wh]] w fun e w' => e = .returned (.tuple #[cutV 0 0 0 0 0 0, .int .i64 2]) ∧ Below w.heap.size w w' := by
  have H1 := Lib.hid (fun wX => rSide_any W wX)
  have H2 := Lib.hid (fun wX => rSide_any H wX)
  rw [hw] at H1
  rw [hh] at H2
  have H3 := Lib.hid (fun wX => rSide_any ww wX)
  rw [ha] at H3
  have H4 := Lib.hid (fun wX => rSide_any wh wX)
  rw [hb] at H4
  clear hw hh ha hb
  go_enter Try.func14, Try.ntmps14
  go_wp2_with fail
  refine (H1.out _).mono ?_
  rintro e w' ⟨rfl, rfl⟩
  go_wp2_with fail
  refine (H2.out _).mono ?_
  rintro e w' ⟨rfl, rfl⟩
  go_wp2_with fail
  go_quiet (fail)
  have hfour := four w (.cells #[.int .i64 W] 3) (.cells #[.int .i64 H] 3) (.cells #[.int .i64 1, .int .i64 ww, .int .i64 wh] 34) (.cells (ints6 0 0 0 0 0 0) 36) nq
  unfold ints6 at hfour
  generalize ((((w.alloc (.cells #[.int .i64 W] 3)).alloc (.cells #[.int .i64 H] 3)).alloc (.cells #[.int .i64 1, .int .i64 ww, .int .i64 wh] 34)).alloc (.cells #[.int .i64 0, .int .i64 0, .int .i64 0, .int .i64 0, .int .i64 0, .int .i64 0] 36)).drewN nq = w1 at hfour ⊢
  obtain ⟨o0, o1, o2, o3, hbs⟩ := hfour
  have e0 : w1.cell? ⟨w.heap.size, 0, none⟩ = some (.int .i64 W) := by rw [cell_of_row _ _ _ _ _ _ o0]; rfl
  have e1 : w1.cell? ⟨w.heap.size + 1, 0, none⟩ = some (.int .i64 H) := by rw [cell_of_row _ _ _ _ _ _ o1]; rfl
  have e2 : w1.cell? ⟨w.heap.size + 2, 0, none⟩ = some (.int .i64 1) := by rw [cell_of_row _ _ _ _ _ _ o2]; rfl
  have e3 : w1.cell? ⟨w.heap.size + 2, 1, none⟩ = some (.int .i64 ww) := by rw [cell_of_row _ _ _ _ _ _ o2]; rfl
  have e4 : w1.cell? ⟨w.heap.size + 2, 2, none⟩ = some (.int .i64 wh) := by rw [cell_of_row _ _ _ _ _ _ o2]; rfl
  have o3' : w1.heap[w.heap.size + 3]? = some (.cells (ints6 0 0 0 0 0 0) 36 (0, 0)) := o3
  obtain ⟨⟨c0, f0⟩, ⟨c1, f1⟩, ⟨c2, f2⟩, ⟨c3, f3⟩, ⟨c4, f4⟩, ⟨c5, f5⟩⟩ := six o3'
  have HC := Lib.hid (And.intro hbs o3')
  clear o0 o1 o2 o3 o3' hbs
  go_wp2_with fail
  refine (H3.out _).mono ?_
  rintro e w' ⟨rfl, rfl⟩
  go_wp2_with fail
  refine (H4.out _).mono ?_
  rintro e w' ⟨rfl, rfl⟩
  go_wp2_with fail
  exact bodyPost_ret (planRes rfl _ _ (w.heap.size + 3) _ _ _ _ (by simp) rfl (set6 HC.out.2 0 0 0 0 0 0) rfl) rfl ⟨rfl, below6 HC.out.1 (by omega) _ _ _ _ _ _⟩
set_option maxRecDepth 100000 in
set_option maxHeartbeats 400000 in
theorem pof2 (W H ww wh : Int) (w : World) (hw : sideB W = true) (hh : sideB H = true) (ha : sideB ww = false) :
    Calls Try.prog 14 #[.int .i64 W, .int .i64 H, .agg #[.int .i64 2, .int .i64 ww, .int .i64 wh]] w fun e w' => e = .returned (.tuple #[cutV 0 0 0 0 0 0, .int .i64 2]) ∧ Below w.heap.size w w' := by
  have H1 := Lib.hid (fun wX => rSide_any W wX)
  have H2 := Lib.hid (fun wX => rSide_any H wX)
  rw [hw] at H1
  rw [hh] at H2
  have H3 := Lib.hid (fun wX => rSide_any ww wX)
  rw [ha] at H3
  clear hw hh ha
  go_enter Try.func14, Try.ntmps14
  go_wp2_with fail
  refine (H1.out _).mono ?_
  rintro e w' ⟨rfl, rfl⟩
  go_wp2_with fail
  refine (H2.out _).mono ?_
  rintro e w' ⟨rfl, rfl⟩
  go_wp2_with fail
  go_quiet (fail)
  have hfour := four w (.cells #[.int .i64 W] 3) (.cells #[.int .i64 H] 3) (.cells #[.int .i64 2, .int .i64 ww, .int .i64 wh] 34) (.cells (ints6 0 0 0 0 0 0) 36) nq
  unfold ints6 at hfour
  generalize ((((w.alloc (.cells #[.int .i64 W] 3)).alloc (.cells #[.int .i64 H] 3)).alloc (.cells #[.int .i64 2, .int .i64 ww, .int .i64 wh] 34)).alloc (.cells #[.int .i64 0, .int .i64 0, .int .i64 0, .int .i64 0, .int .i64 0, .int .i64 0] 36)).drewN nq = w1 at hfour ⊢
  obtain ⟨o0, o1, o2, o3, hbs⟩ := hfour
  have e0 : w1.cell? ⟨w.heap.size, 0, none⟩ = some (.int .i64 W) := by rw [cell_of_row _ _ _ _ _ _ o0]; rfl
  have e1 : w1.cell? ⟨w.heap.size + 1, 0, none⟩ = some (.int .i64 H) := by rw [cell_of_row _ _ _ _ _ _ o1]; rfl
  have e2 : w1.cell? ⟨w.heap.size + 2, 0, none⟩ = some (.int .i64 2) := by rw [cell_of_row _ _ _ _ _ _ o2]; rfl
  have e3 : w1.cell? ⟨w.heap.size + 2, 1, none⟩ = some (.int .i64 ww) := by rw [cell_of_row _ _ _ _ _ _ o2]; rfl
  have e4 : w1.cell? ⟨w.heap.size + 2, 2, none⟩ = some (.int .i64 wh) := by rw [cell_of_row _ _ _ _ _ _ o2]; rfl
  have o3' : w1.heap[w.heap.size + 3]? = some (.cells (ints6 0 0 0 0 0 0) 36 (0, 0)) := o3
  obtain ⟨⟨c0, f0⟩, ⟨c1, f1⟩, ⟨c2, f2⟩, ⟨c3, f3⟩, ⟨c4, f4⟩, ⟨c5, f5⟩⟩ := six o3'
  have HC := Lib.hid (And.intro hbs o3')
  clear o0 o1 o2 o3 o3' hbs
  go_wp2_with fail
  refine (H3.out _).mono ?_
  rintro e w' ⟨rfl, rfl⟩
  go_wp2_with fail
  exact bodyPost_ret (planRes rfl _ _ (w.heap.size + 3) _ _ _ _ (by simp) rfl (set6 HC.out.2 0 0 0 0 0 0) rfl) rfl ⟨rfl, below6 HC.out.1 (by omega) _ _ _ _ _ _⟩
set_option maxRecDepth 100000 in
set_option maxHeartbeats 400000 in
theorem pof3 (W H ww wh : Int) (w : World) (hw : sideB W = true) (hh : sideB H = true) (ha : sideB ww = true) (hb : sideB wh = false) :
    Calls Try.prog 14 #[.int .i64 W, .int .i64 H, .agg #[.int .i64 2, .int .i64 ww, .int .i64 wh]] w fun e w' => e = .returned (.tuple #[cutV 0 0 0 0 0 0, .int .i64 2]) ∧ Below w.heap.size w w' := by
  have H1 := Lib.hid (fun wX => rSide_any W wX)
  have H2 := Lib.hid (fun wX => rSide_any H wX)
  rw [hw] at H1
  rw [hh] at H2
  have H3 := Lib.hid (fun wX => rSide_any ww wX)
  rw [ha] at H3
  have H4 := Lib.hid (fun wX => rSide_any wh wX)
  rw [hb] at H4
  clear hw hh ha hb
  go_enter Try.func14, Try.ntmps14
  go_wp2_with fail
  refine (H1.out _).mono ?_
  rintro e w' ⟨rfl, rfl⟩
  go_wp2_with fail
  refine (H2.out _).mono ?_
  rintro e w' ⟨rfl, rfl⟩
  go_wp2_with fail
  go_quiet (fail)
  have hfour := four w (.cells #[.int .i64 W] 3) (.cells #[.int .i64 H] 3) (.cells #[.int .i64 2, .int .i64 ww, .int .i64 wh] 34) (.cells (ints6 0 0 0 0 0 0) 36) nq
  unfold ints6 at hfour
  generalize ((((w.alloc (.cells #[.int .i64 W] 3)).alloc (.cells #[.int .i64 H] 3)).alloc (.cells #[.int .i64 2, .int .i64 ww, .int .i64 wh] 34)).alloc (.cells #[.int .i64 0, .int .i64 0, .int .i64 0, .int .i64 0, .int .i64 0, .int .i64 0] 36)).drewN nq = w1 at hfour ⊢
  obtain ⟨o0, o1, o2, o3, hbs⟩ := hfour
  have e0 : w1.cell? ⟨w.heap.size, 0, none⟩ = some (.int .i64 W) := by rw [cell_of_row _ _ _ _ _ _ o0]; rfl
  have e1 : w1.cell? ⟨w.heap.size + 1, 0, none⟩ = some (.int .i64 H) := by rw [cell_of_row _ _ _ _ _ _ o1]; rfl
  have e2 : w1.cell? ⟨w.heap.size + 2, 0, none⟩ = some (.int .i64 2) := by rw [cell_of_row _ _ _ _ _ _ o2]; rfl
  have e3 : w1.cell? ⟨w.heap.size + 2, 1, none⟩ = some (.int .i64 ww) := by rw [cell_of_row _ _ _ _ _ _ o2]; rfl
  have e4 : w1.cell? ⟨w.heap.size + 2, 2, none⟩ = some (.int .i64 wh) := by rw [cell_of_row _ _ _ _ _ _ o2]; rfl
  have o3' : w1.heap[w.heap.size + 3]? = some (.cells (ints6 0 0 0 0 0 0) 36 (0, 0)) := o3
  obtain ⟨⟨c0, f0⟩, ⟨c1, f1⟩, ⟨c2, f2⟩, ⟨c3, f3⟩, ⟨c4, f4⟩, ⟨c5, f5⟩⟩ := six o3'
  have HC := Lib.hid (And.intro hbs o3')
  clear o0 o1 o2 o3 o3' hbs
  go_wp2_with fail
  refine (H3.out _).mono ?_
  rintro e w' ⟨rfl, rfl⟩
  go_wp2_with fail
  refine (H4.out _).mono ?_
  rintro e w' ⟨rfl, rfl⟩
  go_wp2_with fail
  exact bodyPost_ret (planRes rfl _ _ (w.heap.size + 3) _ _ _ _ (by simp) rfl (set6 HC.out.2 0 0 0 0 0 0) rfl) rfl ⟨rfl, below6 HC.out.1 (by omega) _ _ _ _ _ _⟩
set_option maxRecDepth 100000 in
set_option maxHeartbeats 400000 in
theorem pof4 (W H ww wh : Int) (w : World) (hw : sideB W = true) (hh : sideB H = true) (ha : sideB ww = false) :
    Calls Try.prog 14 #[.int .i64 W, .int .i64 H, .agg #[.int .i64 3, .int .i64 ww, .int .i64 wh]] w fun e w' => e = .returned (.tuple #[cutV 0 0 0 0 0 0, .int .i64 2]) ∧ Below w.heap.size w w' := by
  have H1 := Lib.hid (fun wX => rSide_any W wX)
  have H2 := Lib.hid (fun wX => rSide_any H wX)
  rw [hw] at H1
  rw [hh] at H2
  have H3 := Lib.hid (fun wX => rSide_any ww wX)
  rw [ha] at H3
  clear hw hh ha
  go_enter Try.func14, Try.ntmps14
  go_wp2_with fail
  refine (H1.out _).mono ?_
  rintro e w' ⟨rfl, rfl⟩
  go_wp2_with fail
  refine (H2.out _).mono ?_
  rintro e w' ⟨rfl, rfl⟩
  go_wp2_with fail
  go_quiet (fail)
  have hfour := four w (.cells #[.int .i64 W] 3) (.cells #[.int .i64 H] 3) (.cells #[.int .i64 3, .int .i64 ww, .int .i64 wh] 34) (.cells (ints6 0 0 0 0 0 0) 36) nq
  unfold ints6 at hfour
  generalize ((((w.alloc (.cells #[.int .i64 W] 3)).alloc (.cells #[.int .i64 H] 3)).alloc (.cells #[.int .i64 3, .int .i64 ww, .int .i64 wh] 34)).alloc (.cells #[.int .i64 0, .int .i64 0, .int .i64 0, .int .i64 0, .int .i64 0, .int .i64 0] 36)).drewN nq = w1 at hfour ⊢
  obtain ⟨o0, o1, o2, o3, hbs⟩ := hfour
  have e0 : w1.cell? ⟨w.heap.size, 0, none⟩ = some (.int .i64 W) := by rw [cell_of_row _ _ _ _ _ _ o0]; rfl
  have e1 : w1.cell? ⟨w.heap.size + 1, 0, none⟩ = some (.int .i64 H) := by rw [cell_of_row _ _ _ _ _ _ o1]; rfl
  have e2 : w1.cell? ⟨w.heap.size + 2, 0, none⟩ = some (.int .i64 3) := by rw [cell_of_row _ _ _ _ _ _ o2]; rfl
  have e3 : w1.cell? ⟨w.heap.size + 2, 1, none⟩ = some (.int .i64 ww) := by rw [cell_of_row _ _ _ _ _ _ o2]; rfl
  have e4 : w1.cell? ⟨w.heap.size + 2, 2, none⟩ = some (.int .i64 wh) := by rw [cell_of_row _ _ _ _ _ _ o2]; rfl
  have o3' : w1.heap[w.heap.size + 3]? = some (.cells (ints6 0 0 0 0 0 0) 36 (0, 0)) := o3
  obtain ⟨⟨c0, f0⟩, ⟨c1, f1⟩, ⟨c2, f2⟩, ⟨c3, f3⟩, ⟨c4, f4⟩, ⟨c5, f5⟩⟩ := six o3'
  have HC := Lib.hid (And.intro hbs o3')
  clear o0 o1 o2 o3 o3' hbs
  go_wp2_with fail
  refine (H3.out _).mono ?_
  rintro e w' ⟨rfl, rfl⟩
  go_wp2_with fail
  exact bodyPost_ret (planRes rfl _ _ (w.heap.size + 3) _ _ _ _ (by simp) rfl (set6 HC.out.2 0 0 0 0 0 0) rfl) rfl ⟨rfl, below6 HC.out.1 (by omega) _ _ _ _ _ _⟩
set_option maxRecDepth 100000 in
set_option maxHeartbeats 400000 in
theorem pof5 (W H ww wh : Int) (w : World) (hw : sideB W = true) (hh : sideB H = true) (ha : sideB ww = true) (hz : ¬ wh = 0) :
    Calls Try.prog 14 #[.int .i64 W, .int .i64 H, .agg #[.int .i64 3, .int .i64 ww, .int .i64 wh]] w fun e w' => e = .returned (.tuple #[cutV 0 0 0 0 0 0, .int .i64 1]) ∧ Below w.heap.size w w' := by
  have H1 := Lib.hid (fun wX => rSide_any W wX)
  have H2 := Lib.hid (fun wX => rSide_any H wX)
  rw [hw] at H1
  rw [hh] at H2
  have H3 := Lib.hid (fun wX => rSide_any ww wX)
  rw [ha] at H3
  clear hw hh ha
  go_enter Try.func14, Try.ntmps14
  go_wp2_with fail
  refine (H1.out _).mono ?_
  rintro e w' ⟨rfl, rfl⟩
  go_wp2_with fail
  refine (H2.out _).mono ?_
  rintro e w' ⟨rfl, rfl⟩
  go_wp2_with fail
  go_quiet (fail)
  have hfour := four w (.cells #[.int .i64 W] 3) (.cells #[.int .i64 H] 3) (.cells #[.int .i64 3, .int .i64 ww, .int .i64 wh] 34) (.cells (ints6 0 0 0 0 0 0) 36) nq
  unfold ints6 at hfour
  generalize ((((w.alloc (.cells #[.int .i64 W] 3)).alloc (.cells #[.int .i64 H] 3)).alloc (.cells #[.int .i64 3, .int .i64 ww, .int .i64 wh] 34)).alloc (.cells #[.int .i64 0, .int .i64 0, .int .i64 0, .int .i64 0, .int .i64 0, .int .i64 0] 36)).drewN nq = w1 at hfour ⊢
  obtain ⟨o0, o1, o2, o3, hbs⟩ := hfour
  have e0 : w1.cell? ⟨w.heap.size, 0, none⟩ = some (.int .i64 W) := by rw [cell_of_row _ _ _ _ _ _ o0]; rfl
  have e1 : w1.cell? ⟨w.heap.size + 1, 0, none⟩ = some (.int .i64 H) := by rw [cell_of_row _ _ _ _ _ _ o1]; rfl
  have e2 : w1.cell? ⟨w.heap.size + 2, 0, none⟩ = some (.int .i64 3) := by rw [cell_of_row _ _ _ _ _ _ o2]; rfl
  have e3 : w1.cell? ⟨w.heap.size + 2, 1, none⟩ = some (.int .i64 ww) := by rw [cell_of_row _ _ _ _ _ _ o2]; rfl
  have e4 : w1.cell? ⟨w.heap.size + 2, 2, none⟩ = some (.int .i64 wh) := by rw [cell_of_row _ _ _ _ _ _ o2]; rfl
  have o3' : w1.heap[w.heap.size + 3]? = some (.cells (ints6 0 0 0 0 0 0) 36 (0, 0)) := o3
  obtain ⟨⟨c0, f0⟩, ⟨c1, f1⟩, ⟨c2, f2⟩, ⟨c3, f3⟩, ⟨c4, f4⟩, ⟨c5, f5⟩⟩ := six o3'
  have HC := Lib.hid (And.intro hbs o3')
  clear o0 o1 o2 o3 o3' hbs
  go_wp2_with fail
  refine (H3.out _).mono ?_
  rintro e w' ⟨rfl, rfl⟩
  go_wp2_with fail
  exact bodyPost_ret (planRes rfl _ _ (w.heap.size + 3) _ _ _ _ (by simp) rfl (set6 HC.out.2 0 0 0 0 0 0) rfl) rfl ⟨rfl, below6 HC.out.1 (by omega) _ _ _ _ _ _⟩
set_option maxRecDepth 100000 in
set_option maxHeartbeats 400000 in
theorem pof6 (W H ww wh : Int) (w : World) (hw : sideB W = true) (hh : sideB H = true) (hb : sideB wh = false) :
    Calls Try.prog 14 #[.int .i64 W, .int .i64 H, .agg #[.int .i64 4, .int .i64 ww, .int .i64 wh]] w fun e w' => e = .returned (.tuple #[cutV 0 0 0 0 0 0, .int .i64 2]) ∧ Below w.heap.size w w' := by
  have H1 := Lib.hid (fun wX => rSide_any W wX)
  have H2 := Lib.hid (fun wX => rSide_any H wX)
  rw [hw] at H1
  rw [hh] at H2
  have H4 := Lib.hid (fun wX => rSide_any wh wX)
  rw [hb] at H4
  clear hw hh hb
  go_enter Try.func14, Try.ntmps14
  go_wp2_with fail
  refine (H1.out _).mono ?_
  rintro e w' ⟨rfl, rfl⟩
  go_wp2_with fail
  refine (H2.out _).mono ?_
  rintro e w' ⟨rfl, rfl⟩
  go_wp2_with fail
  go_quiet (fail)
  have hfour := four w (.cells #[.int .i64 W] 3) (.cells #[.int .i64 H] 3) (.cells #[.int .i64 4, .int .i64 ww, .int .i64 wh] 34) (.cells (ints6 0 0 0 0 0 0) 36) nq
  unfold ints6 at hfour
  generalize ((((w.alloc (.cells #[.int .i64 W] 3)).alloc (.cells #[.int .i64 H] 3)).alloc (.cells #[.int .i64 4, .int .i64 ww, .int .i64 wh] 34)).alloc (.cells #[.int .i64 0, .int .i64 0, .int .i64 0, .int .i64 0, .int .i64 0, .int .i64 0] 36)).drewN nq = w1 at hfour ⊢
  obtain ⟨o0, o1, o2, o3, hbs⟩ := hfour
  have e0 : w1.cell? ⟨w.heap.size, 0, none⟩ = some (.int .i64 W) := by rw [cell_of_row _ _ _ _ _ _ o0]; rfl
  have e1 : w1.cell? ⟨w.heap.size + 1, 0, none⟩ = some (.int .i64 H) := by rw [cell_of_row _ _ _ _ _ _ o1]; rfl
  have e2 : w1.cell? ⟨w.heap.size + 2, 0, none⟩ = some (.int .i64 4) := by rw [cell_of_row _ _ _ _ _ _ o2]; rfl
  have e3 : w1.cell? ⟨w.heap.size + 2, 1, none⟩ = some (.int .i64 ww) := by rw [cell_of_row _ _ _ _ _ _ o2]; rfl
  have e4 : w1.cell? ⟨w.heap.size + 2, 2, none⟩ = some (.int .i64 wh) := by rw [cell_of_row _ _ _ _ _ _ o2]; rfl
  have o3' : w1.heap[w.heap.size + 3]? = some (.cells (ints6 0 0 0 0 0 0) 36 (0, 0)) := o3
  obtain ⟨⟨c0, f0⟩, ⟨c1, f1⟩, ⟨c2, f2⟩, ⟨c3, f3⟩, ⟨c4, f4⟩, ⟨c5, f5⟩⟩ := six o3'
  have HC := Lib.hid (And.intro hbs o3')
  clear o0 o1 o2 o3 o3' hbs
  go_wp2_with fail
  refine (H4.out _).mono ?_
  rintro e w' ⟨rfl, rfl⟩
  go_wp2_with fail
  exact bodyPost_ret (planRes rfl _ _ (w.heap.size + 3) _ _ _ _ (by simp) rfl (set6 HC.out.2 0 0 0 0 0 0) rfl) rfl ⟨rfl, below6 HC.out.1 (by omega) _ _ _ _ _ _⟩
set_option maxRecDepth 100000 in
set_option maxHeartbeats 400000 in
theorem pof7 (W H ww wh : Int) (w : World) (hw : sideB W = true) (hh : sideB H = true) (hb : sideB wh = true) (hz : ¬ ww = 0) :
    Calls Try.prog 14 #[.int .i64 W, .int .i64 H, .agg #[.int .i64 4, .int .i64 ww, .int .i64 wh]] w fun e w' => e = .returned (.tuple #[cutV 0 0 0 0 0 0, .int .i64 1]) ∧ Below w.heap.size w w' := by
  have H1 := Lib.hid (fun wX => rSide_any W wX)
  have H2 := Lib.hid (fun wX => rSide_any H wX)
  rw [hw] at H1
  rw [hh] at H2
  have H4 := Lib.hid (fun wX => rSide_any wh wX)
  rw [hb] at H4
  clear hw hh hb
  go_enter Try.func14, Try.ntmps14
  go_wp2_with fail
  refine (H1.out _).mono ?_
  rintro e w' ⟨rfl, rfl⟩
  go_wp2_with fail
  refine (H2.out _).mono ?_
  rintro e w' ⟨rfl, rfl⟩
  go_wp2_with fail
  go_quiet (fail)
  have hfour := four w (.cells #[.int .i64 W] 3) (.cells #[.int .i64 H] 3) (.cells #[.int .i64 4, .int .i64 ww, .int .i64 wh] 34) (.cells (ints6 0 0 0 0 0 0) 36) nq
  unfold ints6 at hfour
  generalize ((((w.alloc (.cells #[.int .i64 W] 3)).alloc (.cells #[.int .i64 H] 3)).alloc (.cells #[.int .i64 4, .int .i64 ww, .int .i64 wh] 34)).alloc (.cells #[.int .i64 0, .int .i64 0, .int .i64 0, .int .i64 0, .int .i64 0, .int .i64 0] 36)).drewN nq = w1 at hfour ⊢
  obtain ⟨o0, o1, o2, o3, hbs⟩ := hfour
  have e0 : w1.cell? ⟨w.heap.size, 0, none⟩ = some (.int .i64 W) := by rw [cell_of_row _ _ _ _ _ _ o0]; rfl
  have e1 : w1.cell? ⟨w.heap.size + 1, 0, none⟩ = some (.int .i64 H) := by rw [cell_of_row _ _ _ _ _ _ o1]; rfl
  have e2 : w1.cell? ⟨w.heap.size + 2, 0, none⟩ = some (.int .i64 4) := by rw [cell_of_row _ _ _ _ _ _ o2]; rfl
  have e3 : w1.cell? ⟨w.heap.size + 2, 1, none⟩ = some (.int .i64 ww) := by rw [cell_of_row _ _ _ _ _ _ o2]; rfl
  have e4 : w1.cell? ⟨w.heap.size + 2, 2, none⟩ = some (.int .i64 wh) := by rw [cell_of_row _ _ _ _ _ _ o2]; rfl
  have o3' : w1.heap[w.heap.size + 3]? = some (.cells (ints6 0 0 0 0 0 0) 36 (0, 0)) := o3
  obtain ⟨⟨c0, f0⟩, ⟨c1, f1⟩, ⟨c2, f2⟩, ⟨c3, f3⟩, ⟨c4, f4⟩, ⟨c5, f5⟩⟩ := six o3'
  have HC := Lib.hid (And.intro hbs o3')
  clear o0 o1 o2 o3 o3' hbs
  go_wp2_with fail
  refine (H4.out _).mono ?_
  rintro e w' ⟨rfl, rfl⟩
  go_wp2_with fail
  exact bodyPost_ret (planRes rfl _ _ (w.heap.size + 3) _ _ _ _ (by simp) rfl (set6 HC.out.2 0 0 0 0 0 0) rfl) rfl ⟨rfl, below6 HC.out.1 (by omega) _ _ _ _ _ _⟩
end Go.Proofs.Ytkobenohijipeaa
