/- DERIVED. asset.Plan, for all numbers. No condition. -/
import Derived.Test.YtkobenohijipeaaPlanQ0
import Derived.Test.YtkobenohijipeaaPlanQ1
import Derived.Test.YtkobenohijipeaaPlanQ2
import Derived.Test.YtkobenohijipeaaPlanQ3
namespace Go.Proofs.Ytkobenohijipeaa
open Go.RowKit
set_option linter.unusedVariables false
set_option maxRecDepth 100000 in
set_option maxHeartbeats 400000 in
theorem plan_any (W H y ww wh : Int) (w : World) :
    Calls Try.prog 13 #[.int .i64 W, .int .i64 H, .agg #[.int .i64 y, .int .i64 ww, .int .i64 wh]] w fun e w' => e = .returned (.tuple #[planR W H y ww wh, .int .i64 (planE W H y ww wh)]) ∧ Below w.heap.size w w' := by
  have H1 := Lib.hid (fun wX => pSide_any W wX)
  have H2 := Lib.hid (fun wX => pSide_any H wX)
  have H3 := Lib.hid (fun wX => checkWant_any y ww wh wX)
  by_cases hw : sideB W = false
  · rw [show planE W H y ww wh = 2 by simp [planE, hw], show planR W H y ww wh = cutV 0 0 0 0 0 0 by simp [planR, planE, hw]]
    rw [hw] at H1
    go_enter Try.func13, Try.ntmps13
    go_wp2_with fail
    refine (H1.out _).mono ?_
    rintro e w' ⟨rfl, rfl⟩
    go_wp2_with fail
    exact bodyPost_ret (planRes rfl _ _ (w.heap.size + 1) _ _ _ _ (by simp) rfl (by simpa using heap_alloc_new (w.alloc _) _) rfl) rfl ⟨rfl, ((Below.refl _ w).alloc (Nat.le_refl _) _).alloc (by simp) _⟩
  have hw' : sideB W = true := by simpa using hw
  rw [hw'] at H1
  by_cases hh : sideB H = false
  · rw [show planE W H y ww wh = 2 by simp [planE, hh], show planR W H y ww wh = cutV 0 0 0 0 0 0 by simp [planR, planE, hh]]
    rw [hh] at H2
    go_enter Try.func13, Try.ntmps13
    go_wp2_with fail
    refine (H1.out _).mono ?_
    rintro e w' ⟨rfl, rfl⟩
    go_wp2_with fail
    refine (H2.out _).mono ?_
    rintro e w' ⟨rfl, rfl⟩
    go_wp2_with fail
    exact bodyPost_ret (planRes rfl _ _ (w.heap.size + 1) _ _ _ _ (by simp) rfl (by simpa using heap_alloc_new (w.alloc _) _) rfl) rfl ⟨rfl, ((Below.refl _ w).alloc (Nat.le_refl _) _).alloc (by simp) _⟩
  have hh' : sideB H = true := by simpa using hh
  rw [hh'] at H2
  have he : planE W H y ww wh = wantE y ww wh (sideB ww) (sideB wh) := by simp [planE, hw', hh']
  by_cases hz : wantE y ww wh (sideB ww) (sideB wh) = 0
  · obtain ⟨b1, b2, b3, b4, hy, k1, k2⟩ := wantE_in hz
    rw [show planE W H y ww wh = 0 by rw [he, hz], show planR W H y ww wh = planV W H y ww wh by simp [planR, he, hz]]
    clear H1 H2 H3 he hw hh
    by_cases m1 : ww ≤ W <;> by_cases m2 : wh ≤ H
    · have ea := Int.min_eq_left m1
      have eb := Int.min_eq_left m2
      rcases hy with rfl | rfl | rfl | rfl
      · by_cases hs : wh < scl H ww W
        · rw [show planV W H 1 ww wh = cutV 0 0 W H (scl W wh H) wh by unfold planV; rw [ea, eb, if_neg (by decide), if_pos (.inr ⟨rfl, hs⟩)]]
          exact plan_ww_wh_1a W H ww wh w hw' hh' hz m1 m2 hs
        · rw [show planV W H 1 ww wh = cutV 0 0 W H ww (scl H ww W) by unfold planV; rw [ea, eb, if_neg (by decide), if_neg (fun h => h.elim (fun h => absurd h (by decide)) (fun h => hs h.2))]]
          exact plan_ww_wh_1b W H ww wh w hw' hh' hz m1 m2 hs
      · rw [show planV W H 2 ww wh = fillV W H ww wh by unfold planV; rw [ea, eb, if_pos rfl]]
        exact plan_ww_wh_2 W H ww wh w hw' hh' hz m1 m2
      · rw [show planV W H 3 ww wh = cutV 0 0 W H ww (scl H ww W) by unfold planV; rw [ea, eb, if_neg (by decide), if_neg (fun h => h.elim (fun h => absurd h (by decide)) (fun h => absurd h.1 (by decide)))]]
        exact plan_ww_wh_3 W H ww wh w hw' hh' hz m1 m2
      · rw [show planV W H 4 ww wh = cutV 0 0 W H (scl W wh H) wh by unfold planV; rw [ea, eb, if_neg (by decide), if_pos (.inl rfl)]]
        exact plan_ww_wh_4 W H ww wh w hw' hh' hz m1 m2
    · have ea := Int.min_eq_left m1
      have eb := Int.min_eq_right (by omega : H ≤ wh)
      rcases hy with rfl | rfl | rfl | rfl
      · by_cases hs : H < scl H ww W
        · rw [show planV W H 1 ww wh = cutV 0 0 W H (scl W H H) H by unfold planV; rw [ea, eb, if_neg (by decide), if_pos (.inr ⟨rfl, hs⟩)]]
          exact plan_ww_H_1a W H ww wh w hw' hh' hz m1 m2 hs
        · rw [show planV W H 1 ww wh = cutV 0 0 W H ww (scl H ww W) by unfold planV; rw [ea, eb, if_neg (by decide), if_neg (fun h => h.elim (fun h => absurd h (by decide)) (fun h => hs h.2))]]
          exact plan_ww_H_1b W H ww wh w hw' hh' hz m1 m2 hs
      · rw [show planV W H 2 ww wh = fillV W H ww H by unfold planV; rw [ea, eb, if_pos rfl]]
        exact plan_ww_H_2 W H ww wh w hw' hh' hz m1 m2
      · rw [show planV W H 3 ww wh = cutV 0 0 W H ww (scl H ww W) by unfold planV; rw [ea, eb, if_neg (by decide), if_neg (fun h => h.elim (fun h => absurd h (by decide)) (fun h => absurd h.1 (by decide)))]]
        exact plan_ww_H_3 W H ww wh w hw' hh' hz m1 m2
      · rw [show planV W H 4 ww wh = cutV 0 0 W H (scl W H H) H by unfold planV; rw [ea, eb, if_neg (by decide), if_pos (.inl rfl)]]
        exact plan_ww_H_4 W H ww wh w hw' hh' hz m1 m2
    · have ea := Int.min_eq_right (by omega : W ≤ ww)
      have eb := Int.min_eq_left m2
      rcases hy with rfl | rfl | rfl | rfl
      · by_cases hs : wh < scl H W W
        · rw [show planV W H 1 ww wh = cutV 0 0 W H (scl W wh H) wh by unfold planV; rw [ea, eb, if_neg (by decide), if_pos (.inr ⟨rfl, hs⟩)]]
          exact plan_W_wh_1a W H ww wh w hw' hh' hz m1 m2 hs
        · rw [show planV W H 1 ww wh = cutV 0 0 W H W (scl H W W) by unfold planV; rw [ea, eb, if_neg (by decide), if_neg (fun h => h.elim (fun h => absurd h (by decide)) (fun h => hs h.2))]]
          exact plan_W_wh_1b W H ww wh w hw' hh' hz m1 m2 hs
      · rw [show planV W H 2 ww wh = fillV W H W wh by unfold planV; rw [ea, eb, if_pos rfl]]
        exact plan_W_wh_2 W H ww wh w hw' hh' hz m1 m2
      · rw [show planV W H 3 ww wh = cutV 0 0 W H W (scl H W W) by unfold planV; rw [ea, eb, if_neg (by decide), if_neg (fun h => h.elim (fun h => absurd h (by decide)) (fun h => absurd h.1 (by decide)))]]
        exact plan_W_wh_3 W H ww wh w hw' hh' hz m1 m2
      · rw [show planV W H 4 ww wh = cutV 0 0 W H (scl W wh H) wh by unfold planV; rw [ea, eb, if_neg (by decide), if_pos (.inl rfl)]]
        exact plan_W_wh_4 W H ww wh w hw' hh' hz m1 m2
    · have ea := Int.min_eq_right (by omega : W ≤ ww)
      have eb := Int.min_eq_right (by omega : H ≤ wh)
      rcases hy with rfl | rfl | rfl | rfl
      · by_cases hs : H < scl H W W
        · rw [show planV W H 1 ww wh = cutV 0 0 W H (scl W H H) H by unfold planV; rw [ea, eb, if_neg (by decide), if_pos (.inr ⟨rfl, hs⟩)]]
          exact plan_W_H_1a W H ww wh w hw' hh' hz m1 m2 hs
        · rw [show planV W H 1 ww wh = cutV 0 0 W H W (scl H W W) by unfold planV; rw [ea, eb, if_neg (by decide), if_neg (fun h => h.elim (fun h => absurd h (by decide)) (fun h => hs h.2))]]
          exact plan_W_H_1b W H ww wh w hw' hh' hz m1 m2 hs
      · rw [show planV W H 2 ww wh = fillV W H W H by unfold planV; rw [ea, eb, if_pos rfl]]
        exact plan_W_H_2 W H ww wh w hw' hh' hz m1 m2
      · rw [show planV W H 3 ww wh = cutV 0 0 W H W (scl H W W) by unfold planV; rw [ea, eb, if_neg (by decide), if_neg (fun h => h.elim (fun h => absurd h (by decide)) (fun h => absurd h.1 (by decide)))]]
        exact plan_W_H_3 W H ww wh w hw' hh' hz m1 m2
      · rw [show planV W H 4 ww wh = cutV 0 0 W H (scl W H H) H by unfold planV; rw [ea, eb, if_neg (by decide), if_pos (.inl rfl)]]
        exact plan_W_H_4 W H ww wh w hw' hh' hz m1 m2
  · obtain ⟨x, hx⟩ : ∃ x, wantE y ww wh (sideB ww) (sideB wh) = x := ⟨_, rfl⟩
    rw [hx] at H3 he hz
    rw [he, show planR W H y ww wh = cutV 0 0 0 0 0 0 by simp [planR, he, hz]]
    clear hw hh hw' hh' hx he
    go_enter Try.func13, Try.ntmps13
    go_wp2_with fail
    refine (H1.out _).mono ?_
    rintro e w' ⟨rfl, rfl⟩
    go_wp2_with fail
    refine (H2.out _).mono ?_
    rintro e w' ⟨rfl, rfl⟩
    go_wp2_with fail
    refine (H3.out _).mono ?_
    rintro e w1 ⟨rfl, hb1⟩
    have hb : Below w.heap.size w w1 := (((Below.refl _ w).alloc (Nat.le_refl _) _).alloc (by simp) _).trans (hb1.mono (by simp; omega))
    have hc : w1.heap[w.heap.size + 1]? = some (.cells (ints6 0 0 0 0 0 0) 36 (0, 0)) := (hb1.block _ (by simp)).trans (heap_alloc2_new _ _ _)
    obtain ⟨⟨c0, f0⟩, ⟨c1, f1⟩, ⟨c2, f2⟩, ⟨c3, f3⟩, ⟨c4, f4⟩, ⟨c5, f5⟩⟩ := six hc
    have HC := Lib.hid (And.intro hb hc)
    clear hb1 hb hc
    go_wp2_with fail
    exact bodyPost_ret (planRes rfl _ _ (w.heap.size + 1) _ _ _ _ (by simp) rfl (set6 HC.out.2 0 0 0 0 0 0) rfl) rfl ⟨rfl, below6 HC.out.1 (by omega) _ _ _ _ _ _⟩
end Go.Proofs.Ytkobenohijipeaa
