/- DERIVED. The reference's PlanOf, for all numbers. No condition. -/
import Derived.Test.YtkobenohijipeaaPlanO0
import Derived.Test.YtkobenohijipeaaPlanU0
import Derived.Test.YtkobenohijipeaaPlanO1
import Derived.Test.YtkobenohijipeaaPlanU1
import Derived.Test.YtkobenohijipeaaPlanO2
import Derived.Test.YtkobenohijipeaaPlanU2
import Derived.Test.YtkobenohijipeaaPlanO3
import Derived.Test.YtkobenohijipeaaPlanU3
namespace Go.Proofs.Ytkobenohijipeaa
open Go.RowKit
set_option linter.unusedVariables false
set_option maxRecDepth 100000 in
set_option maxHeartbeats 400000 in
theorem planOf_any (W H y ww wh : Int) (w : World) :
    Calls Try.prog 14 #[.int .i64 W, .int .i64 H, .agg #[.int .i64 y, .int .i64 ww, .int .i64 wh]] w fun e w' => e = .returned (.tuple #[planR W H y ww wh, .int .i64 (planE W H y ww wh)]) ∧ Below w.heap.size w w' := by
  by_cases hw : sideB W = false
  · have H1 := Lib.hid (fun wX => rSide_any W wX)
    rw [show planE W H y ww wh = 2 by simp [planE, hw], show planR W H y ww wh = cutV 0 0 0 0 0 0 by simp [planR, planE, hw]]
    rw [hw] at H1
    go_enter Try.func14, Try.ntmps14
    go_wp2_with fail
    refine (H1.out _).mono ?_
    rintro e w' ⟨rfl, rfl⟩
    go_wp2_with fail
    obtain ⟨-, -, -, o3, hbs⟩ := four w (.cells #[.int .i64 W] 3) (.cells #[.int .i64 H] 3) (.cells #[.int .i64 y, .int .i64 ww, .int .i64 wh] 34) (.cells #[.int .i64 0, .int .i64 0, .int .i64 0, .int .i64 0, .int .i64 0, .int .i64 0] 36) 0
    exact bodyPost_ret (planRes rfl _ _ (w.heap.size + 3) _ _ _ _ (by simp) rfl o3 rfl) rfl ⟨rfl, hbs⟩
  have hw' : sideB W = true := by simpa using hw
  by_cases hh : sideB H = false
  · have H1 := Lib.hid (fun wX => rSide_any W wX)
    have H2 := Lib.hid (fun wX => rSide_any H wX)
    rw [show planE W H y ww wh = 2 by simp [planE, hh], show planR W H y ww wh = cutV 0 0 0 0 0 0 by simp [planR, planE, hh]]
    rw [hw'] at H1
    rw [hh] at H2
    go_enter Try.func14, Try.ntmps14
    go_wp2_with fail
    refine (H1.out _).mono ?_
    rintro e w' ⟨rfl, rfl⟩
    go_wp2_with fail
    refine (H2.out _).mono ?_
    rintro e w' ⟨rfl, rfl⟩
    go_wp2_with fail
    obtain ⟨-, -, -, o3, hbs⟩ := four w (.cells #[.int .i64 W] 3) (.cells #[.int .i64 H] 3) (.cells #[.int .i64 y, .int .i64 ww, .int .i64 wh] 34) (.cells #[.int .i64 0, .int .i64 0, .int .i64 0, .int .i64 0, .int .i64 0, .int .i64 0] 36) 0
    exact bodyPost_ret (planRes rfl _ _ (w.heap.size + 3) _ _ _ _ (by simp) rfl o3 rfl) rfl ⟨rfl, hbs⟩
  have hh' : sideB H = true := by simpa using hh
  have he : planE W H y ww wh = wantE y ww wh (sideB ww) (sideB wh) := by simp [planE, hw', hh']
  by_cases hz : wantE y ww wh (sideB ww) (sideB wh) = 0
  · obtain ⟨b1, b2, b3, b4, hy, k1, k2⟩ := wantE_in hz
    rw [show planE W H y ww wh = 0 by rw [he, hz], show planR W H y ww wh = planV W H y ww wh by simp [planR, he, hz]]
    clear he hw hh
    by_cases m1 : ww ≤ W <;> by_cases m2 : wh ≤ H
    · have ea := Int.min_eq_left m1
      have eb := Int.min_eq_left m2
      rcases hy with rfl | rfl | rfl | rfl
      · by_cases hs : scl H ww W ≤ wh
        · rw [show planV W H 1 ww wh = cutV 0 0 W H ww (scl H ww W) by unfold planV; rw [ea, eb, if_neg (by decide), if_neg (fun h => h.elim (fun h => absurd h (by decide)) (fun h => absurd hs (Int.not_le.2 h.2)))]]
          exact pof_ww_wh_1b W H ww wh w hw' hh' hz m1 m2 hs
        · rw [show planV W H 1 ww wh = cutV 0 0 W H (scl W wh H) wh by unfold planV; rw [ea, eb, if_neg (by decide), if_pos (.inr ⟨rfl, Int.not_le.1 hs⟩)]]
          exact pof_ww_wh_1a W H ww wh w hw' hh' hz m1 m2 hs
      · rw [show planV W H 2 ww wh = fillV W H ww wh by unfold planV; rw [ea, eb, if_pos rfl]]
        by_cases hs : H * ww < W * wh
        · by_cases hm : 1 < H * ww / wh
          · exact pof_ww_wh_2a1 W H ww wh w hw' hh' hz m1 m2 hs hm
          · exact pof_ww_wh_2a2 W H ww wh w hw' hh' hz m1 m2 hs (Int.not_lt.1 hm)
        · by_cases hm : 1 < W * wh / ww
          · exact pof_ww_wh_2b1 W H ww wh w hw' hh' hz m1 m2 hs hm
          · exact pof_ww_wh_2b2 W H ww wh w hw' hh' hz m1 m2 hs (Int.not_lt.1 hm)
      · rw [show planV W H 3 ww wh = cutV 0 0 W H ww (scl H ww W) by unfold planV; rw [ea, eb, if_neg (by decide), if_neg (fun h => h.elim (fun h => absurd h (by decide)) (fun h => absurd h.1 (by decide)))]]
        have := wantE_3 hz
        subst this
        exact pof_ww_wh_3 W H ww 0 w hw' hh' hz m1 m2
      · have := wantE_4 hz
        rw [show planV W H 4 ww wh = cutV 0 0 W H (scl W wh H) wh by unfold planV; rw [ea, eb, if_neg (by decide), if_pos (.inl rfl)]]
        exact pof_ww_wh_4 W H ww wh w hw' hh' hz m1 m2
    · have ea := Int.min_eq_left m1
      have eb := Int.min_eq_right (by omega : H ≤ wh)
      rcases hy with rfl | rfl | rfl | rfl
      · by_cases hs : scl H ww W ≤ H
        · rw [show planV W H 1 ww wh = cutV 0 0 W H ww (scl H ww W) by unfold planV; rw [ea, eb, if_neg (by decide), if_neg (fun h => h.elim (fun h => absurd h (by decide)) (fun h => absurd hs (Int.not_le.2 h.2)))]]
          exact pof_ww_H_1b W H ww wh w hw' hh' hz m1 m2 hs
        · rw [show planV W H 1 ww wh = cutV 0 0 W H (scl W H H) H by unfold planV; rw [ea, eb, if_neg (by decide), if_pos (.inr ⟨rfl, Int.not_le.1 hs⟩)]]
          exact pof_ww_H_1a W H ww wh w hw' hh' hz m1 m2 hs
      · rw [show planV W H 2 ww wh = fillV W H ww H by unfold planV; rw [ea, eb, if_pos rfl]]
        by_cases hs : H * ww < W * H
        · by_cases hm : 1 < H * ww / H
          · exact pof_ww_H_2a1 W H ww wh w hw' hh' hz m1 m2 hs hm
          · exact pof_ww_H_2a2 W H ww wh w hw' hh' hz m1 m2 hs (Int.not_lt.1 hm)
        · by_cases hm : 1 < W * H / ww
          · exact pof_ww_H_2b1 W H ww wh w hw' hh' hz m1 m2 hs hm
          · exact pof_ww_H_2b2 W H ww wh w hw' hh' hz m1 m2 hs (Int.not_lt.1 hm)
      · rw [show planV W H 3 ww wh = cutV 0 0 W H ww (scl H ww W) by unfold planV; rw [ea, eb, if_neg (by decide), if_neg (fun h => h.elim (fun h => absurd h (by decide)) (fun h => absurd h.1 (by decide)))]]
        have := wantE_3 hz
        subst this
        exact pof_ww_H_3 W H ww 0 w hw' hh' hz m1 m2
      · have := wantE_4 hz
        rw [show planV W H 4 ww wh = cutV 0 0 W H (scl W H H) H by unfold planV; rw [ea, eb, if_neg (by decide), if_pos (.inl rfl)]]
        exact pof_ww_H_4 W H ww wh w hw' hh' hz m1 m2
    · have ea := Int.min_eq_right (by omega : W ≤ ww)
      have eb := Int.min_eq_left m2
      rcases hy with rfl | rfl | rfl | rfl
      · by_cases hs : scl H W W ≤ wh
        · rw [show planV W H 1 ww wh = cutV 0 0 W H W (scl H W W) by unfold planV; rw [ea, eb, if_neg (by decide), if_neg (fun h => h.elim (fun h => absurd h (by decide)) (fun h => absurd hs (Int.not_le.2 h.2)))]]
          exact pof_W_wh_1b W H ww wh w hw' hh' hz m1 m2 hs
        · rw [show planV W H 1 ww wh = cutV 0 0 W H (scl W wh H) wh by unfold planV; rw [ea, eb, if_neg (by decide), if_pos (.inr ⟨rfl, Int.not_le.1 hs⟩)]]
          exact pof_W_wh_1a W H ww wh w hw' hh' hz m1 m2 hs
      · rw [show planV W H 2 ww wh = fillV W H W wh by unfold planV; rw [ea, eb, if_pos rfl]]
        by_cases hs : H * W < W * wh
        · by_cases hm : 1 < H * W / wh
          · exact pof_W_wh_2a1 W H ww wh w hw' hh' hz m1 m2 hs hm
          · exact pof_W_wh_2a2 W H ww wh w hw' hh' hz m1 m2 hs (Int.not_lt.1 hm)
        · by_cases hm : 1 < W * wh / W
          · exact pof_W_wh_2b1 W H ww wh w hw' hh' hz m1 m2 hs hm
          · exact pof_W_wh_2b2 W H ww wh w hw' hh' hz m1 m2 hs (Int.not_lt.1 hm)
      · rw [show planV W H 3 ww wh = cutV 0 0 W H W (scl H W W) by unfold planV; rw [ea, eb, if_neg (by decide), if_neg (fun h => h.elim (fun h => absurd h (by decide)) (fun h => absurd h.1 (by decide)))]]
        have := wantE_3 hz
        subst this
        exact pof_W_wh_3 W H ww 0 w hw' hh' hz m1 m2
      · have := wantE_4 hz
        rw [show planV W H 4 ww wh = cutV 0 0 W H (scl W wh H) wh by unfold planV; rw [ea, eb, if_neg (by decide), if_pos (.inl rfl)]]
        exact pof_W_wh_4 W H ww wh w hw' hh' hz m1 m2
    · have ea := Int.min_eq_right (by omega : W ≤ ww)
      have eb := Int.min_eq_right (by omega : H ≤ wh)
      rcases hy with rfl | rfl | rfl | rfl
      · by_cases hs : scl H W W ≤ H
        · rw [show planV W H 1 ww wh = cutV 0 0 W H W (scl H W W) by unfold planV; rw [ea, eb, if_neg (by decide), if_neg (fun h => h.elim (fun h => absurd h (by decide)) (fun h => absurd hs (Int.not_le.2 h.2)))]]
          exact pof_W_H_1b W H ww wh w hw' hh' hz m1 m2 hs
        · rw [show planV W H 1 ww wh = cutV 0 0 W H (scl W H H) H by unfold planV; rw [ea, eb, if_neg (by decide), if_pos (.inr ⟨rfl, Int.not_le.1 hs⟩)]]
          exact pof_W_H_1a W H ww wh w hw' hh' hz m1 m2 hs
      · rw [show planV W H 2 ww wh = fillV W H W H by unfold planV; rw [ea, eb, if_pos rfl]]
        by_cases hs : H * W < W * H
        · by_cases hm : 1 < H * W / H
          · exact pof_W_H_2a1 W H ww wh w hw' hh' hz m1 m2 hs hm
          · exact pof_W_H_2a2 W H ww wh w hw' hh' hz m1 m2 hs (Int.not_lt.1 hm)
        · by_cases hm : 1 < W * H / W
          · exact pof_W_H_2b1 W H ww wh w hw' hh' hz m1 m2 hs hm
          · exact pof_W_H_2b2 W H ww wh w hw' hh' hz m1 m2 hs (Int.not_lt.1 hm)
      · rw [show planV W H 3 ww wh = cutV 0 0 W H W (scl H W W) by unfold planV; rw [ea, eb, if_neg (by decide), if_neg (fun h => h.elim (fun h => absurd h (by decide)) (fun h => absurd h.1 (by decide)))]]
        have := wantE_3 hz
        subst this
        exact pof_W_H_3 W H ww 0 w hw' hh' hz m1 m2
      · have := wantE_4 hz
        rw [show planV W H 4 ww wh = cutV 0 0 W H (scl W H H) H by unfold planV; rw [ea, eb, if_neg (by decide), if_pos (.inl rfl)]]
        exact pof_W_H_4 W H ww wh w hw' hh' hz m1 m2
  · rw [he, show planR W H y ww wh = cutV 0 0 0 0 0 0 by simp [planR, he, hz]]
    clear he hw hh
    by_cases h1 : y < 1
    · rw [show wantE y ww wh (sideB ww) (sideB wh) = 1 by simp [wantE, h1]]
      exact pof_lo W H y ww wh w hw' hh' h1
    by_cases h4 : 4 < y
    · rw [show wantE y ww wh (sideB ww) (sideB wh) = 1 by simp [wantE, h4]]
      exact pof_hi W H y ww wh w hw' hh' h4
    have hy : y = 1 ∨ y = 2 ∨ y = 3 ∨ y = 4 := by omega
    clear h1 h4
    rcases hy with rfl | rfl | rfl | rfl
    · cases ha : sideB ww
      · rw [show wantE 1 ww wh false (sideB wh) = 2 by simp [wantE]]
        exact pof0 W H ww wh w hw' hh' ha
      · cases hb : sideB wh
        · rw [show wantE 1 ww wh true false = 2 by simp [wantE]]
          exact pof1 W H ww wh w hw' hh' ha hb
        · exact absurd (by rw [ha, hb]; simp [wantE]) hz
    · cases ha : sideB ww
      · rw [show wantE 2 ww wh false (sideB wh) = 2 by simp [wantE]]
        exact pof2 W H ww wh w hw' hh' ha
      · cases hb : sideB wh
        · rw [show wantE 2 ww wh true false = 2 by simp [wantE]]
          exact pof3 W H ww wh w hw' hh' ha hb
        · exact absurd (by rw [ha, hb]; simp [wantE]) hz
    · cases ha : sideB ww
      · rw [show wantE 3 ww wh false (sideB wh) = 2 by simp [wantE]]
        exact pof4 W H ww wh w hw' hh' ha
      · by_cases hq : wh = 0
        · exact absurd (by rw [ha]; simp [wantE, hq]) hz
        · rw [show wantE 3 ww wh true (sideB wh) = 1 by simp [wantE, hq]]
          exact pof5 W H ww wh w hw' hh' ha hq
    · cases hb : sideB wh
      · rw [show wantE 4 ww wh (sideB ww) false = 2 by simp [wantE]]
        exact pof6 W H ww wh w hw' hh' hb
      · by_cases hq : ww = 0
        · exact absurd (by rw [hb]; simp [wantE, hq]) hz
        · rw [show wantE 4 ww wh (sideB ww) true = 1 by simp [wantE, hq]]
          exact pof7 W H ww wh w hw' hh' hb hq
end Go.Proofs.Ytkobenohijipeaa
