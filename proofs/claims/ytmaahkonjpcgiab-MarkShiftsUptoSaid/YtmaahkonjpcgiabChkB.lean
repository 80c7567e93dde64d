/- DERIVED. Which kind fits in which: what fits and permitted return for every two numbers. No condition. -/
import Derived.Test.YtmaahkonjpcgiabChkA
import Derived.BigGuardPart
namespace Go.Proofs.Ytmaahkonjpcgiab
open Go.RowKit

theorem isInline_any (k : Int) (w : World) : Calls Try.prog 40 #[.int .i64 k] w fun e w' => e = .returned (.bool (decide (11 ≤ k ∧ k ≤ 18))) ∧ w = w' := by
  by_cases h1 : 11 ≤ k
  · by_cases h2 : k ≤ 18
    · go_enter Try.func40, Try.ntmps40
      go_wp2
      go_ret
      exact ⟨retB (by simp [h1, h2]), rfl⟩
    · go_enter Try.func40, Try.ntmps40
      go_wp2
      go_ret
      exact ⟨retB (by simp; omega), rfl⟩
  · go_enter Try.func40, Try.ntmps40
    go_wp2
    go_ret
    exact ⟨retB (by simp; omega), rfl⟩
theorem isInlineR_any (k : Int) (w : World) : Calls Try.prog 36 #[.int .i64 k] w fun e w' => e = .returned (.bool (decide (11 ≤ k ∧ k ≤ 18))) ∧ w = w' := by
  by_cases h1 : 11 ≤ k
  · by_cases h2 : k ≤ 18
    · go_enter Try.func36, Try.ntmps36
      go_wp2
      go_ret
      exact ⟨retB (by simp [h1, h2]), rfl⟩
    · go_enter Try.func36, Try.ntmps36
      go_wp2
      go_ret
      exact ⟨retB (by simp; omega), rfl⟩
  · go_enter Try.func36, Try.ntmps36
    go_wp2
    go_ret
    exact ⟨retB (by simp; omega), rfl⟩
theorem isBlockR_any (k : Int) (w : World) : Calls Try.prog 50 #[.int .i64 k] w fun e w' => e = .returned (.bool (decide (1 ≤ k ∧ k ≤ 10))) ∧ w = w' := by
  by_cases h1 : 1 ≤ k
  · by_cases h2 : k ≤ 10
    · go_enter Try.func50, Try.ntmps50
      go_wp2
      go_ret
      exact ⟨retB (by simp [h1, h2]), rfl⟩
    · go_enter Try.func50, Try.ntmps50
      go_wp2
      go_ret
      exact ⟨retB (by simp; omega), rfl⟩
  · go_enter Try.func50, Try.ntmps50
    go_wp2
    go_ret
    exact ⟨retB (by simp; omega), rfl⟩

theorem ps (p : Int) : p = 0 ∨ p = 4 ∨ p = 6 ∨ p = 5 ∨ p = 8 ∨ p = 9 ∨ p = 1 ∨ p = 2 ∨ p = 10 ∨ p = 14 ∨ p = 15 ∨ p = 17 ∨
    (p ≠ 0 ∧ p ≠ 4 ∧ p ≠ 6 ∧ p ≠ 5 ∧ p ≠ 8 ∧ p ≠ 9 ∧ p ≠ 1 ∧ p ≠ 2 ∧ p ≠ 10 ∧ p ≠ 14 ∧ p ≠ 15 ∧ p ≠ 17) := by omega

set_option maxRecDepth 100000 in
set_option maxHeartbeats 1600000 in
theorem fits_any (k p : Int) (w : World) : Calls Try.prog 46 #[.int .i64 k, .int .i64 p] w fun e w' => e = .returned (.bool (fitB k p)) ∧ w = w' := by
  rcases ps p with rfl | rfl | rfl | rfl | rfl | rfl | rfl | rfl | rfl | rfl | rfl | rfl | ⟨a1, a2, a3, a4, a5, a6, a7, a8, a9, a10, a11, a12⟩
  rotate_right
  · go_enter Try.func46, Try.ntmps46
    go_wp2_with fail
    go_ret
    exact ⟨retB (by simp [fitB, a1, a2, a3, a4, a5, a6, a7, a8, a9, a10, a11, a12]), rfl⟩
  all_goals (
    go_enter Try.func46, Try.ntmps46
    go_wp2_with (go_at_call 40; refine (isInline_any _ _).mono ?_; rintro e w' ⟨rfl, rfl⟩)
    all_goals go_ret
    all_goals exact ⟨retB (by first | (simp [fitB]; done) | (simp [fitB]; omega) | (rw [Bool.eq_iff_iff]; simp [fitB]; done) | (rw [Bool.eq_iff_iff]; simp [fitB]; omega)), rfl⟩)
set_option maxRecDepth 100000 in
set_option maxHeartbeats 1600000 in
theorem permitted_any (k p : Int) (w : World) : Calls Try.prog 43 #[.int .i64 p, .int .i64 k] w fun e w' => e = .returned (.bool (fitB k p)) ∧ w = w' := by
  rcases ps p with rfl | rfl | rfl | rfl | rfl | rfl | rfl | rfl | rfl | rfl | rfl | rfl | ⟨a1, a2, a3, a4, a5, a6, a7, a8, a9, a10, a11, a12⟩
  rotate_right
  · go_enter Try.func43, Try.ntmps43
    go_wp2_with fail
    go_ret
    exact ⟨retB (by simp [fitB, a1, a2, a3, a4, a5, a6, a7, a8, a9, a10, a11, a12]), rfl⟩
  all_goals (
    go_enter Try.func43, Try.ntmps43
    go_wp2_with (first | (go_at_call 36; refine (isInlineR_any _ _).mono ?_; rintro e w' ⟨rfl, rfl⟩) | (go_at_call 50; refine (isBlockR_any _ _).mono ?_; rintro e w' ⟨rfl, rfl⟩))
    all_goals go_ret
    all_goals exact ⟨retB (by first | (simp [fitB]; done) | (simp [fitB]; omega) | (rw [Bool.eq_iff_iff]; simp [fitB]; done) | (rw [Bool.eq_iff_iff]; simp [fitB]; omega)), rfl⟩)
end Go.Proofs.Ytmaahkonjpcgiab
