/- DERIVED. Which kind fits in which: what fits and permitted return for every two numbers. No condition. -/
import Derived.Test.YtmaahkonjpcgiaaChkA
import Derived.BigGuardPart
namespace Go.Proofs.Ytmaahkonjpcgiaa
open Go.RowKit

theorem isInline_any (k : Int) (w : World) : Calls Try.prog 65 #[.int .i64 k] w fun e w' => e = .returned (.bool (decide (11 ≤ k ∧ k ≤ 18))) ∧ w = w' := by
  by_cases h1 : 11 ≤ k
  · by_cases h2 : k ≤ 18
    · go_enter Try.func65, Try.ntmps65
      go_wp2
      go_ret
      exact ⟨retB (by simp [h1, h2]), rfl⟩
    · go_enter Try.func65, Try.ntmps65
      go_wp2
      go_ret
      exact ⟨retB (by simp; omega), rfl⟩
  · go_enter Try.func65, Try.ntmps65
    go_wp2
    go_ret
    exact ⟨retB (by simp; omega), rfl⟩
theorem isInlineR_any (k : Int) (w : World) : Calls Try.prog 49 #[.int .i64 k] w fun e w' => e = .returned (.bool (decide (11 ≤ k ∧ k ≤ 18))) ∧ w = w' := by
  by_cases h1 : 11 ≤ k
  · by_cases h2 : k ≤ 18
    · go_enter Try.func49, Try.ntmps49
      go_wp2
      go_ret
      exact ⟨retB (by simp [h1, h2]), rfl⟩
    · go_enter Try.func49, Try.ntmps49
      go_wp2
      go_ret
      exact ⟨retB (by simp; omega), rfl⟩
  · go_enter Try.func49, Try.ntmps49
    go_wp2
    go_ret
    exact ⟨retB (by simp; omega), rfl⟩
theorem isBlockR_any (k : Int) (w : World) : Calls Try.prog 81 #[.int .i64 k] w fun e w' => e = .returned (.bool (decide (1 ≤ k ∧ k ≤ 10))) ∧ w = w' := by
  by_cases h1 : 1 ≤ k
  · by_cases h2 : k ≤ 10
    · go_enter Try.func81, Try.ntmps81
      go_wp2
      go_ret
      exact ⟨retB (by simp [h1, h2]), rfl⟩
    · go_enter Try.func81, Try.ntmps81
      go_wp2
      go_ret
      exact ⟨retB (by simp; omega), rfl⟩
  · go_enter Try.func81, Try.ntmps81
    go_wp2
    go_ret
    exact ⟨retB (by simp; omega), rfl⟩

theorem ps (p : Int) : p = 0 ∨ p = 4 ∨ p = 6 ∨ p = 5 ∨ p = 8 ∨ p = 9 ∨ p = 1 ∨ p = 2 ∨ p = 10 ∨ p = 14 ∨ p = 15 ∨ p = 17 ∨
    (p ≠ 0 ∧ p ≠ 4 ∧ p ≠ 6 ∧ p ≠ 5 ∧ p ≠ 8 ∧ p ≠ 9 ∧ p ≠ 1 ∧ p ≠ 2 ∧ p ≠ 10 ∧ p ≠ 14 ∧ p ≠ 15 ∧ p ≠ 17) := by omega

set_option maxRecDepth 100000 in
set_option maxHeartbeats 1600000 in
theorem fits_any (k p : Int) (w : World) : Calls Try.prog 78 #[.int .i64 k, .int .i64 p] w fun e w' => e = .returned (.bool (fitB k p)) ∧ w = w' := by
  rcases ps p with rfl | rfl | rfl | rfl | rfl | rfl | rfl | rfl | rfl | rfl | rfl | rfl | ⟨a1, a2, a3, a4, a5, a6, a7, a8, a9, a10, a11, a12⟩
  rotate_right
  · go_enter Try.func78, Try.ntmps78
    go_wp2_with fail
    go_ret
    exact ⟨retB (by simp [fitB, a1, a2, a3, a4, a5, a6, a7, a8, a9, a10, a11, a12]), rfl⟩
  all_goals (
    go_enter Try.func78, Try.ntmps78
    go_wp2_with (go_at_call 65; refine (isInline_any _ _).mono ?_; rintro e w' ⟨rfl, rfl⟩)
    all_goals go_ret
    all_goals exact ⟨retB (by first | (simp [fitB]; done) | (simp [fitB]; omega) | (rw [Bool.eq_iff_iff]; simp [fitB]; done) | (rw [Bool.eq_iff_iff]; simp [fitB]; omega)), rfl⟩)
set_option maxRecDepth 100000 in
set_option maxHeartbeats 1600000 in
theorem permitted_any (k p : Int) (w : World) : Calls Try.prog 67 #[.int .i64 p, .int .i64 k] w fun e w' => e = .returned (.bool (fitB k p)) ∧ w = w' := by
  rcases ps p with rfl | rfl | rfl | rfl | rfl | rfl | rfl | rfl | rfl | rfl | rfl | rfl | ⟨a1, a2, a3, a4, a5, a6, a7, a8, a9, a10, a11, a12⟩
  rotate_right
  · go_enter Try.func67, Try.ntmps67
    go_wp2_with fail
    go_ret
    exact ⟨retB (by simp [fitB, a1, a2, a3, a4, a5, a6, a7, a8, a9, a10, a11, a12]), rfl⟩
  all_goals (
    go_enter Try.func67, Try.ntmps67
    go_wp2_with (first | (go_at_call 49; refine (isInlineR_any _ _).mono ?_; rintro e w' ⟨rfl, rfl⟩) | (go_at_call 81; refine (isBlockR_any _ _).mono ?_; rintro e w' ⟨rfl, rfl⟩))
    all_goals go_ret
    all_goals exact ⟨retB (by first | (simp [fitB]; done) | (simp [fitB]; omega) | (rw [Bool.eq_iff_iff]; simp [fitB]; done) | (rw [Bool.eq_iff_iff]; simp [fitB]; omega)), rfl⟩)
end Go.Proofs.Ytmaahkonjpcgiaa
