/- DERIVED. Sides and rounded quotients, program and reference, for numbers in range. No condition. -/
import Derived.Test.YtkobenohijipeaaRows
import Derived.WalkKit
import Derived.WalkSpells
import Derived.WalkLawsBesides
import Derived.BigQuiet
import Derived.Lib.Hide
namespace Go.Proofs.Ytkobenohijipeaa
open Go.RowKit
set_option linter.unusedVariables false
def sideB (n : Int) : Bool := decide (1 ≤ n) && decide (n ≤ 64)
theorem sideB_true {n : Int} (h1 : 1 ≤ n) (h2 : n ≤ 64) : sideB n = true := by simp [sideB, h1, h2]
theorem sideB_lo {n : Int} (h1 : n < 1) : sideB n = false := by simp [sideB]; omega
theorem sideB_hi {n : Int} (h1 : 64 < n) : sideB n = false := by simp [sideB]; omega
theorem sideB_inv {n : Int} (h : sideB n = true) : 1 ≤ n ∧ n ≤ 64 := by simpa [sideB] using h
theorem sideB_not {n : Int} (h : ¬ (1 ≤ n ∧ n ≤ 64)) : sideB n = false := by simp [sideB]; omega
theorem pSide_any (n : Int) (w : World) : Calls Try.prog 22 #[.int .i64 n] w fun e w' => e = .returned (.bool (sideB n)) ∧ w = w' := by
  by_cases h1 : n < 1
  · rw [sideB_lo h1]
    go_enter Try.func22, Try.ntmps22
    go_wp2_with fail
    go_ret
    exact ⟨rfl, rfl⟩
  go_enter Try.func22, Try.ntmps22
  go_wp2_with fail
  go_ret
  refine ⟨?_, rfl⟩
  show Ending.returned (.bool (decide (n ≤ 64))) = _
  rw [show sideB n = decide (n ≤ 64) by simp [sideB]; omega]
theorem rSide_any (n : Int) (w : World) : Calls Try.prog 26 #[.int .i64 n] w fun e w' => e = .returned (.bool (sideB n)) ∧ w = w' := by
  by_cases h1 : n < 1
  · rw [sideB_lo h1]
    go_enter Try.func26, Try.ntmps26
    go_wp2_with fail
    go_ret
    exact ⟨rfl, rfl⟩
  go_enter Try.func26, Try.ntmps26
  go_wp2_with fail
  go_ret
  refine ⟨?_, rfl⟩
  show Ending.returned (.bool (decide (n ≤ 64))) = _
  rw [show sideB n = decide (n ≤ 64) by simp [sideB]; omega]
/-- A quotient, rounded half up. -/
def rnd (n b : Int) : Int := (2 * n + b) / (2 * b)
theorem pRounded_any (n b : Int) (w : World) (hn : 0 ≤ n) (hn2 : n ≤ 1000000) (hb : 1 ≤ b) (hb2 : b ≤ 1000000) : Calls Try.prog 54 #[.int .i64 n, .int .i64 b] w fun e w' => e = .returned (.int .i64 (rnd n b)) ∧ w = w' := by
  go_enter Try.func54, Try.ntmps54
  go_wp2_with fail
  go_ret
  exact ⟨rfl, rfl⟩
theorem rRounded_any (n b : Int) (w : World) (hn : 0 ≤ n) (hn2 : n ≤ 1000000) (hb : 1 ≤ b) (hb2 : b ≤ 1000000) : Calls Try.prog 28 #[.int .i64 n, .int .i64 b] w fun e w' => e = .returned (.int .i64 (rnd n b)) ∧ w = w' := by
  go_enter Try.func28, Try.ntmps28
  go_wp2_with fail
  go_ret
  exact ⟨rfl, rfl⟩
theorem rnd_le {n b m : Int} (hb : 1 ≤ b) (hn : 0 ≤ n) (h : n ≤ m * b) (hm : 0 ≤ m) : 0 ≤ rnd n b ∧ rnd n b ≤ m := by
  unfold rnd
  refine ⟨Int.ediv_nonneg (by omega) (by omega), ?_⟩
  have : (2 * n + b) / (2 * b) < m + 1 := Int.ediv_lt_of_lt_mul (by omega) (by
    have : (m + 1) * (2 * b) = 2 * (m * b) + 2 * b := by rw [Int.add_mul, Int.one_mul, ← Int.mul_assoc, Int.mul_comm m 2, Int.mul_assoc]
    omega)
  omega
/-- A side as long as another one makes it. -/
def scl (side to b : Int) : Int := max 1 (rnd (side * to) b)
theorem prod_le {a b m n : Int} (ha : 0 ≤ a) (hb : 0 ≤ b) (h1 : a ≤ m) (h2 : b ≤ n) : 0 ≤ a * b ∧ a * b ≤ m * n :=
  ⟨Int.mul_nonneg ha hb, Int.mul_le_mul h1 h2 hb (by omega)⟩
theorem scaled_any (s t b : Int) (w : World) (hs : 0 ≤ s) (hs2 : s ≤ 64) (ht : 0 ≤ t) (ht2 : t ≤ 64) (hb : 1 ≤ b) (hb2 : b ≤ 64) : Calls Try.prog 24 #[.int .i64 s, .int .i64 t, .int .i64 b] w fun e w' => e = .returned (.int .i64 (scl s t b)) ∧ w = w' := by
  obtain ⟨h1, h2⟩ := prod_le hs ht hs2 ht2
  obtain ⟨q, hq⟩ : ∃ q, scl s t b = q := ⟨_, rfl⟩
  obtain ⟨p, hp⟩ : ∃ p, s * t = p := ⟨_, rfl⟩
  have H1 := Lib.hid (fun wX => pRounded_any p b wX (by omega) (by omega) hb (by omega))
  rw [hp] at h1 h2
  rw [hq]
  rw [show scl s t b = max 1 (rnd p b) by rw [← hp]; rfl] at hq
  have HQ := Lib.hid hq
  clear hq
  go_enter Try.func24, Try.ntmps24
  go_wp2
  all_goals (
    go_ret
    refine ⟨?_, rfl⟩
    have hq2 : max 1 ((2 * p + b) / (2 * b)) = q := HQ.out
    congr 1
    show Value.int .i64 _ = Value.int .i64 _
    congr 1
    omega)
end Go.Proofs.Ytkobenohijipeaa
