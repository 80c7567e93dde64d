/- DERIVED. Sides and rounded quotients, program and reference, for numbers in range. No condition. -/
import Derived.Test.YthlkibadiiiohaaDoorRows
import Derived.WalkKit
import Derived.WalkSpells
import Derived.WalkLawsBesides
import Derived.BigQuiet
import Derived.Lib.Hide
namespace Go.Proofs.YthlkibadiiiohaaDoor
open Go.RowKit
set_option linter.unusedVariables false
def sideB (n : Int) : Bool := decide (1 ≤ n) && decide (n ≤ 64)
theorem sideB_true {n : Int} (h1 : 1 ≤ n) (h2 : n ≤ 64) : sideB n = true := by simp [sideB, h1, h2]
theorem sideB_lo {n : Int} (h1 : n < 1) : sideB n = false := by simp [sideB]; omega
theorem sideB_hi {n : Int} (h1 : 64 < n) : sideB n = false := by simp [sideB]; omega
theorem sideB_inv {n : Int} (h : sideB n = true) : 1 ≤ n ∧ n ≤ 64 := by simpa [sideB] using h
theorem sideB_not {n : Int} (h : ¬ (1 ≤ n ∧ n ≤ 64)) : sideB n = false := by simp [sideB]; omega
theorem pSide_any (n : Int) (w : World) : Calls Tryd.prog 30 #[.int .i64 n] w fun e w' => e = .returned (.bool (sideB n)) ∧ w = w' := by
  by_cases h1 : n < 1
  · rw [sideB_lo h1]
    go_enter Tryd.func30, Tryd.ntmps30
    go_wp2_with fail
    go_ret
    exact ⟨rfl, rfl⟩
  go_enter Tryd.func30, Tryd.ntmps30
  go_wp2_with fail
  go_ret
  refine ⟨?_, rfl⟩
  show Ending.returned (.bool (decide (n ≤ 64))) = _
  rw [show sideB n = decide (n ≤ 64) by simp [sideB]; omega]
theorem prod_le {a b m n : Int} (ha : 0 ≤ a) (hb : 0 ≤ b) (h1 : a ≤ m) (h2 : b ≤ n) : 0 ≤ a * b ∧ a * b ≤ m * n :=
  ⟨Int.mul_nonneg ha hb, Int.mul_le_mul h1 h2 hb (by omega)⟩
end Go.Proofs.YthlkibadiiiohaaDoor
