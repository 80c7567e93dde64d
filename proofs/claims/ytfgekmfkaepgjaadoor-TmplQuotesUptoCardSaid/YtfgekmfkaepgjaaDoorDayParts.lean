/- DERIVED. What the reference's parts and number return: the way back from a day to its date. Condition: the day lies within a million of 2001. -/
import Derived.Test.YtfgekmfkaepgjaaDoorDayFns
namespace Go.Proofs.YtfgekmfkaepgjaaDoor
open Go.RowKit
theorem pr_bd (d : Int) : 0 ≤ Cal.pr d ∧ Cal.pr d ≤ 146096 := by unfold Cal.pr; omega
theorem pv_bd (d : Int) : 0 ≤ Cal.pv d ∧ Cal.pv d ≤ 400 := by have := pr_bd d; unfold Cal.pv; omega
theorem pd_bd (d : Int) : 0 ≤ Cal.pd d ∧ Cal.pd d ≤ 146096 := by
  obtain ⟨h1, h1'⟩ := pr_bd d
  obtain ⟨h2, h2'⟩ := pv_bd d
  have hv : Cal.pv d = (Cal.pr d - Cal.pr d / 1460 + Cal.pr d / 36524 - Cal.pr d / 146096) / 365 := rfl
  unfold Cal.pd
  generalize Cal.pr d = r at *
  generalize Cal.pv d = v at *
  have he : r / 36524 = 0 ∨ r / 36524 = 1 ∨ r / 36524 = 2 ∨ r / 36524 = 3 ∨ r / 36524 = 4 := by omega
  have hf : r / 146096 = 0 ∨ r / 146096 = 1 := by omega
  have hh : v / 100 = 0 ∨ v / 100 = 1 ∨ v / 100 = 2 ∨ v / 100 = 3 ∨ v / 100 = 4 := by omega
  rcases he with he | he | he | he | he <;> rcases hf with hf | hf <;> rcases hh with hh | hh | hh | hh | hh <;> rw [he, hf] at hv <;> rw [hh] <;> omega
theorem pq_bd (d : Int) : 0 ≤ Cal.pq d ∧ Cal.pq d ≤ 10000 := by have := pd_bd d; unfold Cal.pq; omega
theorem prow_bd (d : Int) (h1 : -1000000 ≤ d) (h2 : d ≤ 1000000) : -10 ≤ (d + 730791) / 146097 ∧ (d + 730791) / 146097 ≤ 20 := by omega
def tup3 (y m k : Int) : Ending := .returned (.tuple #[.int .i64 y, .int .i64 m, .int .i64 k])
theorem tup3_of {y m k y' m' k' : Int} (h1 : y = y') (h2 : m = m') (h3 : k = k') : Ending.returned (.tuple #[.int .i64 y, .int .i64 m, .int .i64 k]) = tup3 y' m' k' := by subst h1 h2 h3; rfl
theorem py_hi (d : Int) (h : 9 < Cal.pq d) : Cal.py d = 400 * ((d + 730791) / 146097) + Cal.pv d + 1 := by unfold Cal.py; rw [if_pos h]
theorem py_lo (d : Int) (h : ¬ 9 < Cal.pq d) : Cal.py d = 400 * ((d + 730791) / 146097) + Cal.pv d := by unfold Cal.py; rw [if_neg h]
theorem pm_hi (d : Int) (h : 9 < Cal.pq d) : Cal.pm d = Cal.pq d - 9 := by unfold Cal.pm; rw [if_pos h]
theorem pm_lo (d : Int) (h : ¬ 9 < Cal.pq d) : Cal.pm d = Cal.pq d + 3 := by unfold Cal.pm; rw [if_neg h]

end Go.Proofs.YtfgekmfkaepgjaaDoor
