/- DERIVED. What the reference's parts and number return: the way back from a day to its date. Condition: the day lies within a million of 2001. -/
import Derived.Test.YtgkogoojfnkpoaaDoorDayFns
namespace Go.Proofs.YtgkogoojfnkpoaaDoor
open Go.RowKit
theorem pr_bd (d : Int) : 0 ≤ Cal.pr d ∧ Cal.pr d ≤ 146096 := by unfold Cal.pr; omega
theorem pv_bd (d : Int) : 0 ≤ Cal.pv d ∧ Cal.pv d ≤ 400 := by have := pr_bd d; unfold Cal.pv; omega
theorem pd_bd (d : Int) : 0 ≤ Cal.pd d ∧ Cal.pd d ≤ 146096 := by
  obtain ⟨h1, h1'⟩ := pr_bd d
  obtain ⟨h2, h2'⟩ := pv_bd d
  have hv : Cal.pv d = (Cal.pr d - Cal.pr d / 1460 + Cal.pr d / 36524 - Cal.pr d / 146096) / 365 := rfl
  unfold Cal.pd
  generalize Cal.pr d = r at *
  generalize Cal.pv d = v at *
  have he : r / 36524 = 0 ∨ r / 36524 = 1 ∨ r / 36524 = 2 ∨ r / 36524 = 3 ∨ r / 36524 = 4 := by omega
  have hf : r / 146096 = 0 ∨ r / 146096 = 1 := by omega
  have hh : v / 100 = 0 ∨ v / 100 = 1 ∨ v / 100 = 2 ∨ v / 100 = 3 ∨ v / 100 = 4 := by omega
  rcases he with he | he | he | he | he <;> rcases hf with hf | hf <;> rcases hh with hh | hh | hh | hh | hh <;> rw [he, hf] at hv <;> rw [hh] <;> omega
theorem pq_bd (d : Int) : 0 ≤ Cal.pq d ∧ Cal.pq d ≤ 10000 := by have := pd_bd d; unfold Cal.pq; omega
theorem prow_bd (d : Int) (h1 : -1000000 ≤ d) (h2 : d ≤ 1000000) : -10 ≤ (d + 730791) / 146097 ∧ (d + 730791) / 146097 ≤ 20 := by omega
def tup3 (y m k : Int) : Ending := .returned (.tuple #[.int .i64 y, .int .i64 m, .int .i64 k])
theorem tup3_of {y m k y' m' k' : Int} (h1 : y = y') (h2 : m = m') (h3 : k = k') : Ending.returned (.tuple #[.int .i64 y, .int .i64 m, .int .i64 k]) = tup3 y' m' k' := by subst h1 h2 h3; rfl
theorem py_hi (d : Int) (h : 9 < Cal.pq d) : Cal.py d = 400 * ((d + 730791) / 146097) + Cal.pv d + 1 := by unfold Cal.py; rw [if_pos h]
theorem py_lo (d : Int) (h : ¬ 9 < Cal.pq d) : Cal.py d = 400 * ((d + 730791) / 146097) + Cal.pv d := by unfold Cal.py; rw [if_neg h]
theorem pm_hi (d : Int) (h : 9 < Cal.pq d) : Cal.pm d = Cal.pq d - 9 := by unfold Cal.pm; rw [if_pos h]
theorem pm_lo (d : Int) (h : ¬ 9 < Cal.pq d) : Cal.pm d = Cal.pq d + 3 := by unfold Cal.pm; rw [if_neg h]

set_option maxRecDepth 100000 in
set_option maxHeartbeats 1000000 in
theorem parts_any (d : Int) (w : World) (h1 : -1000000 ≤ d) (h2 : d ≤ 1000000) :
    Calls Tryd.prog 25 #[.int .i64 d] w fun e w' => e = tup3 (Cal.py d) (Cal.pm d) (Cal.pk d) ∧ w = w' := by
  obtain ⟨a1, a2⟩ := pr_bd d
  obtain ⟨b1, b2⟩ := pv_bd d
  obtain ⟨c1, c2⟩ := pd_bd d
  obtain ⟨q1, q2⟩ := pq_bd d
  obtain ⟨r1, r2⟩ := prow_bd d h1 h2
  have hyh := py_hi d
  have hyl := py_lo d
  have hmh := pm_hi d
  have hml := pm_lo d
  have hk : Cal.pd d - (153 * Cal.pq d + 2) / 5 + 1 = Cal.pk d := rfl
  have hr : d + 730791 - 146097 * ((d + 730791) / 146097) = Cal.pr d := rfl
  have hv : (Cal.pr d - Cal.pr d / 1460 + Cal.pr d / 36524 - Cal.pr d / 146096) / 365 = Cal.pv d := rfl
  have hd : Cal.pr d - (365 * Cal.pv d + Cal.pv d / 4 - Cal.pv d / 100) = Cal.pd d := rfl
  have hq : (5 * Cal.pd d + 2) / 153 = Cal.pq d := rfl
  generalize Cal.py d = y at *
  generalize Cal.pm d = m at *
  generalize Cal.pk d = k at *
  generalize Cal.pq d = q at *
  generalize Cal.pd d = dd at *
  generalize Cal.pv d = v at *
  generalize Cal.pr d = r at *
  generalize hrow : (d + 730791) / 146097 = row at *
  have HYh := Lib.hid hyh; clear hyh
  have HYl := Lib.hid hyl; clear hyl
  have HMh := Lib.hid hmh; clear hmh
  have HMl := Lib.hid hml; clear hml
  by_cases h9 : 9 < q
  all_goals
    go_enter Tryd.func25, Tryd.ntmps25
    go_wp2_with (go_at_call 44; refine (floor_any _ _ _ (by omega) (by omega) (by omega) (by omega)).mono ?_; rintro e w' ⟨rfl, rfl⟩)
    go_ret3
    first
      | exact ⟨tup3_of (HYh.out h9).symm (by have := HMh.out h9; omega) rfl, rfl⟩
      | exact ⟨tup3_of (HYl.out h9).symm (HMl.out h9).symm rfl, rfl⟩

theorem number_any (d : Int) (w : World) (h1 : -1000000 ≤ d) (h2 : d ≤ 1000000) :
    Calls Tryd.prog 41 #[.int .i64 d] w fun e w' => e = .returned (.int .i64 (Cal.pk d)) ∧ w = w' := by
  go_enter Tryd.func41, Tryd.ntmps41
  go_wp2_with (go_at_call 25; refine (parts_any _ _ h1 h2).mono ?_; rintro e w' ⟨rfl, rfl⟩; unfold tup3)
  go_ret
  exact ⟨rfl, rfl⟩
theorem dateOfDay_any (d : Int) (w : World) (h1 : -900000 ≤ d) (h2 : d ≤ 900000) :
    Calls Tryd.prog 12 #[.int .i64 d] w fun e w' => e = tup3 (Cal.py (d - 11323)) (Cal.pm (d - 11323)) (Cal.pk (d - 11323)) ∧ w = w' := by
  go_enter Tryd.func12, Tryd.ntmps12
  go_wp2_with (go_at_call 25; refine (parts_any _ _ (by omega) (by omega)).mono ?_; rintro e w' ⟨rfl, rfl⟩; unfold tup3)
  go_ret3
  exact ⟨rfl, rfl⟩
end Go.Proofs.YtgkogoojfnkpoaaDoor
