/- DERIVED. What the small functions on days return: quotients rounded down, leap years, days of years and months, the reference's way back from a day. Conditions: the bounds on the numbers that each theorem names. -/
import Derived.Test.YtgkogoojfnkpoaaDoorRows
import Derived.Test.YtgkogoojfnkpoaaDoorCal
import Derived.WalkKit
import Derived.Lib.Hide
namespace Go.Proofs.YtgkogoojfnkpoaaDoor
open Go.RowKit

theorem floor_neg (a b : Int) (ha : a < 0) (hb : 0 < b) : (a.tmod b < 0 ∧ a.tdiv b - 1 = a / b ∧ a / b ≤ 0) ∨ (a.tmod b = 0 ∧ a.tdiv b = a / b ∧ a / b ≤ 0) := by
  have hle : a / b ≤ 0 := Int.ediv_nonpos_of_nonpos_of_neg (by omega) (by omega)
  by_cases hd : b ∣ a
  · refine .inr ⟨?_, ?_, hle⟩
    · exact Int.tmod_eq_zero_of_dvd hd
    · rw [Int.tdiv_eq_ediv, if_pos (.inr hd)]; omega
  · refine .inl ⟨?_, ?_, hle⟩
    · have h := Int.tmod_add_mul_tdiv a b
      have h2 : a.tmod b ≠ 0 := fun e => hd (Int.dvd_of_tmod_eq_zero e)
      have h3 : 0 ≤ (-a).tmod b := Int.tmod_nonneg b (by omega)
      rw [Int.neg_tmod] at h3
      omega
    · rw [Int.tdiv_eq_ediv, if_neg (by omega), Int.sign_eq_one_of_pos hb]; omega
theorem div_bd (a b : Int) (hb : 0 < b) (h1 : -100000000 ≤ a) : -100000000 ≤ a / b := by
  refine (Int.le_ediv_iff_mul_le hb).2 ?_
  have : (-100000000 : Int) * b ≤ -100000000 * 1 := Int.mul_le_mul_of_nonpos_left (by omega) (by omega)
  omega

set_option maxHeartbeats 400000 in
theorem floor_any (a b : Int) (w : World) (h1 : -100000000 ≤ a) (h2 : a ≤ 100000000) (hb : 1 ≤ b) (hb2 : b ≤ 1000000) :
    Calls Tryd.prog 44 #[.int .i64 a, .int .i64 b] w fun e w' => e = .returned (.int .i64 (a / b)) ∧ w = w' := by
  have hb0 : b ≠ 0 := by omega
  by_cases h0 : 0 ≤ a
  · have hm : 0 ≤ a % b := Int.emod_nonneg _ hb0
    have hm' : ¬ a % b < 0 := by omega
    go_enter Tryd.func44, Tryd.ntmps44
    go_wp2
    go_ret
    exact ⟨rfl, rfl⟩
  · have hn : a < 0 := by omega
    have hbd := div_bd a b (by omega) h1
    rcases floor_neg a b hn (by omega) with ⟨e1, e2, e3⟩ | ⟨e1, e2, e3⟩
    · obtain ⟨q, hq⟩ : ∃ q, q = a / b := ⟨_, rfl⟩
      rw [← hq] at e2 e3 hbd ⊢
      have HQ := Lib.hid hq; clear hq
      have e4 : a.tdiv b = q + 1 := by omega
      clear e2
      go_enter Tryd.func44, Tryd.ntmps44
      go_wp2
      go_ret
      exact ⟨rfl, rfl⟩
    · obtain ⟨q, hq⟩ : ∃ q, q = a / b := ⟨_, rfl⟩
      rw [← hq] at e2 e3 hbd ⊢
      have HQ := Lib.hid hq; clear hq
      go_enter Tryd.func44, Tryd.ntmps44
      go_wp2
      go_ret
      exact ⟨rfl, rfl⟩

theorem leapB_mk (y : Int) (b : Bool) (h : b = true ↔ (y % 4 = 0 ∧ (y % 100 ≠ 0 ∨ y % 400 = 0))) : b = Cal.leapB y := by
  unfold Cal.leapB; rw [Bool.eq_iff_iff, h]; simp
theorem ret_bool {a b : Bool} (h : a = b) : Ending.returned (.bool a) = .returned (.bool b) := by rw [h]
theorem ret_int {k : IntKind} {a b : Int} (h : a = b) : Ending.returned (.int k a) = .returned (.int k b) := by rw [h]

set_option maxHeartbeats 400000 in
theorem isLeap_any (y : Int) (w : World) (h0 : 0 ≤ y) (h1 : y ≤ 1000000) :
    Calls Tryd.prog 53 #[.int .i64 y] w fun e w' => e = .returned (.bool (Cal.leapB y)) ∧ w = w' := by
  by_cases h4 : y % 4 = 0
  · by_cases h100 : y % 100 = 0
    · by_cases h400 : y % 400 = 0
      all_goals
        go_enter Tryd.func53, Tryd.ntmps53
        go_wp2
        go_ret
        exact ⟨ret_bool (leapB_mk _ _ (by simp; omega)), rfl⟩
    · go_enter Tryd.func53, Tryd.ntmps53
      go_wp2
      go_ret
      exact ⟨ret_bool (leapB_mk _ _ (by simp; omega)), rfl⟩
  · go_enter Tryd.func53, Tryd.ntmps53
    go_wp2
    go_ret
    exact ⟨ret_bool (leapB_mk _ _ (by simp; omega)), rfl⟩
set_option maxHeartbeats 400000 in
theorem leap_any (y : Int) (w : World) (h0 : 0 ≤ y) (h1 : y ≤ 1000000) :
    Calls Tryd.prog 55 #[.int .i64 y] w fun e w' => e = .returned (.bool (Cal.leapB y)) ∧ w = w' := by
  by_cases h4 : y % 4 = 0
  · by_cases h100 : y % 100 = 0
    · by_cases h400 : y % 400 = 0
      all_goals
        go_enter Tryd.func55, Tryd.ntmps55
        go_wp2
        go_ret
        exact ⟨ret_bool (leapB_mk _ _ (by simp; omega)), rfl⟩
    · go_enter Tryd.func55, Tryd.ntmps55
      go_wp2
      go_ret
      exact ⟨ret_bool (leapB_mk _ _ (by simp; omega)), rfl⟩
  · go_enter Tryd.func55, Tryd.ntmps55
    go_wp2
    go_ret
    exact ⟨ret_bool (leapB_mk _ _ (by simp; omega)), rfl⟩

set_option maxHeartbeats 400000 in
theorem yearDay_any (y : Int) (w : World) (h0 : 0 ≤ y) (h1 : y ≤ 10000) :
    Calls Tryd.prog 56 #[.int .i64 y] w fun e w' => e = .returned (.int .i64 (Cal.yearDay y)) ∧ w = w' := by
  have b4 : -600 ≤ (y - 2001) / 4 ∧ (y - 2001) / 4 ≤ 2000 := by omega
  have b100 : -600 ≤ (y - 2001) / 100 ∧ (y - 2001) / 100 ≤ 2000 := by omega
  have b400 : -600 ≤ (y - 2001) / 400 ∧ (y - 2001) / 400 ≤ 2000 := by omega
  obtain ⟨c1, c2⟩ := b4
  obtain ⟨c3, c4⟩ := b100
  obtain ⟨c5, c6⟩ := b400
  go_enter Tryd.func56, Tryd.ntmps56
  go_wp2_with (go_at_call 44; refine (floor_any _ _ _ (by omega) (by omega) (by omega) (by omega)).mono ?_; rintro e w' ⟨rfl, rfl⟩)
  go_ret
  exact ⟨rfl, rfl⟩

theorem daysOfYear_any (y : Int) (w : World) (h0 : 0 ≤ y) (h1 : y ≤ 1000000) :
    Calls Tryd.prog 38 #[.int .i64 y] w fun e w' => e = .returned (.int .i64 (365 + Cal.lp y)) ∧ w = w' := by
  have HL := Lib.hid (Cal.lp_leap y)
  cases hl : Cal.leapB y
  all_goals
    go_enter Tryd.func38, Tryd.ntmps38
    go_wp2_with (go_at_call 53; refine (isLeap_any _ _ (by omega) (by omega)).mono ?_; rintro e w' ⟨rfl, rfl⟩)
    go_ret
    exact ⟨ret_int (by rw [HL.out, hl]; rfl), rfl⟩

set_option maxHeartbeats 400000 in
theorem daysOfMonth_any (y m : Int) (w : World) (h0 : 0 ≤ y) (h1 : y ≤ 1000000) :
    Calls Tryd.prog 37 #[.int .i64 y, .int .i64 m] w fun e w' => e = .returned (.int .i64 (Cal.dim y m)) ∧ w = w' := by
  by_cases h2 : m = 2
  · subst h2
    have HL := Lib.hid (Cal.lp_leap y)
    cases hl : Cal.leapB y
    all_goals
      go_enter Tryd.func37, Tryd.ntmps37
      go_wp2_with (go_at_call 53; refine (isLeap_any _ _ (by omega) (by omega)).mono ?_; rintro e w' ⟨rfl, rfl⟩)
      go_ret
      exact ⟨ret_int (by unfold Cal.dim; rw [HL.out, hl]; rfl), rfl⟩
  · by_cases h4 : m = 4 ∨ m = 6 ∨ m = 9 ∨ m = 11
    · have hd : Cal.dim y m = 30 := by unfold Cal.dim; rw [if_neg h2, if_pos h4]
      rw [hd]
      rcases h4 with rfl | rfl | rfl | rfl
      all_goals
        clear hd h2
        go_enter Tryd.func37, Tryd.ntmps37
        go_wp2
        go_ret
        exact ⟨rfl, rfl⟩
    · have hd : Cal.dim y m = 31 := by unfold Cal.dim; rw [if_neg h2, if_neg h4]
      rw [hd]
      clear hd
      have n4 : ¬ m = 4 := fun e => h4 (.inl e)
      have n6 : ¬ m = 6 := fun e => h4 (.inr (.inl e))
      have n9 : ¬ m = 9 := fun e => h4 (.inr (.inr (.inl e)))
      have n11 : ¬ m = 11 := fun e => h4 (.inr (.inr (.inr e)))
      clear h4
      go_enter Tryd.func37, Tryd.ntmps37
      go_wp2
      go_ret
      exact ⟨rfl, rfl⟩

def dayB (d : Int) : Bool := decide (0 ≤ d ∧ d ≤ 84005)
theorem isDay_any (d : Int) (w : World) :
    Calls Tryd.prog 22 #[.int .i64 d] w fun e w' => e = .returned (.bool (dayB d)) ∧ w = w' := by
  by_cases h : 0 ≤ d
  · by_cases h' : d ≤ 84005
    all_goals
      go_enter Tryd.func22, Tryd.ntmps22
      go_wp2
      go_ret
      exact ⟨ret_bool (by unfold dayB; simp [h, h']), rfl⟩
  · go_enter Tryd.func22, Tryd.ntmps22
    go_wp2
    go_ret
    exact ⟨ret_bool (by unfold dayB; simp; omega), rfl⟩
theorem isDayR_any (d : Int) (w : World) :
    Calls Tryd.prog 11 #[.int .i64 d] w fun e w' => e = .returned (.bool (dayB d)) ∧ w = w' := by
  by_cases h : 0 ≤ d
  · by_cases h' : d ≤ 84005
    all_goals
      go_enter Tryd.func11, Tryd.ntmps11
      go_wp2
      go_ret
      exact ⟨ret_bool (by unfold dayB; simp [h, h']), rfl⟩
  · go_enter Tryd.func11, Tryd.ntmps11
    go_wp2
    go_ret
    exact ⟨ret_bool (by unfold dayB; simp; omega), rfl⟩
end Go.Proofs.YtgkogoojfnkpoaaDoor
