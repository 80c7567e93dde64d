/- DERIVED. What conf's DayOf and date return: the day of a date, or an error; the date of a day. Condition: of date that it is a day. -/
import Derived.Test.YthmggjgfbhicgaaGreatDoorDayOfs
namespace Go.Proofs.YthmggjgfbhicgaaGreatDoor
open Go.RowKit
set_option maxRecDepth 100000 in
set_option maxHeartbeats 1000000 in
theorem dayOf_yes (y m k : Int) (w : World) (h : okDay y m k) :
    Calls Tryz.prog 10 #[.int .i64 y, .int .i64 m, .int .i64 k] w fun e w' => e = two (Cal.rd y m k + 11323) 0 ∧ w = w' := by
  obtain ⟨h1, h2, h3, h4, h5, h6⟩ := h
  obtain ⟨d1, d2⟩ := Cal.dim_bd y m
  have hR : Cal.rd y m k = Cal.yearDay y + Cal.cumL y m + k - 1 := rfl
  have HR := Lib.hid hR; clear hR
  go_enter Tryz.func10, Tryz.ntmps10
  go_wp2_with (go_at_call 20; refine (daysOfMonth_any _ _ _ (by omega) (by omega)).mono ?_; rintro e w' ⟨rfl, rfl⟩)
  go_loop [8, 9] (fun s u => ∃ i : Int, 1970 ≤ i ∧ i ≤ y ∧ u = .int .i64 i ∧ s = .int .i64 (k - 1 + (Cal.yearDay i + 11323))) (fun _ u => (y - intOf u).toNat)
  case atStart => exact ⟨1970, by omega, by omega, rfl, by rw [Cal.yearDay_1970]; go_num⟩
  case round =>
    obtain ⟨i, hi1, hi2, rfl, rfl⟩ := hrel
    obtain ⟨c1, c2⟩ := Cal.yearDay_bd i (by omega) (by omega)
    obtain ⟨c3, c4⟩ := Cal.lp_01 i
    have HS := Lib.hid (Cal.yearDay_succ i)
    by_cases hlt : i < y
    · go_wp2_with (go_at_call 21; refine (daysOfYear_any _ _ (by omega) (by omega)).mono ?_; rintro e w' ⟨rfl, rfl⟩)
      go_round
      case rel => exact ⟨i + 1, by omega, by omega, rfl, by rw [HS.out]; congr 1; omega⟩
      case measure => simp [intOf]; omega
    · obtain rfl : i = y := by omega
      go_wp2_with (fail)
      go_loop [8, 10] (fun s u => ∃ j : Int, 1 ≤ j ∧ j ≤ m ∧ u = .int .i64 j ∧ s = .int .i64 (k - 1 + (Cal.yearDay i + 11323) + Cal.cumL i j)) (fun _ u => (m - intOf u).toNat)
      case atStart => exact ⟨1, by omega, by omega, rfl, by rw [Cal.cumL_1]; go_num⟩
      case round =>
        obtain ⟨j, hj1, hj2, rfl, rfl⟩ := hrel
        obtain ⟨e1, e2⟩ := Cal.cumL_bd i j
        obtain ⟨e3, e4⟩ := Cal.dim_bd i j
        by_cases hlj : j < m
        · have HC := Lib.hid (Cal.cumL_succ i j hj1 (by omega))
          go_wp2_with (go_at_call 20; refine (daysOfMonth_any _ _ _ (by omega) (by omega)).mono ?_; rintro e w' ⟨rfl, rfl⟩)
          go_round
          case rel => exact ⟨j + 1, by omega, by omega, rfl, by rw [HC.out]; congr 1; omega⟩
          case measure => simp [intOf]; omega
        · obtain rfl : j = m := by omega
          go_wp2_with (fail)
          go_ret2
          exact ⟨two_of (by rw [HR.out]; omega), rfl⟩
set_option maxHeartbeats 1000000 in
theorem dayOf_no (y m k : Int) (w : World) (h : ¬ okDay y m k) :
    Calls Tryz.prog 10 #[.int .i64 y, .int .i64 m, .int .i64 k] w fun e w' => e = two 0 2 ∧ w = w' := by
  have H := Lib.hid h; clear h
  by_cases h1 : y < 1970
  · go_enter Tryz.func10, Tryz.ntmps10
    go_wp2
    go_ret2
    exact ⟨rfl, rfl⟩
  by_cases h2 : 2199 < y
  · go_enter Tryz.func10, Tryz.ntmps10
    go_wp2
    go_ret2
    exact ⟨rfl, rfl⟩
  by_cases h3 : m < 1
  · go_enter Tryz.func10, Tryz.ntmps10
    go_wp2
    go_ret2
    exact ⟨rfl, rfl⟩
  by_cases h4 : 12 < m
  · go_enter Tryz.func10, Tryz.ntmps10
    go_wp2
    go_ret2
    exact ⟨rfl, rfl⟩
  by_cases h5 : k < 1
  · go_enter Tryz.func10, Tryz.ntmps10
    go_wp2
    go_ret2
    exact ⟨rfl, rfl⟩
  have hd : Cal.dim y m < k := by
    by_cases e : k ≤ Cal.dim y m
    · exact absurd ⟨by omega, by omega, by omega, by omega, by omega, e⟩ H.out
    · omega
  go_enter Tryz.func10, Tryz.ntmps10
  go_wp2_with (go_at_call 20; refine (daysOfMonth_any _ _ _ (by omega) (by omega)).mono ?_; rintro e w' ⟨rfl, rfl⟩)
  go_ret2
  exact ⟨rfl, rfl⟩
end Go.Proofs.YthmggjgfbhicgaaGreatDoor
