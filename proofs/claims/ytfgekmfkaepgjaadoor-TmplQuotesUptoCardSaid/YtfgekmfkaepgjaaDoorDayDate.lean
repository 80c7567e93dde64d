/- DERIVED. Each day has one date, and conf.date returns it, as the reference's DateOfDay does. Condition: it is a day. -/
import Derived.Test.YtfgekmfkaepgjaaDoorDayConf
namespace Go.Proofs.YtfgekmfkaepgjaaDoor
open Go.RowKit
theorem cumL_mono (y a : Int) (h1 : 1 ≤ a) : ∀ n : Nat, a + n ≤ 13 → Cal.cumL y a ≤ Cal.cumL y (a + n)
  | 0, _ => by simp
  | n + 1, h => by
    have := cumL_mono y a h1 n (by omega)
    have hs := Cal.cumL_succ y (a + n) (by omega) (by omega)
    have hd := (Cal.dim_bd y (a + n)).1
    rw [show a + ((n + 1 : Nat) : Int) = a + n + 1 by omega]
    omega
theorem cumL_le (y a b : Int) (h1 : 1 ≤ a) (h : a ≤ b) (h2 : b ≤ 13) : Cal.cumL y a ≤ Cal.cumL y b := by
  have := cumL_mono y a h1 (b - a).toNat (by omega)
  rw [show a + ((b - a).toNat : Int) = b by omega] at this
  exact this
theorem day_date : ∀ n : Nat, n ≤ 84005 → ∃ y m k : Int, okDay y m k ∧ Cal.rd y m k = (n : Int) - 11323
  | 0, _ => ⟨1970, 1, 1, by unfold okDay; decide, by decide⟩
  | n + 1, h => by
    obtain ⟨y, m, k, ⟨h1, h2, h3, h4, h5, h6⟩, hr⟩ := day_date n (by omega)
    by_cases e : k < Cal.dim y m
    · exact ⟨y, m, k + 1, ⟨h1, h2, h3, h4, by omega, by omega⟩, by unfold Cal.rd at hr ⊢; omega⟩
    have hk : k = Cal.dim y m := by omega
    have h1k : Cal.rd y m k = Cal.rd y m 1 + Cal.dim y m - 1 := by unfold Cal.rd; omega
    by_cases em : m ≤ 11
    · refine ⟨y, m + 1, 1, ⟨h1, h2, by omega, by omega, by omega, by have := Cal.dim_bd y (m + 1); omega⟩, ?_⟩
      rw [Cal.rd_next y m h3 em]; omega
    · obtain rfl : m = 12 := by omega
      have hn := Cal.rd_year y
      have hy : y + 1 ≤ 2199 := by
        by_cases e2 : y = 2199
        · subst e2
          have hd : Cal.rd (2199 + 1) 1 1 = 72683 := by decide
          omega
        · omega
      refine ⟨y + 1, 1, 1, ⟨by omega, hy, by omega, by omega, by omega, by have := Cal.dim_bd (y + 1) 1; omega⟩, ?_⟩
      omega
/-- A day's date. -/
theorem date_of (d : Int) (h0 : 0 ≤ d) (h1 : d ≤ 84005) : okDay (Cal.py (d - 11323)) (Cal.pm (d - 11323)) (Cal.pk (d - 11323)) ∧ Cal.rd (Cal.py (d - 11323)) (Cal.pm (d - 11323)) (Cal.pk (d - 11323)) = d - 11323 := by
  obtain ⟨y, m, k, ⟨a1, a2, a3, a4, a5, a6⟩, hr⟩ := day_date d.toNat (by omega)
  rw [Int.toNat_of_nonneg h0] at hr
  obtain ⟨e1, e2, e3⟩ := (parts_int y m k a1 a2 a3 a4 a5 (by have := Cal.dim_bd y m; omega)).1 a6
  rw [hr] at e1 e2 e3
  rw [e1, e2, e3]
  exact ⟨⟨a1, a2, a3, a4, a5, a6⟩, hr⟩
set_option maxRecDepth 100000 in
set_option maxHeartbeats 1000000 in
theorem date_any (d : Int) (w : World) (h0 : 0 ≤ d) (h1 : d ≤ 84005) :
    Calls Tryd.prog 33 #[.int .i64 d] w fun e w' => e = tup3 (Cal.py (d - 11323)) (Cal.pm (d - 11323)) (Cal.pk (d - 11323)) ∧ w = w' := by
  obtain ⟨⟨a1, a2, a3, a4, a5, a6⟩, hr⟩ := date_of d h0 h1
  generalize Cal.py (d - 11323) = y at *
  generalize Cal.pm (d - 11323) = m at *
  generalize Cal.pk (d - 11323) = k at *
  have hd : d = Cal.yearDay y + 11323 + (Cal.cumL y m + k - 1) := by unfold Cal.rd at hr; omega
  have HD := Lib.hid hd; clear hd hr
  have HE : Cal.cumL y m + k ≤ 365 + Cal.lp y := by
    have e1 := Cal.cumL_succ y m a3 a4
    have e2 := cumL_le y (m + 1) 13 (by omega) (by omega) (by omega)
    rw [Cal.cumL_13] at e2
    omega
  have HEh := Lib.hid HE; clear HE
  obtain ⟨b1, b2⟩ := Cal.cumL_bd y m
  have hk31 : k ≤ 31 := by have := Cal.dim_bd y m; omega
  go_enter Tryd.func33, Tryd.ntmps33
  go_wp2_with (fail)
  go_loop [0, 2] (fun s u => ∃ i : Int, 1970 ≤ i ∧ i ≤ y ∧ u = .int .i64 i ∧ s = .int .i64 (d - (Cal.yearDay i + 11323))) (fun _ u => (2200 - intOf u).toNat)
  case atStart => exact ⟨1970, by omega, by omega, rfl, by rw [Cal.yearDay_1970]; go_num⟩
  case round =>
    obtain ⟨i, hi1, hi2, rfl, rfl⟩ := hrel
    obtain ⟨c1, c2⟩ := Cal.yearDay_bd i (by omega) (by omega)
    obtain ⟨c3, c4⟩ := Cal.lp_01 i
    have HS := Lib.hid (Cal.yearDay_succ i)
    by_cases hlt : i < y
    · have hge : 365 + Cal.lp i ≤ d - (Cal.yearDay i + 11323) := by
        have e1 := Cal.yearDay_mono (i + 1) y (by omega)
        have e2 := HS.out
        have e3 := HD.out
        omega
      go_wp2_with (go_at_call 44; refine (daysOfYear_any _ _ (by omega) (by omega)).mono ?_; rintro e w' ⟨rfl, rfl⟩)
      go_round
      case rel => exact ⟨i + 1, by omega, by omega, rfl, by rw [HS.out]; congr 1; omega⟩
      case measure => simp [intOf]; omega
    · obtain rfl : i = y := by omega
      have hlo : d - (Cal.yearDay i + 11323) < 365 + Cal.lp i := by
        have e3 := HD.out
        have e4 := HEh.out
        omega
      go_wp2_with (go_at_call 44; refine (daysOfYear_any _ _ (by omega) (by omega)).mono ?_; rintro e w' ⟨rfl, rfl⟩)
      go_loop [0, 3] (fun s u => ∃ j : Int, 1 ≤ j ∧ j ≤ m ∧ u = .int .i64 j ∧ s = .int .i64 (Cal.cumL i m + k - 1 - Cal.cumL i j)) (fun _ u => (13 - intOf u).toNat)
      case atStart => exact ⟨1, by omega, by omega, rfl, by rw [Cal.cumL_1]; have e3 := HD.out; congr 1; omega⟩
      case round =>
        obtain ⟨j, hj1, hj2, rfl, rfl⟩ := hrel
        obtain ⟨e1, e2⟩ := Cal.cumL_bd i j
        obtain ⟨e3, e4⟩ := Cal.dim_bd i j
        have HC := Lib.hid (Cal.cumL_succ i j hj1 (by omega))
        by_cases hlj : j < m
        · have hge : Cal.dim i j ≤ Cal.cumL i m + k - 1 - Cal.cumL i j := by
            have e1 := cumL_le i (j + 1) m (by omega) (by omega) (by omega)
            have e2 := HC.out
            omega
          go_wp2_with (go_at_call 45; refine (daysOfMonth_any _ _ _ (by omega) (by omega)).mono ?_; rintro e w' ⟨rfl, rfl⟩)
          go_round
          case rel => exact ⟨j + 1, by omega, by omega, rfl, by rw [HC.out]; congr 1; omega⟩
          case measure => simp [intOf]; omega
        · obtain rfl : j = m := by omega
          have hlo2 : Cal.cumL i j + k - 1 - Cal.cumL i j < Cal.dim i j := by omega
          go_wp2_with (go_at_call 45; refine (daysOfMonth_any _ _ _ (by omega) (by omega)).mono ?_; rintro e w' ⟨rfl, rfl⟩)
          go_ret3
          exact ⟨tup3_of rfl rfl (by omega), rfl⟩
end Go.Proofs.YtfgekmfkaepgjaaDoor
