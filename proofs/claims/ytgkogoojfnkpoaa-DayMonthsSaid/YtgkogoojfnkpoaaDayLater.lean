/- DERIVED. What AddMonths and LaterOf return: the day with the same number, or the last one, of the month so many months later; or an error. Conditions: for each case, those of the theorem. -/
import Derived.Test.YtgkogoojfnkpoaaDayDate
import Derived.WalkLawsBesides
namespace Go.Proofs.Ytgkogoojfnkpoaa
open Go.RowKit
theorem first_int (y m : Int) (h0 : 1715 ≤ y) (h1 : y ≤ 2454) (h2 : 1 ≤ m) (h3 : m ≤ 12) : Cal.py (Cal.rd y m 1) = y ∧ Cal.pm (Cal.rd y m 1) = m := by
  have h := Cal.parts_first y.toNat m.toNat (by omega) (by omega) (by omega) (by omega)
  rw [Int.toNat_of_nonneg (by omega), Int.toNat_of_nonneg (by omega)] at h
  exact h
/-- The first day so many months later, and the one after that month. -/
theorem ofs_first (y m n : Int) : ofs y (m + n) 1 = Cal.rd ((n + (y * 12 + m - 1)) / 12) ((n + (y * 12 + m - 1)) % 12 + 1) 1 := by
  unfold ofs
  congr 1 <;> omega
theorem ofs_next (y m n : Int) : ofs y (m + n + 1) 1 = Cal.rd ((n + (y * 12 + m - 1)) / 12) ((n + (y * 12 + m - 1)) % 12 + 1) 1 + Cal.dim ((n + (y * 12 + m - 1)) / 12) ((n + (y * 12 + m - 1)) % 12 + 1) := by
  unfold ofs
  generalize hT : n + (y * 12 + m - 1) = T
  by_cases e : T % 12 + 1 = 12
  · rw [e, ← Cal.rd_year]
    congr 1 <;> omega
  · rw [← Cal.rd_next _ _ (by omega) (by omega)]
    congr 1 <;> omega
theorem rd_wide (y m k : Int) (h0 : 1000 ≤ y) (h1 : y ≤ 3000) (h4 : 0 ≤ k) (h5 : k ≤ 31) : -900000 ≤ Cal.rd y m k ∧ Cal.rd y m k ≤ 900000 := by
  have a := Cal.cumL_bd y m
  unfold Cal.rd Cal.yearDay
  omega
/-- The number in the later month. -/
def less (k d : Int) : Int := if k ≤ d then k else d
theorem less_bd (k d : Int) (h : 1 ≤ k) (h2 : 28 ≤ d) : 1 ≤ less k d ∧ less k d ≤ d := by unfold less; split <;> omega
/-- What a day and months lead to. -/
def LaterOk (y m k n : Int) (e : Ending) : Prop :=
  (okDay ((n + (y * 12 + m - 1)) / 12) ((n + (y * 12 + m - 1)) % 12 + 1) (less k (Cal.dim ((n + (y * 12 + m - 1)) / 12) ((n + (y * 12 + m - 1)) % 12 + 1))) ∧ e = two (Cal.rd ((n + (y * 12 + m - 1)) / 12) ((n + (y * 12 + m - 1)) % 12 + 1) (less k (Cal.dim ((n + (y * 12 + m - 1)) / 12) ((n + (y * 12 + m - 1)) % 12 + 1))) + 11323) 0) ∨
  (¬ okDay ((n + (y * 12 + m - 1)) / 12) ((n + (y * 12 + m - 1)) % 12 + 1) (less k (Cal.dim ((n + (y * 12 + m - 1)) / 12) ((n + (y * 12 + m - 1)) % 12 + 1))) ∧ e = two 0 2)
theorem dayOf_any (y m k : Int) (w : World) : Calls Try.prog 6 #[.int .i64 y, .int .i64 m, .int .i64 k] w fun e w' => (∃ a b, e = two a b ∧ ((okDay y m k ∧ a = Cal.rd y m k + 11323 ∧ b = 0) ∨ (¬ okDay y m k ∧ a = 0 ∧ b = 2))) ∧ w = w' := by
  by_cases h : okDay y m k
  · exact (dayOf_yes y m k w h).mono fun e w' ⟨he, hw⟩ => ⟨⟨_, _, he, .inl ⟨h, rfl, rfl⟩⟩, hw⟩
  · exact (dayOf_no y m k w h).mono fun e w' ⟨he, hw⟩ => ⟨⟨_, _, he, .inr ⟨h, rfl, rfl⟩⟩, hw⟩
theorem dayOfR_any (y m k : Int) (w : World) : Calls Try.prog 7 #[.int .i64 y, .int .i64 m, .int .i64 k] w fun e w' => (∃ a b, e = two a b ∧ ((okDay y m k ∧ a = Cal.rd y m k + 11323 ∧ b = 0) ∨ (¬ okDay y m k ∧ a = 0 ∧ b = 2))) ∧ Below w.heap.size w w' := by
  by_cases h : okDay y m k
  · exact (dayOfR_yes y m k w h).mono fun e w' ⟨he, hw⟩ => ⟨⟨_, _, he, .inl ⟨h, rfl, rfl⟩⟩, hw⟩
  · exact (dayOfR_no y m k w h).mono fun e w' ⟨he, hw⟩ => ⟨⟨_, _, he, .inr ⟨h, rfl, rfl⟩⟩, hw⟩
theorem later_close {y m k n a b : Int} {Y M K : Int} (hY : (n + (y * 12 + m - 1)) / 12 = Y) (hM : (n + (y * 12 + m - 1)) % 12 + 1 = M) (hK : less k (Cal.dim Y M) = K)
    (h : (okDay Y M K ∧ a = Cal.rd Y M K + 11323 ∧ b = 0) ∨ (¬ okDay Y M K ∧ a = 0 ∧ b = 2)) : LaterOk y m k n (two a b) := by
  subst hY hM hK
  rcases h with ⟨h, rfl, rfl⟩ | ⟨h, rfl, rfl⟩
  · exact .inl ⟨h, rfl⟩
  · exact .inr ⟨h, rfl⟩
set_option maxRecDepth 100000 in
set_option maxHeartbeats 1000000 in
theorem addMonths_any (d n : Int) (w : World) (h0 : 0 ≤ d) (h1 : d ≤ 84005) (h2 : -3000 ≤ n) (h3 : n ≤ 3000) :
    Calls Try.prog 8 #[.int .i64 d, .int .i64 n] w fun e w' => LaterOk (Cal.py (d - 11323)) (Cal.pm (d - 11323)) (Cal.pk (d - 11323)) n e ∧ w = w' := by
  have HD := Lib.hid (date_any d w h0 h1)
  obtain ⟨⟨a1, a2, a3, a4, a5, a6⟩, hr⟩ := date_of d h0 h1
  generalize Cal.py (d - 11323) = y at *
  generalize Cal.pm (d - 11323) = m at *
  generalize Cal.pk (d - 11323) = k at *
  clear hr
  obtain ⟨T, hT⟩ : ∃ T, n + (y * 12 + m - 1) = T := ⟨_, rfl⟩
  obtain ⟨Y, hY⟩ : ∃ Y, T / 12 = Y := ⟨_, rfl⟩
  obtain ⟨M, hM⟩ : ∃ M, T % 12 + 1 = M := ⟨_, rfl⟩
  have hY1 : 1719 ≤ Y := by omega
  have hY2 : Y ≤ 2450 := by omega
  have hT0 : 0 ≤ T := by omega
  have hT1 : T ≤ 30000 := by omega
  have hk31 : k ≤ 31 := by have := Cal.dim_bd y m; omega
  obtain ⟨d1, d2⟩ := Cal.dim_bd Y M
  have hdb : dayB d = true := by unfold dayB; simp; omega
  by_cases hk : k ≤ Cal.dim Y M
  · have HK : less k (Cal.dim Y M) = k := if_pos hk
    have HKh := Lib.hid HK; clear HK
    go_enter Try.func8, Try.ntmps8
    go_wp2_with (first | (go_at_call 16; refine (isDay_any _ _).mono ?_; rintro e w' ⟨rfl, rfl⟩) | (go_at_call 17; refine HD.out.mono ?_; rintro e w' ⟨rfl, rfl⟩; unfold tup3) | (go_at_call 12; refine (daysOfMonth_any _ _ _ (by omega) (by omega)).mono ?_; rintro e w' ⟨rfl, rfl⟩) | (go_at_call 6; refine (dayOf_any _ _ _ _).mono ?_; rintro e w' ⟨⟨a, b, rfl, hab⟩, rfl⟩; have HAB := Lib.hid hab; clear hab; unfold two) | fail)
    go_ret2
    exact ⟨later_close (by rw [hT]; exact hY) (by rw [hT]; exact hM) HKh.out HAB.out, rfl⟩
  · have HK : less k (Cal.dim Y M) = Cal.dim Y M := if_neg hk
    have HKh := Lib.hid HK; clear HK
    go_enter Try.func8, Try.ntmps8
    go_wp2_with (first | (go_at_call 16; refine (isDay_any _ _).mono ?_; rintro e w' ⟨rfl, rfl⟩) | (go_at_call 17; refine HD.out.mono ?_; rintro e w' ⟨rfl, rfl⟩; unfold tup3) | (go_at_call 12; refine (daysOfMonth_any _ _ _ (by omega) (by omega)).mono ?_; rintro e w' ⟨rfl, rfl⟩) | (go_at_call 6; refine (dayOf_any _ _ _ _).mono ?_; rintro e w' ⟨⟨a, b, rfl, hab⟩, rfl⟩; have HAB := Lib.hid hab; clear hab; unfold two) | fail)
    go_ret2
    exact ⟨later_close (by rw [hT]; exact hY) (by rw [hT]; exact hM) HKh.out HAB.out, rfl⟩
set_option maxRecDepth 100000 in
set_option maxHeartbeats 1000000 in
theorem laterOf_any (d n : Int) (w : World) (h0 : 0 ≤ d) (h1 : d ≤ 84005) (h2 : -3000 ≤ n) (h3 : n ≤ 3000) :
    Calls Try.prog 9 #[.int .i64 d, .int .i64 n] w fun e w' => LaterOk (Cal.py (d - 11323)) (Cal.pm (d - 11323)) (Cal.pk (d - 11323)) n e ∧ Below w.heap.size w w' := by
  have HD := Lib.hid (dateOfDay_any d w (by omega) (by omega))
  obtain ⟨⟨a1, a2, a3, a4, a5, a6⟩, hr⟩ := date_of d h0 h1
  generalize Cal.py (d - 11323) = y at *
  generalize Cal.pm (d - 11323) = m at *
  generalize Cal.pk (d - 11323) = k at *
  clear hr
  have HF := Lib.hid (ofs_first y m n)
  have HN := Lib.hid (ofs_next y m n)
  obtain ⟨T, hT⟩ : ∃ T, n + (y * 12 + m - 1) = T := ⟨_, rfl⟩
  rw [hT] at HF HN
  have HT := Lib.hid hT
  obtain ⟨Y, hY⟩ : ∃ Y, T / 12 = Y := ⟨_, rfl⟩
  obtain ⟨M, hM⟩ : ∃ M, T % 12 + 1 = M := ⟨_, rfl⟩
  rw [hY, hM] at HF HN
  have hY1 : 1719 ≤ Y := by omega
  have hY2 : Y ≤ 2450 := by omega
  have hT0 : 0 ≤ T := by omega
  have hT1 : T ≤ 30000 := by omega
  have hk31 : k ≤ 31 := by have := Cal.dim_bd y m; omega
  have hM1 : 1 ≤ M := by omega
  have hM2 : M ≤ 12 := by omega
  obtain ⟨d1, d2⟩ := Cal.dim_bd Y M
  obtain ⟨r1, r2⟩ := rd_wide Y M 1 (by omega) (by omega) (by omega) (by omega)
  have HP := Lib.hid (first_int Y M (by omega) (by omega) hM1 hM2)
  generalize hF : Cal.rd Y M 1 = F at *
  have HFF := Lib.hid hF; clear hF
  have hdb : dayB d = true := by unfold dayB; simp; omega
  have hsub : F + Cal.dim Y M - F = Cal.dim Y M := by omega
  have HY := Lib.hid hY; clear hY
  have HM := Lib.hid hM; clear hM hT
  by_cases hk : k ≤ Cal.dim Y M
  · have HK : less k (Cal.dim Y M) = k := if_pos hk
    have HKh := Lib.hid HK; clear HK
    go_enter Try.func9, Try.ntmps9
    go_wp2_with (first | (go_at_call 18; refine (isDayR_any _ _).mono ?_; rintro e w' ⟨rfl, rfl⟩) | (go_at_call 19; refine HD.out.mono ?_; rintro e w' ⟨rfl, rfl⟩; unfold tup3) | fail)
    refine (dateOf_any y (m + n) 1 _ (by omega) (by omega) (by omega) (by omega) (by omega) (by omega)).mono ?_
    rintro e w1 ⟨rfl, hb1⟩
    rw [HF.out]
    go_wp2_with (fail)
    refine (dateOf_any y (m + n + 1) 1 _ (by omega) (by omega) (by omega) (by omega) (by omega) (by omega)).mono ?_
    rintro e w2 ⟨rfl, hb2⟩
    rw [HN.out]
    go_wp2_with (first | (go_at_call 20; refine (parts_any _ _ (by omega) (by omega)).mono ?_; rintro e w' ⟨rfl, rfl⟩; unfold tup3; rw [HP.out.1, HP.out.2]) | fail)
    refine (dayOfR_any _ _ _ _).mono ?_
    rintro e w3 ⟨⟨a, b, rfl, hab⟩, hb3⟩
    have HAB := Lib.hid hab; clear hab
    unfold two
    go_wp2_with (fail)
    go_ret2
    exact ⟨later_close (by rw [HT.out]; exact HY.out) (by rw [HT.out]; exact HM.out) HKh.out HAB.out, (hb1.trans (hb2.mono hb1.size)).trans (hb3.mono (hb1.trans (hb2.mono hb1.size)).size)⟩
  · have HK : less k (Cal.dim Y M) = Cal.dim Y M := if_neg hk
    have HKh := Lib.hid HK; clear HK
    go_enter Try.func9, Try.ntmps9
    go_wp2_with (first | (go_at_call 18; refine (isDayR_any _ _).mono ?_; rintro e w' ⟨rfl, rfl⟩) | (go_at_call 19; refine HD.out.mono ?_; rintro e w' ⟨rfl, rfl⟩; unfold tup3) | fail)
    refine (dateOf_any y (m + n) 1 _ (by omega) (by omega) (by omega) (by omega) (by omega) (by omega)).mono ?_
    rintro e w1 ⟨rfl, hb1⟩
    rw [HF.out]
    go_wp2_with (fail)
    refine (dateOf_any y (m + n + 1) 1 _ (by omega) (by omega) (by omega) (by omega) (by omega) (by omega)).mono ?_
    rintro e w2 ⟨rfl, hb2⟩
    rw [HN.out]
    go_wp2_with (first | (go_at_call 20; refine (parts_any _ _ (by omega) (by omega)).mono ?_; rintro e w' ⟨rfl, rfl⟩; unfold tup3; rw [HP.out.1, HP.out.2]) | fail)
    refine (dayOfR_any _ _ _ _).mono ?_
    rintro e w3 ⟨⟨a, b, rfl, hab⟩, hb3⟩
    have HAB := Lib.hid hab; clear hab
    unfold two
    go_wp2_with (fail)
    go_ret2
    exact ⟨later_close (by rw [HT.out]; exact HY.out) (by rw [HT.out]; exact HM.out) HKh.out HAB.out, (hb1.trans (hb2.mono hb1.size)).trans (hb3.mono (hb1.trans (hb2.mono hb1.size)).size)⟩
end Go.Proofs.Ytgkogoojfnkpoaa
