/- DERIVED. What DateOf of the first reference returns for a day. Condition: the library's table of powers of ten is as the program's text lays it. -/
import Derived.Test.YtfgekmfkaepgjaaDoorDayWord
namespace Go.Proofs.YtfgekmfkaepgjaaDoor
set_option linter.unusedVariables false
open Go.RowKit
theorem PowTab.on {w w1 : World} (h : PowTab w) (hb : Below w.heap.size w w1) : PowTab w1 := fun w' h' => h w' (hb.trans (h'.mono hb.size))

set_option maxHeartbeats 400000 in
theorem yearDaysR_any (y : Int) (w : World) (h0 : 0 ≤ y) (h1 : y ≤ 1000000) :
    Calls Tryd.prog 24 #[.int .i64 y] w fun e w' => e = .returned (.int .i64 (365 + Cal.lp y)) ∧ w = w' := by
  by_cases h4 : y % 4 = 0
  · by_cases h100 : y % 100 = 0
    · by_cases h400 : y % 400 = 0
      · have hl : 365 + Cal.lp y = 366 := by unfold Cal.lp; rw [if_pos ⟨h4, .inr h400⟩]; rfl
        have HL := Lib.hid hl; clear hl
        go_enter Tryd.func24, Tryd.ntmps24
        go_wp2
        go_ret
        exact ⟨ret_int HL.out.symm, rfl⟩
      · have hl : 365 + Cal.lp y = 365 := by unfold Cal.lp; rw [if_neg (by omega)]; rfl
        have HL := Lib.hid hl; clear hl
        go_enter Tryd.func24, Tryd.ntmps24
        go_wp2
        go_ret
        exact ⟨ret_int HL.out.symm, rfl⟩
    · have hl : 365 + Cal.lp y = 366 := by unfold Cal.lp; rw [if_pos ⟨h4, .inl h100⟩]; rfl
      have HL := Lib.hid hl; clear hl
      go_enter Tryd.func24, Tryd.ntmps24
      go_wp2
      go_ret
      exact ⟨ret_int HL.out.symm, rfl⟩
  · have hl : 365 + Cal.lp y = 365 := by unfold Cal.lp; rw [if_neg (by omega)]; rfl
    have HL := Lib.hid hl; clear hl
    go_enter Tryd.func24, Tryd.ntmps24
    go_wp2
    go_ret
    exact ⟨ret_int HL.out.symm, rfl⟩

set_option maxHeartbeats 400000 in
theorem monthDaysR_any (y m : Int) (w : World) (h0 : 0 ≤ y) (h1 : y ≤ 1000000) :
    Calls Tryd.prog 25 #[.int .i64 y, .int .i64 m] w fun e w' => e = .returned (.int .i64 (Cal.dim y m)) ∧ w = w' := by
  by_cases h2 : m = 2
  · subst h2
    obtain ⟨c3, c4⟩ := Cal.lp_01 y
    have hd : Cal.dim y 2 = 28 + Cal.lp y := rfl
    have HD := Lib.hid hd; clear hd
    go_enter Tryd.func25, Tryd.ntmps25
    go_wp2_with (go_at_call 24; refine (yearDaysR_any _ _ (by omega) (by omega)).mono ?_; rintro e w' ⟨rfl, rfl⟩)
    go_ret
    exact ⟨ret_int (by rw [HD.out]; omega), rfl⟩
  · by_cases h4 : m = 4 ∨ m = 6 ∨ m = 9 ∨ m = 11
    · have hd : Cal.dim y m = 30 := by unfold Cal.dim; rw [if_neg h2, if_pos h4]
      rw [hd]
      rcases h4 with rfl | rfl | rfl | rfl
      all_goals
        clear hd h2
        go_enter Tryd.func25, Tryd.ntmps25
        go_wp2
        go_ret
        exact ⟨rfl, rfl⟩
    · have hd : Cal.dim y m = 31 := by unfold Cal.dim; rw [if_neg h2, if_neg h4]
      rw [hd]
      clear hd
      have n4 : ¬ m = 4 := fun e => h4 (.inl e)
      have n6 : ¬ m = 6 := fun e => h4 (.inr (.inl e))
      have n9 : ¬ m = 9 := fun e => h4 (.inr (.inr (.inl e)))
      have n11 : ¬ m = 11 := fun e => h4 (.inr (.inr (.inr e)))
      clear h4
      go_enter Tryd.func25, Tryd.ntmps25
      go_wp2
      go_ret
      exact ⟨rfl, rfl⟩
theorem dec2 (n : Nat) (h1 : 10 ≤ n) (h : n < 100) : Lib.decDigits n = lo 2 n := by
  rw [Lib.decDigits, dif_neg (by omega), Lib.decDigits, dif_pos (by omega)]
  have e3 : n / 10 = n / 10 ^ 1 % 10 := by omega
  rw [e3]
  simp [lo, dgt]
theorem zero_lo (n : Nat) (h : n < 10) : (ByteArray.mk #[48] ++ ByteArray.mk #[dgt n]) = ByteArray.mk (lo 2 n).toArray := by
  apply ByteArray.ext
  have : n / 10 ^ 1 = 0 := by omega
  simp only [lo, this]
  simp [dgt]
set_option maxRecDepth 100000 in
theorem twoR_any (n : Nat) (w : World) (h : n < 100) :
    Calls Tryd.prog 26 #[.int .i64 n] w fun e w' => e = .returned (.string ⟨(lo 2 n).toArray⟩) ∧ w = w' := by
  by_cases h10 : n < 10
  · have HT := Lib.hid (zero_lo n h10)
    have H1 := Lib.hid (Tryd.strconv_Itoa_small n (by omega) w)
    rw [dec1 _ (by omega)] at H1
    have hi : (n : Int) < 10 := by omega
    go_enter Tryd.func26, Tryd.ntmps26
    go_wp2_with fail
    refine H1.out.mono ?_
    rintro e w' ⟨rfl, hw⟩
    subst hw
    go_wp2_with fail
    go_ret
    exact ⟨by rw [HT.out]; rfl, rfl⟩
  · have H1 := Lib.hid (Tryd.strconv_Itoa_small n (by omega) w)
    rw [dec2 _ (by omega) h] at H1
    have hi : ¬ (n : Int) < 10 := by omega
    go_enter Tryd.func26, Tryd.ntmps26
    go_wp2_with fail
    refine H1.out.mono ?_
    rintro e w' ⟨rfl, hw⟩
    subst hw
    go_wp2_with fail
    go_ret
    exact ⟨rfl, rfl⟩

set_option maxRecDepth 100000 in
set_option maxHeartbeats 2000000 in
theorem dateOfR_any (d : Int) (yn mn kn : Nat) (w : World) (h0 : 0 ≤ d) (h1 : d ≤ 84005) (ey : Cal.py (d - 11323) = yn) (em : Cal.pm (d - 11323) = mn) (ek : Cal.pk (d - 11323) = kn) (b0 : 1000 ≤ yn) (b1 : yn ≤ 9999) (b2 : mn ≤ 99) (b3 : kn ≤ 99) (ht : PowTab w) :
    Calls Tryd.prog 15 #[.int .i64 d] w fun e w' => e = .returned (.tuple #[.string (dayStr yn mn kn), .int .i64 yn, .int .i64 mn, .int .i64 kn]) ∧ Below w.heap.size w w' := by
  obtain ⟨⟨a1, a2, a3, a4, a5, a6⟩, hr⟩ := date_of d h0 h1
  have HI := Lib.hid (Tryd.strconv_Itoa (yn : Int) (by omega) (by omega) w ht.here)
  have hi : Lib.itoa (yn : Int) = lo 4 yn := by
    unfold Lib.itoa
    rw [if_neg (by omega), Int.toNat_natCast, dec4 yn b0 (by omega)]
  rw [hi] at HI
  clear hi ht
  rw [ey, em, ek] at hr
  rw [ey] at a1 a2 a6
  rw [em] at a3 a4 a6
  rw [ek] at a5 a6
  clear ey em ek
  obtain ⟨y, hy⟩ : ∃ y : Int, (yn : Int) = y := ⟨_, rfl⟩
  obtain ⟨m, hm⟩ : ∃ m : Int, (mn : Int) = m := ⟨_, rfl⟩
  obtain ⟨k, hk⟩ : ∃ k : Int, (kn : Int) = k := ⟨_, rfl⟩
  rw [hy] at a1 a2 a6 hr
  rw [hm] at a3 a4 a6 hr
  rw [hk] at a5 a6 hr
  have HY := Lib.hid hy; clear hy
  have HM := Lib.hid hm; clear hm
  have HK := Lib.hid hk; clear hk
  have hd : d = Cal.yearDay y + 11323 + (Cal.cumL y m + k - 1) := by unfold Cal.rd at hr; omega
  have HD := Lib.hid hd; clear hd hr
  have HE : Cal.cumL y m + k ≤ 365 + Cal.lp y := by
    have e1 := Cal.cumL_succ y m a3 a4
    have e2 := cumL_le y (m + 1) 13 (by omega) (by omega) (by omega)
    rw [Cal.cumL_13] at e2
    omega
  have HEh := Lib.hid HE; clear HE
  obtain ⟨b4, b5⟩ := Cal.cumL_bd y m
  have hk31 : k ≤ 31 := by have := Cal.dim_bd y m; omega
  go_enter Tryd.func15, Tryd.ntmps15
  go_wp2_with (fail)
  go_loop [0, 6] (fun s u => ∃ i : Int, 1970 ≤ i ∧ i ≤ y ∧ u = .int .i64 i ∧ s = .int .i64 (d - (Cal.yearDay i + 11323))) (fun _ u => (2200 - intOf u).toNat)
  case atStart => exact ⟨1970, by omega, by omega, rfl, by rw [Cal.yearDay_1970]; go_num⟩
  case round =>
    obtain ⟨i, hi1, hi2, rfl, rfl⟩ := hrel
    obtain ⟨c1, c2⟩ := Cal.yearDay_bd i (by omega) (by omega)
    obtain ⟨c3, c4⟩ := Cal.lp_01 i
    have HS := Lib.hid (Cal.yearDay_succ i)
    by_cases hlt : i < y
    · have hge : 365 + Cal.lp i ≤ d - (Cal.yearDay i + 11323) := by
        have e1 := Cal.yearDay_mono (i + 1) y (by omega)
        have e2 := HS.out
        have e3 := HD.out
        omega
      go_wp2_with (go_at_call 24; refine (yearDaysR_any _ _ (by omega) (by omega)).mono ?_; rintro e w' ⟨rfl, rfl⟩)
      go_round
      case rel => exact ⟨i + 1, by omega, by omega, rfl, by rw [HS.out]; congr 1; omega⟩
      case measure => simp [intOf]; omega
    · obtain rfl : i = y := by omega
      have hlo : d - (Cal.yearDay i + 11323) < 365 + Cal.lp i := by
        have e3 := HD.out
        have e4 := HEh.out
        omega
      go_wp2_with (go_at_call 24; refine (yearDaysR_any _ _ (by omega) (by omega)).mono ?_; rintro e w' ⟨rfl, rfl⟩)
      go_loop [0, 7] (fun s u => ∃ j : Int, 1 ≤ j ∧ j ≤ m ∧ u = .int .i64 j ∧ s = .int .i64 (Cal.cumL i m + k - 1 - Cal.cumL i j)) (fun _ u => (13 - intOf u).toNat)
      case atStart => exact ⟨1, by omega, by omega, rfl, by rw [Cal.cumL_1]; have e3 := HD.out; congr 1; omega⟩
      case round =>
        obtain ⟨j, hj1, hj2, rfl, rfl⟩ := hrel
        obtain ⟨e1, e2⟩ := Cal.cumL_bd i j
        obtain ⟨e3, e4⟩ := Cal.dim_bd i j
        have HC := Lib.hid (Cal.cumL_succ i j hj1 (by omega))
        by_cases hlj : j < m
        · have hge : Cal.dim i j ≤ Cal.cumL i m + k - 1 - Cal.cumL i j := by
            have e1 := cumL_le i (j + 1) m (by omega) (by omega) (by omega)
            have e2 := HC.out
            omega
          go_wp2_with (go_at_call 25; refine (monthDaysR_any _ _ _ (by omega) (by omega)).mono ?_; rintro e w' ⟨rfl, rfl⟩)
          go_round
          case rel => exact ⟨j + 1, by omega, by omega, rfl, by rw [HC.out]; congr 1; omega⟩
          case measure => simp [intOf]; omega
        · obtain rfl : j = m := by omega
          have hlo2 : Cal.cumL i j + k - 1 - Cal.cumL i j < Cal.dim i j := by omega
          have hkk : Cal.cumL i j + k - 1 - Cal.cumL i j + 1 = (kn : Int) := by have := HK.out; omega
          have HKK := Lib.hid hkk
          obtain rfl : i = (yn : Int) := HY.out.symm
          obtain rfl : j = (mn : Int) := HM.out.symm
          have T1 := Lib.hid (fun wX => twoR_any mn wX (by omega))
          have T2 := Lib.hid (fun wX => twoR_any kn wX (by omega))
          go_wp2_with (go_at_call 25; refine (monthDaysR_any _ _ _ (by omega) (by omega)).mono ?_; rintro e w' ⟨rfl, rfl⟩)
          refine HI.out.mono ?_
          rintro e w1 ⟨rfl, kk, os, hw⟩
          have hb1 : Below w.heap.size w w1 := by rw [hw]; exact Lib.below_grow _ _ (Nat.le_refl _) _ _
          clear hw
          go_wp2_with fail
          refine (T1.out _).mono ?_
          rintro e w2 ⟨rfl, rfl⟩
          go_wp2_with fail
          refine (T2.out _).mono ?_
          rintro e w2 ⟨rfl, rfl⟩
          go_wp2_with fail
          refine bodyPost_ret (v := .tuple #[.string (dayStr yn mn kn), .int .i64 yn, .int .i64 mn, .int .i64 kn]) (by simp [results, Tryd.results15, go_sem]; rfl) rfl ⟨rfl, hb1⟩
end Go.Proofs.YtfgekmfkaepgjaaDoor
