/- DERIVED. What the reference's dateOf and DayOf return. Condition of dateOf: a year from 1 to 5000 and a month within 40000; of DayOf: none. -/
import Derived.Test.YtgkogoojfnkpoaaDoorDayParts
import Derived.Below
namespace Go.Proofs.YtgkogoojfnkpoaaDoor
open Go.RowKit
theorem bcell {W w1 : World} (hb : Below W.heap.size W w1) : (∀ b o, b < W.heap.size → w1.cell? ⟨b, o, none⟩ = W.cell? ⟨b, o, none⟩) ∧ (∀ b o, b < W.heap.size → w1.frozen? ⟨b, o, none⟩ = W.frozen? ⟨b, o, none⟩) :=
  ⟨fun b o h => hb.cell (p := ⟨b, o, none⟩) h, fun b o h => hb.frozen (p := ⟨b, o, none⟩) h⟩
/-- The number of a year and a month however great, and of a number. -/
def ofs (y m k : Int) : Int := Cal.rd (y + (m - 1) / 12) (m - 12 * ((m - 1) / 12)) k
theorem months_get (k : Nat) (h : k < 12) : ∃ x : Int, 28 ≤ x ∧ x ≤ 31 ∧ (#[.int .i64 31, .int .i64 28, .int .i64 31, .int .i64 30, .int .i64 31, .int .i64 30, .int .i64 31, .int .i64 31, .int .i64 30, .int .i64 31, .int .i64 30, .int .i64 31] : Array Value)[k]? = some (.int .i64 x) ∧ Cal.cum ((k : Int) + 1 + 1) = Cal.cum ((k : Int) + 1) + x := by
  match k, h with
  | 0, _ | 1, _ | 2, _ | 3, _ | 4, _ | 5, _ | 6, _ | 7, _ | 8, _ | 9, _ | 10, _ | 11, _ => exact ⟨_, by decide, by decide, rfl, by decide⟩
theorem cum_bd (m : Int) : 0 ≤ Cal.cum m ∧ Cal.cum m ≤ 365 := by unfold Cal.cum; repeat' split <;> omega
set_option maxRecDepth 100000 in
set_option maxHeartbeats 1000000 in
theorem dateOf_any (y m k : Int) (w : World) (h1 : 4000 ≤ 12 * y + m) (h2 : 12 * y + m ≤ 60000) (h3 : -40000 ≤ m) (h4 : m ≤ 40000) (h5 : 0 ≤ k) (h6 : k ≤ 1000) :
    Calls Tryd.prog 40 #[.int .i64 y, .int .i64 m, .int .i64 k] w fun e w' => e = .returned (.int .i64 (ofs y m k)) ∧ Below w.heap.size w w' := by
  have ho : ofs y m k = Cal.rd (y + (m - 1) / 12) (m - 12 * ((m - 1) / 12)) k := rfl
  have HO := Lib.hid ho; clear ho
  obtain ⟨q, hq⟩ : ∃ q, (m - 1) / 12 = q := ⟨_, rfl⟩
  obtain ⟨M, hM⟩ : ∃ M, m - 12 * q = M := ⟨_, rfl⟩
  obtain ⟨Y, hY⟩ : ∃ Y, y + q = Y := ⟨_, rfl⟩
  have hM1 : 1 ≤ M := by omega
  have hM2 : M ≤ 12 := by omega
  have hY1 : 300 ≤ Y := by omega
  have hY2 : Y ≤ 5001 := by omega
  have hyd := Cal.yearDay_bd Y (by omega) (by omega)
  obtain ⟨y1, y2⟩ := hyd
  obtain ⟨j, hj⟩ : ∃ j : Nat, M = (j : Int) + 1 := ⟨(M - 1).toNat, by omega⟩
  have hj12 : j < 12 := by omega
  subst hj
  have HL := Lib.hid (Cal.lp_leap Y)
  by_cases h2 : 2 < (j : Int) + 1
  all_goals
    cases hl : Cal.leapB Y
    all_goals
      go_enter Tryd.func40, Tryd.ntmps40
      go_wp2_with (go_at_call 44; refine (floor_any _ _ _ (by omega) (by omega) (by omega) (by omega)).mono ?_; rintro e w' ⟨rfl, rfl⟩)
      go_loop [7, 26] (fun s u => ∃ i : Nat, i ≤ j ∧ u = .int .i64 i ∧ s = .int .i64 (Cal.cum ((i : Int) + 1))) (fun _ u => j - (intOf u).toNat)
      case atStart => exact ⟨0, Nat.zero_le _, rfl, rfl⟩
      case round =>
        obtain ⟨i, hi, rfl, rfl⟩ := hrel
        obtain ⟨c1, c2⟩ := cum_bd ((i : Int) + 1)
        by_cases hlt : i < j
        · obtain ⟨x, x1, x2, hx, hcum⟩ := months_get i (by omega)
          have gc : (w.alloc (.cells #[.int .i64 31, .int .i64 28, .int .i64 31, .int .i64 30, .int .i64 31, .int .i64 30, .int .i64 31, .int .i64 31, .int .i64 30, .int .i64 31, .int .i64 30, .int .i64 31] 3)).cell? ⟨w.heap.size, i, none⟩ = some (.int .i64 x) := by
            rw [cell_of_row _ _ _ _ _ _ (heap_alloc_new w _)]; exact hx
          have HC := Lib.hid hcum; clear hcum hx
          go_wp2
          go_round
          case rel => exact ⟨i + 1, by omega, by go_num, by rw [show ((i + 1 : Nat) : Int) + 1 = (i : Int) + 1 + 1 by omega, HC.out]⟩
          case measure => simp [intOf]; omega
        · obtain rfl : i = j := by omega
          go_wp2_with (first | (go_at_call 55; refine (leap_any _ _ (by omega) (by omega)).mono ?_; rintro e w' ⟨rfl, rfl⟩) | (go_at_call 56; refine (yearDay_any _ _ (by omega) (by omega)).mono ?_; rintro e w' ⟨rfl, rfl⟩))
          go_ret
          exact ⟨ret_int (by rw [HO.out, hq, hY, hM]; unfold Cal.rd Cal.cumL; (first | rw [if_pos h2, HL.out, hl] | rw [if_neg (by omega)]); first | (simp; done) | (simp; omega)), (Below.refl _ _).alloc (Nat.le_refl _) _⟩
/-- A date that there is from 1970 to 2199. -/
def okDay (y m k : Int) : Prop := 1970 ≤ y ∧ y ≤ 2199 ∧ 1 ≤ m ∧ m ≤ 12 ∧ 1 ≤ k ∧ k ≤ Cal.dim y m
def two (d e : Int) : Ending := .returned (.tuple #[.int .i64 d, .int .i64 e])
theorem two_of {a b c : Int} (h : a = c) : Ending.returned (.tuple #[.int .i64 a, .int .i64 b]) = two c b := by subst h; rfl
theorem ofs_in (y m k : Int) (h1 : 1 ≤ m) (h2 : m ≤ 12) : ofs y m k = Cal.rd y m k := by
  unfold ofs
  rw [show (m - 1) / 12 = 0 by omega]
  simp
theorem rd_bd (y m k : Int) (h0 : 1970 ≤ y) (h1 : y ≤ 2199) (h4 : 1 ≤ k) (h5 : k ≤ 31) : -20000 ≤ Cal.rd y m k ∧ Cal.rd y m k ≤ 100000 := by
  have a := Cal.cumL_bd y m
  unfold Cal.rd Cal.yearDay
  omega
theorem parts_int (y m k : Int) (h0 : 1970 ≤ y) (h1 : y ≤ 2199) (h2 : 1 ≤ m) (h3 : m ≤ 12) (h4 : 1 ≤ k) (h5 : k ≤ 31) :
    (k ≤ Cal.dim y m → Cal.py (Cal.rd y m k) = y ∧ Cal.pm (Cal.rd y m k) = m ∧ Cal.pk (Cal.rd y m k) = k) ∧ (Cal.dim y m < k → Cal.pk (Cal.rd y m k) ≠ k) := by
  have h := Cal.parts_of y.toNat m.toNat k.toNat (by omega) (by omega) (by omega) (by omega) (by omega) (by omega)
  rw [Int.toNat_of_nonneg (by omega), Int.toNat_of_nonneg (by omega), Int.toNat_of_nonneg (by omega)] at h
  exact h
set_option maxHeartbeats 1000000 in
theorem dayOfR_yes (y m k : Int) (w : World) (h : okDay y m k) :
    Calls Tryd.prog 21 #[.int .i64 y, .int .i64 m, .int .i64 k] w fun e w' => e = two (Cal.rd y m k + 11323) 0 ∧ Below w.heap.size w w' := by
  obtain ⟨h1, h2, h3, h4, h5, h6⟩ := h
  have h7 := (Cal.dim_bd y m).2
  have HP := Lib.hid ((parts_int y m k h1 h2 h3 h4 h5 (by omega)).1 h6)
  have HO := Lib.hid (ofs_in y m k h3 h4)
  obtain ⟨b1, b2⟩ := rd_bd y m k h1 h2 h5 (by omega)
  have hpk : (Cal.pk (Cal.rd y m k) != k) = false := by rw [HP.out.2.2]; simp
  have h31 : k ≤ 31 := by omega
  clear h6 h7
  go_enter Tryd.func21, Tryd.ntmps21
  go_wp2_with (first | (go_at_call 40; refine (dateOf_any _ _ _ _ (by omega) (by omega) (by omega) (by omega) (by omega) (by omega)).mono ?_; rintro e w' ⟨rfl, hb1⟩; rw [HO.out]) | (go_at_call 41; refine (number_any _ _ (by omega) (by omega)).mono ?_; rintro e w' ⟨rfl, rfl⟩))
  go_ret2
  exact ⟨rfl, hb1⟩
set_option maxHeartbeats 1000000 in
theorem dayOfR_no (y m k : Int) (w : World) (h : ¬ okDay y m k) :
    Calls Tryd.prog 21 #[.int .i64 y, .int .i64 m, .int .i64 k] w fun e w' => e = two 0 2 ∧ Below w.heap.size w w' := by
  have H := Lib.hid h; clear h
  by_cases h1 : y < 1970
  · go_enter Tryd.func21, Tryd.ntmps21
    go_wp2
    go_ret2
    exact ⟨rfl, Below.refl _ _⟩
  by_cases h2 : 2199 < y
  · go_enter Tryd.func21, Tryd.ntmps21
    go_wp2
    go_ret2
    exact ⟨rfl, Below.refl _ _⟩
  by_cases h3 : m < 1
  · go_enter Tryd.func21, Tryd.ntmps21
    go_wp2
    go_ret2
    exact ⟨rfl, Below.refl _ _⟩
  by_cases h4 : 12 < m
  · go_enter Tryd.func21, Tryd.ntmps21
    go_wp2
    go_ret2
    exact ⟨rfl, Below.refl _ _⟩
  by_cases h5 : k < 1
  · go_enter Tryd.func21, Tryd.ntmps21
    go_wp2
    go_ret2
    exact ⟨rfl, Below.refl _ _⟩
  by_cases h6 : 31 < k
  · go_enter Tryd.func21, Tryd.ntmps21
    go_wp2
    go_ret2
    exact ⟨rfl, Below.refl _ _⟩
  have hd : Cal.dim y m < k := by
    by_cases e : k ≤ Cal.dim y m
    · exact absurd ⟨by omega, by omega, by omega, by omega, by omega, e⟩ H.out
    · omega
  have HP := Lib.hid ((parts_int y m k (by omega) (by omega) (by omega) (by omega) (by omega) (by omega)).2 hd)
  have HO := Lib.hid (ofs_in y m k (by omega) (by omega))
  obtain ⟨b1, b2⟩ := rd_bd y m k (by omega) (by omega) (by omega) (by omega)
  have hpk : (Cal.pk (Cal.rd y m k) != k) = true := by simpa using HP.out
  clear hd
  go_enter Tryd.func21, Tryd.ntmps21
  go_wp2_with (first | (go_at_call 40; refine (dateOf_any _ _ _ _ (by omega) (by omega) (by omega) (by omega) (by omega) (by omega)).mono ?_; rintro e w' ⟨rfl, hb1⟩; rw [HO.out]) | (go_at_call 41; refine (number_any _ _ (by omega) (by omega)).mono ?_; rintro e w' ⟨rfl, rfl⟩))
  go_ret2
  exact ⟨rfl, hb1⟩
end Go.Proofs.YtgkogoojfnkpoaaDoor
