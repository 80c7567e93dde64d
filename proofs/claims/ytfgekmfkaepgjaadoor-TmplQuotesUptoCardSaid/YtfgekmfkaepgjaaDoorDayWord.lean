/- DERIVED. What conf's twoDigits, dayWord, DayString, Date and Weekday return. Condition: of dayWord and DayString that the library's table of powers of ten is as the program's text lays it. -/
import Derived.Test.YtfgekmfkaepgjaaDoorDayStr
import Derived.Test.YtfgekmfkaepgjaaDoorShelf
import Derived.Lib.AppendIntMem
namespace Go.Proofs.YtfgekmfkaepgjaaDoor
open Go.RowKit
theorem dec1 (n : Nat) (h : n < 10) : Lib.decDigits n = [dgt n] := by
  rw [Lib.decDigits, dif_pos h, dgt, Nat.mod_eq_of_lt h]
theorem dec4 (y : Nat) (h1 : 1000 ≤ y) (h2 : y < 10000) : Lib.decDigits y = lo 4 y := by
  rw [Lib.decDigits, dif_neg (by omega), Lib.decDigits, dif_neg (by omega), Lib.decDigits, dif_neg (by omega), Lib.decDigits, dif_pos (by omega)]
  have e1 : y / 10 / 10 / 10 = y / 10 ^ 3 % 10 := by omega
  have e2 : y / 10 / 10 % 10 = y / 10 ^ 2 % 10 := by omega
  have e3 : y / 10 % 10 = y / 10 ^ 1 % 10 := by omega
  rw [e1, e2, e3]
  simp [lo, dgt]
theorem two_lo (m a b : Nat) (ha : (m : Int) / 10 = a) (hb : (m : Int) % 10 = b) : (ByteArray.mk #[dgt a] ++ ByteArray.mk #[dgt b]) = ByteArray.mk (lo 2 m).toArray := by
  obtain rfl : a = m / 10 := by omega
  obtain rfl : b = m % 10 := by omega
  apply ByteArray.ext
  simp [lo, dgt]
set_option maxRecDepth 100000 in
theorem twoDigits_any (m : Nat) (w : World) (h : m ≤ 99) :
    Calls Tryd.prog 34 #[.int .i64 m] w fun e w' => e = .returned (.string ⟨(lo 2 m).toArray⟩) ∧ w = w' := by
  obtain ⟨a, e1⟩ : ∃ a : Nat, (m : Int) / 10 = a := ⟨m / 10, by omega⟩
  obtain ⟨b, e2⟩ : ∃ b : Nat, (m : Int) % 10 = b := ⟨m % 10, by omega⟩
  have HT := Lib.hid (two_lo m a b e1 e2)
  have H1 := Lib.hid (Tryd.strconv_Itoa_small a (by omega) w)
  have H2 := Lib.hid (Tryd.strconv_Itoa_small b (by omega) w)
  rw [dec1 _ (by omega)] at H1 H2
  go_enter Tryd.func34, Tryd.ntmps34
  go_wp2_with fail
  refine H1.out.mono ?_
  rintro e w' ⟨rfl, hw⟩
  subst hw
  go_wp2_with fail
  refine H2.out.mono ?_
  rintro e w1 ⟨rfl, hw⟩
  subst hw
  go_wp2_with fail
  go_ret
  exact ⟨by rw [HT.out]; rfl, rfl⟩
def PowTab (w : World) : Prop := Lib.TabBelow Tryd.prog w.heap.size w "internal/strconv.uint64pow10" .u64 Lib.pow10Tab
theorem dayWord_any (d : Int) (y m k : Nat) (w : World) (h0 : 0 ≤ d) (h1 : d ≤ 84005) (ey : Cal.py (d - 11323) = y) (em : Cal.pm (d - 11323) = m) (ek : Cal.pk (d - 11323) = k) (b0 : 1000 ≤ y) (b1 : y ≤ 9999) (b2 : m ≤ 99) (b3 : k ≤ 99) (ht : PowTab w) :
    Calls Tryd.prog 23 #[.int .i64 d] w fun e w' => e = .returned (.string (dayStr y m k)) ∧ Below w.heap.size w w' := by
  have HD := Lib.hid (date_any d w (by omega) (by omega))
  rw [ey, em, ek] at HD
  clear ey em ek
  have HI := Lib.hid (Tryd.strconv_Itoa (y : Int) (by omega) (by omega) w ht.here)
  have hi : Lib.itoa (y : Int) = lo 4 y := by
    unfold Lib.itoa
    rw [if_neg (by omega), Int.toNat_natCast, dec4 y b0 (by omega)]
  rw [hi] at HI
  clear hi
  go_enter Tryd.func23, Tryd.ntmps23
  go_wp2_with (go_at_call 33; refine HD.out.mono ?_; rintro e w' ⟨rfl, rfl⟩; unfold tup3)
  refine HI.out.mono ?_
  rintro e w1 ⟨rfl, kk, os, hw⟩
  have hb1 : Below w.heap.size w w1 := by rw [hw]; exact Lib.below_grow _ _ (Nat.le_refl _) _ _
  clear hw
  go_wp2_with fail
  refine (twoDigits_any m _ (by omega)).mono ?_
  rintro e w' ⟨rfl, rfl⟩
  go_wp2_with fail
  refine (twoDigits_any k _ (by omega)).mono ?_
  rintro e w' ⟨rfl, rfl⟩
  go_wp2_with fail
  go_ret
  exact ⟨rfl, hb1⟩
theorem dayString_yes (d : Int) (y m k : Nat) (w : World) (h0 : 0 ≤ d) (h1 : d ≤ 84005) (ey : Cal.py (d - 11323) = y) (em : Cal.pm (d - 11323) = m) (ek : Cal.pk (d - 11323) = k) (b0 : 1000 ≤ y) (b1 : y ≤ 9999) (b2 : m ≤ 99) (b3 : k ≤ 99) (ht : PowTab w) :
    Calls Tryd.prog 13 #[.int .i64 d] w fun e w' => e = .returned (.tuple #[.string (dayStr y m k), .int .i64 0]) ∧ Below w.heap.size w w' := by
  have hdb : dayB d = true := by unfold dayB; simp; omega
  have HW := Lib.hid (dayWord_any d y m k w h0 h1 ey em ek b0 b1 b2 b3 ht)
  clear ey em ek ht
  go_enter Tryd.func13, Tryd.ntmps13
  go_wp2_with (go_at_call 22; refine (isDay_any _ _).mono ?_; rintro e w' ⟨rfl, rfl⟩)
  refine HW.out.mono ?_
  rintro e w1 ⟨rfl, hb1⟩
  go_wp2_with fail
  go_ret2
  exact ⟨rfl, hb1⟩
theorem dayString_no (d : Int) (w : World) (h : dayB d = false) :
    Calls Tryd.prog 13 #[.int .i64 d] w fun e w' => e = .returned (.tuple #[.string ⟨#[]⟩, .int .i64 2]) ∧ w = w' := by
  go_enter Tryd.func13, Tryd.ntmps13
  go_wp2_with (go_at_call 22; refine (isDay_any _ _).mono ?_; rintro e w' ⟨rfl, rfl⟩)
  go_ret2
  exact ⟨rfl, rfl⟩
end Go.Proofs.YtfgekmfkaepgjaaDoor
