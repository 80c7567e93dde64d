/- DERIVED. What the reference's digitsOf returns: the digits of a number, at least so many. Condition: the number has at most so many digits. -/
import Derived.Test.YtgkogoojfnkpoaaDoorDayDate
import Derived.WalkSpells
import Derived.WalkLawsBesides
namespace Go.Proofs.YtgkogoojfnkpoaaDoor
open Go.RowKit
/-- The last digit of a number. -/
def dgt (q : Nat) : UInt8 := UInt8.ofNat (48 + q % 10)
/-- The last i digits of a number. -/
def lo : Nat → Nat → List UInt8
  | 0, _ => []
  | i + 1, n => dgt (n / 10 ^ i) :: lo i n
theorem lo_len : ∀ i n, (lo i n).length = i
  | 0, _ => rfl
  | i + 1, n => by simp [lo, lo_len i n]
set_option maxHeartbeats 1000000 in
theorem lo_cons (i n q : Nat) (h : n / 10 ^ i = q) : (ByteArray.mk #[dgt q] ++ ByteArray.mk (lo i n).toArray) = ByteArray.mk (lo (i + 1) n).toArray := by
  subst h; rfl
theorem lo_size (i n : Nat) : (ByteArray.mk (lo i n).toArray).size = i := by simp [ByteArray.size, lo_len]
theorem conv_one (w : World) (q : Nat) : (convert 57 9 (.slice (some ⟨w.heap.size, 0, none⟩) 1 1)).run Tryd.prog (w.alloc (.cells #[.int .u8 (48 + (q : Int) % 10)] 5)) = .ok (.string ⟨#[dgt q]⟩) (w.alloc (.cells #[.int .u8 (48 + (q : Int) % 10)] 5)) := by
  have h := run_convert_bytes_arg (P := Tryd.prog) (w.alloc (.cells #[.int .u8 (48 + (q : Int) % 10)] 5)) 57 5 Tryd.underlying57 Tryd.underlying5 w.heap.size 0 1 1 [48 + (q : Int) % 10] rfl (fun i hi => by
    obtain rfl : i = 0 := by omega
    rw [cell_of_row _ _ _ _ _ _ (heap_alloc_new w _)]; rfl) 9 Tryd.underlying9
  rw [h]
  congr 2
theorem conv_zero (w : World) : (convert 57 9 (.slice (some ⟨w.heap.size, 0, none⟩) 1 1)).run Tryd.prog (w.alloc (.cells #[.int .u8 48] 5)) = .ok (.string ⟨#[dgt 0]⟩) (w.alloc (.cells #[.int .u8 48] 5)) := conv_one w 0
set_option maxRecDepth 100000 in
set_option maxHeartbeats 1000000 in
theorem digitsOf_any (n m : Nat) (w : World) (hm : m ≤ 4) (h : n < 10 ^ m) :
    Calls Tryd.prog 26 #[.int .i64 n, .int .i64 m] w fun e w' => e = .returned (.string ⟨(lo m n).toArray⟩) ∧ Below w.heap.size w w' := by
  have h4 : 10 ^ m ≤ 10 ^ 4 := Nat.pow_le_pow_right (by omega) hm
  have hn : n < 10000 := by simp at h4; omega
  have H := Lib.hid h; clear h h4
  go_enter Tryd.func26, Tryd.ntmps26
  go_wp2
  go_loopw [0, 5] (fun x s wr => ∃ (i q : Nat), i ≤ m ∧ q ≤ 9999 ∧ n / 10 ^ i = q ∧ x = .int .i64 q ∧ s = .string ⟨(lo i n).toArray⟩ ∧ Below w.heap.size w wr) (fun x s _ => (intOf x).toNat + m - (match s with | .string t => t.size | _ => 0))
  case atStart => exact ⟨0, n, Nat.zero_le _, by omega, by simp, rfl, rfl, Below.refl _ _⟩
  case round =>
    obtain ⟨i, q, hi, hq, hdiv, rfl, rfl, hb⟩ := hrel
    have HD := Lib.hid hdiv; clear hdiv
    have HS := Lib.hid (lo_size i n)
    have hnext : n / 10 ^ (i + 1) = q / 10 := by rw [Nat.pow_succ, ← Nat.div_div_eq_div_mul, HD.out]
    have HN := Lib.hid hnext; clear hnext
    by_cases hlt : i < m
    · have hlc := lo_cons i n q HD.out
      have hsz := lo_size i n
      by_cases h0 : 0 < q
      · have hcv := conv_one wr q
        go_wp2
        go_roundw
        case rel => exact ⟨i + 1, q / 10, by omega, by omega, HN.out, by go_num, rfl, hb.alloc hb.size _⟩
        case measure => simp [intOf, lo_size]; omega
      · have hcv := conv_zero wr
        obtain rfl : q = 0 := by omega
        go_wp2
        go_roundw
        case rel => exact ⟨i + 1, 0, by omega, by omega, HN.out, by go_num, rfl, hb.alloc hb.size _⟩
        case measure => simp [intOf, lo_size]; omega
    · obtain rfl : i = m := by omega
      have hq0 : q = 0 := by rw [← HD.out]; exact Nat.div_eq_of_lt H.out
      subst hq0
      have hsz := lo_size i n
      go_wp2
      go_ret
      exact ⟨rfl, hb⟩
/-- A date as it is written. -/
def dayStr (y m k : Nat) : ByteArray := (((ByteArray.mk (lo 4 y).toArray ++ ByteArray.mk #[45]) ++ ByteArray.mk (lo 2 m).toArray) ++ ByteArray.mk #[45]) ++ ByteArray.mk (lo 2 k).toArray
/-- The date of a day, as natural numbers. -/
theorem date_nat (d : Int) (h0 : 0 ≤ d) (h1 : d ≤ 84005) : ∃ y m k : Nat, Cal.py (d - 11323) = y ∧ Cal.pm (d - 11323) = m ∧ Cal.pk (d - 11323) = k ∧ 1970 ≤ y ∧ y ≤ 2199 ∧ 1 ≤ m ∧ m ≤ 12 ∧ 1 ≤ k ∧ k ≤ 31 := by
  obtain ⟨⟨a1, a2, a3, a4, a5, a6⟩, _⟩ := date_of d h0 h1
  have := (Cal.dim_bd (Cal.py (d - 11323)) (Cal.pm (d - 11323))).2
  exact ⟨(Cal.py (d - 11323)).toNat, (Cal.pm (d - 11323)).toNat, (Cal.pk (d - 11323)).toNat, by omega, by omega, by omega, by omega, by omega, by omega, by omega, by omega, by omega⟩
set_option maxRecDepth 100000 in
theorem stringOfDay_any (d : Int) (y m k : Nat) (w : World) (h0 : 0 ≤ d) (h1 : d ≤ 84005) (ey : Cal.py (d - 11323) = y) (em : Cal.pm (d - 11323) = m) (ek : Cal.pk (d - 11323) = k) (b1 : y ≤ 9999) (b2 : m ≤ 99) (b3 : k ≤ 99) :
    Calls Tryd.prog 13 #[.int .i64 d] w fun e w' => e = .returned (.string (dayStr y m k)) ∧ Below w.heap.size w w' := by
  have HD := Lib.hid (dateOfDay_any d w (by omega) (by omega))
  rw [ey, em, ek] at HD
  clear ey em ek
  go_enter Tryd.func13, Tryd.ntmps13
  go_wp2_with (go_at_call 12; refine HD.out.mono ?_; rintro e w' ⟨rfl, rfl⟩; unfold tup3)
  refine (digitsOf_any y 4 _ (by omega) (by omega)).mono ?_
  rintro e w1 ⟨rfl, hb1⟩
  go_wp2_with fail
  refine (digitsOf_any m 2 _ (by omega) (by omega)).mono ?_
  rintro e w2 ⟨rfl, hb2⟩
  go_wp2_with fail
  refine (digitsOf_any k 2 _ (by omega) (by omega)).mono ?_
  rintro e w3 ⟨rfl, hb3⟩
  go_wp2_with fail
  go_ret
  exact ⟨rfl, (hb1.trans (hb2.mono hb1.size)).trans (hb3.mono (hb1.trans (hb2.mono hb1.size)).size)⟩
end Go.Proofs.YtgkogoojfnkpoaaDoor
