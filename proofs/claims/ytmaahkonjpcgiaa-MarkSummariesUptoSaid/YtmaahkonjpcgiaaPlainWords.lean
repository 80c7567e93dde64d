/- DERIVED. How many words a string has, as the program and as the reference count them. Condition: at most 2^42 bytes. -/
import Derived.Test.YtmaahkonjpcgiaaPlainDoc
import Derived.Test.YtmaahkonjpcgiaaChkG
import Derived.WalkSmall
set_option linter.unusedSimpArgs false
set_option linter.unusedVariables false
namespace Go.Proofs.Ytmaahkonjpcgiaa
open Go.RowKit

def blankB (c : UInt8) : Bool := ((c.toNat : Int) == 32) || ((c.toNat : Int) == 9)
theorem isBlank_any (c : UInt8) (w : World) : Calls Try.prog 48 #[.int .u8 c.toNat] w fun e w' => e = .returned (.bool (blankB c)) ∧ w = w' := by
  by_cases h32 : (c.toNat : Int) = 32
  · have t32 : ((c.toNat : Int) == 32) = true := by rw [h32]; rfl
    clear h32
    go_enter Try.func48, Try.ntmps48
    go_wp2
    go_ret
    exact ⟨retB (by unfold blankB; rw [t32]; rfl), rfl⟩
  have f32 : ((c.toNat : Int) == 32) = false := by simpa using h32
  by_cases h9 : (c.toNat : Int) = 9
  · have t9 : ((c.toNat : Int) == 9) = true := by rw [h9]; rfl
    clear h32 h9
    go_enter Try.func48, Try.ntmps48
    go_wp2
    go_ret
    exact ⟨retB (by unfold blankB; rw [f32, t9]; rfl), rfl⟩
  have f9 : ((c.toNat : Int) == 9) = false := by simpa using h9
  clear h32 h9
  go_enter Try.func48, Try.ntmps48
  go_wp2
  go_ret
  exact ⟨retB (by unfold blankB; rw [f32, f9]; rfl), rfl⟩

set_option maxRecDepth 100000 in
set_option maxHeartbeats 800000 in
theorem countWords_any (s : ByteArray) (w : World) (hs : s.size ≤ 4398046511104) :
    Calls Try.prog 35 #[.string s] w fun e w' => e = .returned (.int .i64 (words s.data.toList false)) ∧ w = w' := by
  have hwl := words_len s.data.toList false
  have hwl2 : words s.data.toList false ≤ 4398046511104 := Nat.le_trans hwl (by simpa using hs)
  clear hwl
  go_enter Try.func35, Try.ntmps35
  go_wp2_with fail
  go_loop [3, 4, 9] (fun x v i => ∃ (k n : Nat) (b : Bool), k ≤ s.size ∧ i = .int .i64 k ∧ x = .int .i64 n ∧ v = .bool b ∧ words s.data.toList false = n + words (s.data.toList.drop k) b) (fun _ _ i => s.size - (intOf i).toNat)
  case atStart => exact ⟨0, 0, false, Nat.zero_le _, rfl, rfl, rfl, by rw [List.drop_zero]; omega⟩
  case round =>
    obtain ⟨k, n, b, hk, rfl, rfl, rfl, hx⟩ := hrel
    have hnle : n ≤ 4398046511104 := by omega
    by_cases hlt : k < s.size
    · rw [words_drop s k hlt] at hx
      have HX := Lib.hid hx; clear hx hwl2
      by_cases h32 : (s[k].toNat : Int) = 32
      · have t32 : ((s[k].toNat : Int) == 32) = true := by rw [h32]; rfl
        have HG := Lib.hid (gap_32 h32); clear h32
        have HB := Lib.hid (fun wX => isBlank_any s[k] wX)
        cases b with
        | true =>
          go_wp2_with fail
          refine (HB.out _).mono ?_
          rintro e w1 ⟨rfl, rfl⟩
          have hbl : blankB s[k] = true := by unfold blankB; rw [t32]; rfl
          rw [hbl]
          go_wp2_with fail
          go_round
          case rel => exact ⟨k + 1, n, false, by omega, by go_num, by go_num, rfl, by rw [HX.out, HG.out]; simp⟩
          case measure => simp [intOf]; omega
        | false =>
          go_wp2_with fail
          refine (HB.out _).mono ?_
          rintro e w1 ⟨rfl, rfl⟩
          have hbl : blankB s[k] = true := by unfold blankB; rw [t32]; rfl
          rw [hbl]
          go_wp2_with fail
          go_round
          case rel => exact ⟨k + 1, n, false, by omega, by go_num, by go_num, rfl, by rw [HX.out, HG.out]; simp⟩
          case measure => simp [intOf]; omega
      have f32 : ((s[k].toNat : Int) == 32) = false := by simpa using h32
      by_cases h9 : (s[k].toNat : Int) = 9
      · have t9 : ((s[k].toNat : Int) == 9) = true := by rw [h9]; rfl
        have HG := Lib.hid (gap_9 h9); clear h9
        have HB := Lib.hid (fun wX => isBlank_any s[k] wX)
        cases b with
        | true =>
          go_wp2_with fail
          refine (HB.out _).mono ?_
          rintro e w1 ⟨rfl, rfl⟩
          have hbl : blankB s[k] = true := by unfold blankB; rw [f32, t9]; rfl
          rw [hbl]
          go_wp2_with fail
          go_round
          case rel => exact ⟨k + 1, n, false, by omega, by go_num, by go_num, rfl, by rw [HX.out, HG.out]; simp⟩
          case measure => simp [intOf]; omega
        | false =>
          go_wp2_with fail
          refine (HB.out _).mono ?_
          rintro e w1 ⟨rfl, rfl⟩
          have hbl : blankB s[k] = true := by unfold blankB; rw [f32, t9]; rfl
          rw [hbl]
          go_wp2_with fail
          go_round
          case rel => exact ⟨k + 1, n, false, by omega, by go_num, by go_num, rfl, by rw [HX.out, HG.out]; simp⟩
          case measure => simp [intOf]; omega
      have f9 : ((s[k].toNat : Int) == 9) = false := by simpa using h9
      by_cases h10 : (s[k].toNat : Int) = 10
      · have t10 : ((s[k].toNat : Int) == 10) = true := by rw [h10]; rfl
        have HG := Lib.hid (gap_10 h10); clear h10
        have HB := Lib.hid (fun wX => isBlank_any s[k] wX)
        cases b with
        | true =>
          go_wp2_with fail
          refine (HB.out _).mono ?_
          rintro e w1 ⟨rfl, rfl⟩
          have hbl : blankB s[k] = false := by unfold blankB; rw [f32, f9]; rfl
          rw [hbl]
          go_wp2_with fail
          go_round
          case rel => exact ⟨k + 1, n, false, by omega, by go_num, by go_num, rfl, by rw [HX.out, HG.out]; simp⟩
          case measure => simp [intOf]; omega
        | false =>
          go_wp2_with fail
          refine (HB.out _).mono ?_
          rintro e w1 ⟨rfl, rfl⟩
          have hbl : blankB s[k] = false := by unfold blankB; rw [f32, f9]; rfl
          rw [hbl]
          go_wp2_with fail
          go_round
          case rel => exact ⟨k + 1, n, false, by omega, by go_num, by go_num, rfl, by rw [HX.out, HG.out]; simp⟩
          case measure => simp [intOf]; omega
      have f10 : ((s[k].toNat : Int) == 10) = false := by simpa using h10
      have HG := Lib.hid (gap_no h32 h9 h10); clear h32 h9 h10
      have HB := Lib.hid (fun wX => isBlank_any s[k] wX)
      cases b with
      | true =>
        go_wp2_with fail
        refine (HB.out _).mono ?_
        rintro e w1 ⟨rfl, rfl⟩
        have hbl : blankB s[k] = false := by unfold blankB; rw [f32, f9]; rfl
        rw [hbl]
        go_wp2_with fail
        go_round
        case rel => exact ⟨k + 1, n, true, by omega, by go_num, by go_num, rfl, by rw [HX.out, HG.out]; simp⟩
        case measure => simp [intOf]; omega
      | false =>
        go_wp2_with fail
        refine (HB.out _).mono ?_
        rintro e w1 ⟨rfl, rfl⟩
        have hbl : blankB s[k] = false := by unfold blankB; rw [f32, f9]; rfl
        rw [hbl]
        go_wp2_with fail
        go_round
        case rel => exact ⟨k + 1, n + 1, true, by omega, by go_num, by go_num, rfl, by rw [HX.out, HG.out]; simp; omega⟩
        case measure => simp [intOf]; omega
    · obtain rfl : k = s.size := by omega
      have hz : words s.data.toList false = n := by rw [hx, List.drop_of_length_le (by simp)]; rfl
      have HZ := Lib.hid hz; clear hx hz hwl2
      go_wp2_with fail
      go_ret
      exact ⟨retI (by rw [HZ.out]), rfl⟩

set_option maxRecDepth 100000 in
set_option maxHeartbeats 800000 in
theorem wordsOf_any (s : ByteArray) (w : World) (hs : s.size ≤ 4398046511104) :
    Calls Try.prog 19 #[.string s] w fun e w' => e = .returned (.int .i64 (words s.data.toList false)) ∧ w = w' := by
  have hwl := words_len s.data.toList false
  have hwl2 : words s.data.toList false ≤ 4398046511104 := Nat.le_trans hwl (by simpa using hs)
  clear hwl
  go_enter Try.func19, Try.ntmps19
  go_wp2_with fail
  go_loop [3, 4, 5] (fun x v i => ∃ (k n : Nat) (b : Bool), k ≤ s.size ∧ i = .int .i64 k ∧ x = .int .i64 n ∧ v = .bool b ∧ words s.data.toList false = n + words (s.data.toList.drop k) b) (fun _ _ i => s.size - (intOf i).toNat)
  case atStart => exact ⟨0, 0, false, Nat.zero_le _, rfl, rfl, rfl, by rw [List.drop_zero]; omega⟩
  case round =>
    obtain ⟨k, n, b, hk, rfl, rfl, rfl, hx⟩ := hrel
    have hnle : n ≤ 4398046511104 := by omega
    by_cases hlt : k < s.size
    · rw [words_drop s k hlt] at hx
      have HX := Lib.hid hx; clear hx hwl2
      by_cases h32 : (s[k].toNat : Int) = 32
      · have t32 : ((s[k].toNat : Int) == 32) = true := by rw [h32]; rfl
        have HG := Lib.hid (gap_32 h32); clear h32
        cases b with
        | true =>
          go_wp2_with fail
          go_round
          case rel => exact ⟨k + 1, n, false, by omega, by go_num, by go_num, rfl, by rw [HX.out, HG.out]; simp⟩
          case measure => simp [intOf]; omega
        | false =>
          go_wp2_with fail
          go_round
          case rel => exact ⟨k + 1, n, false, by omega, by go_num, by go_num, rfl, by rw [HX.out, HG.out]; simp⟩
          case measure => simp [intOf]; omega
      have f32 : ((s[k].toNat : Int) == 32) = false := by simpa using h32
      by_cases h9 : (s[k].toNat : Int) = 9
      · have t9 : ((s[k].toNat : Int) == 9) = true := by rw [h9]; rfl
        have HG := Lib.hid (gap_9 h9); clear h9
        cases b with
        | true =>
          go_wp2_with fail
          go_round
          case rel => exact ⟨k + 1, n, false, by omega, by go_num, by go_num, rfl, by rw [HX.out, HG.out]; simp⟩
          case measure => simp [intOf]; omega
        | false =>
          go_wp2_with fail
          go_round
          case rel => exact ⟨k + 1, n, false, by omega, by go_num, by go_num, rfl, by rw [HX.out, HG.out]; simp⟩
          case measure => simp [intOf]; omega
      have f9 : ((s[k].toNat : Int) == 9) = false := by simpa using h9
      by_cases h10 : (s[k].toNat : Int) = 10
      · have t10 : ((s[k].toNat : Int) == 10) = true := by rw [h10]; rfl
        have HG := Lib.hid (gap_10 h10); clear h10
        cases b with
        | true =>
          go_wp2_with fail
          go_round
          case rel => exact ⟨k + 1, n, false, by omega, by go_num, by go_num, rfl, by rw [HX.out, HG.out]; simp⟩
          case measure => simp [intOf]; omega
        | false =>
          go_wp2_with fail
          go_round
          case rel => exact ⟨k + 1, n, false, by omega, by go_num, by go_num, rfl, by rw [HX.out, HG.out]; simp⟩
          case measure => simp [intOf]; omega
      have f10 : ((s[k].toNat : Int) == 10) = false := by simpa using h10
      have HG := Lib.hid (gap_no h32 h9 h10); clear h32 h9 h10
      cases b with
      | true =>
        go_wp2_with fail
        go_round
        case rel => exact ⟨k + 1, n, true, by omega, by go_num, by go_num, rfl, by rw [HX.out, HG.out]; simp⟩
        case measure => simp [intOf]; omega
      | false =>
        go_wp2_with fail
        go_round
        case rel => exact ⟨k + 1, n + 1, true, by omega, by go_num, by go_num, rfl, by rw [HX.out, HG.out]; simp; omega⟩
        case measure => simp [intOf]; omega
    · obtain rfl : k = s.size := by omega
      have hz : words s.data.toList false = n := by rw [hx, List.drop_of_length_le (by simp)]; rfl
      have HZ := Lib.hid hz; clear hx hz hwl2
      go_wp2_with fail
      go_ret
      exact ⟨retI (by rw [HZ.out]), rfl⟩
end Go.Proofs.Ytmaahkonjpcgiaa
