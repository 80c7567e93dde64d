/- DERIVED. What leading of package page returns for each of its three kinds of bytes, and what the reference's codeName, argName, bare return. Condition: strings shorter than 2^63 bytes. -/
import Derived.Test.YtfmmpfoecjehiaaLineBytes
import Derived.Test.YtfmmpfoecjehiaaLineWords
namespace Go.Proofs.Ytfmmpfoecjehiaa
set_option linter.unusedVariables false
open Go.RowKit
/-- The bytes of a string. -/
abbrev bl (s : ByteArray) : L8 := s.data.toList
theorem bl_len (s : ByteArray) : (bl s).length = s.size := Array.length_toList
theorem bl_at {s : ByteArray} {k : Nat} (h : k < s.size) : (bl s)[k]? = some s[k] := Lib.data_getElem? s k h
theorem bl_drop {s : ByteArray} {k : Nat} (h : k < s.size) : (bl s).drop k = s[k] :: (bl s).drop (k + 1) := by
  rw [List.drop_eq_getElem_cons (by rw [bl_len]; exact h)]
  rfl
theorem lead_step {p : UInt8 → Bool} {s : ByteArray} {k : Nat} {c : UInt8} (h : k < s.size) (hc : s[k] = c) (hp : p c = true) (h0 : lead p (bl s) = k + lead p ((bl s).drop k)) : lead p (bl s) = k + 1 + lead p ((bl s).drop (k + 1)) := by
  rw [h0, bl_drop h, hc]
  simp only [lead, hp, if_true]
  omega
theorem lead_halt {p : UInt8 → Bool} {s : ByteArray} {k : Nat} {c : UInt8} (h : k < s.size) (hc : s[k] = c) (hp : p c = false) (h0 : lead p (bl s) = k + lead p ((bl s).drop k)) : lead p (bl s) = k := by
  rw [h0, bl_drop h, hc]
  simp [lead, hp]
theorem lead_end {p : UInt8 → Bool} {s : ByteArray} {k : Nat} (h : k = s.size) (h0 : lead p (bl s) = k + lead p ((bl s).drop k)) : lead p (bl s) = s.size := by
  rw [h0, List.drop_eq_nil_of_le (by rw [bl_len]; omega)]
  show k + 0 = _
  omega
theorem retI {a b : Int} (h : a = b) : Ending.returned (.int .i64 b) = .returned (.int .i64 a) := by rw [h]
theorem all_step {p : UInt8 → Bool} {s : ByteArray} {k : Nat} {c : UInt8} (h : k < s.size) (hc : s[k] = c) (hp : p c = true) (h0 : (bl s).all p = ((bl s).drop k).all p) : (bl s).all p = ((bl s).drop (k + 1)).all p := by
  rw [h0, bl_drop h, hc, List.all_cons, hp]
  rfl
theorem all_halt {p : UInt8 → Bool} {s : ByteArray} {k : Nat} {c : UInt8} (h : k < s.size) (hc : s[k] = c) (hp : p c = false) (h0 : (bl s).all p = ((bl s).drop k).all p) : (bl s).all p = false := by
  rw [h0, bl_drop h, hc, List.all_cons, hp]
  rfl
theorem all_end {p : UInt8 → Bool} {s : ByteArray} {k : Nat} (h : k = s.size) (h0 : (bl s).all p = ((bl s).drop k).all p) : (bl s).all p = true := by
  rw [h0, List.drop_eq_nil_of_le (by rw [bl_len]; omega)]
  rfl
set_option maxRecDepth 100000 in
set_option maxHeartbeats 800000 in
theorem leadName_any (s : ByteArray) (w : World) (hs : s.size ≤ 9223372036854775807) :
    Calls Try.prog 32 #[.string s, .func (.func 33) #[] #[]] w fun e w' => e = .returned (.int .i64 (lead nmC (bl s))) ∧ w = w' := by
  have eg : ∀ args w, (callFunc 33 args).run Try.prog w = .ok (.enter 33 args) w := enters_of Try.func33 (by kernel_rfl) rfl
  go_enter Try.func32, Try.ntmps32
  go_wp2_with fail
  go_loop [8] (fun i => ∃ k : Nat, k ≤ s.size ∧ i = .int .i64 k ∧ lead nmC (bl s) = k + lead nmC ((bl s).drop k)) (fun i => s.size - (intOf i).toNat)
  case atStart => exact ⟨0, Nat.zero_le _, rfl, by simp⟩
  case round =>
    obtain ⟨k, hk, rfl, h0⟩ := hrel
    have H0 := Lib.hid h0; clear h0
    by_cases hlt : k < s.size
    · obtain ⟨c, hck⟩ : ∃ c, s[k] = c := ⟨_, rfl⟩
      have HC := Lib.hid (fun wx => name_any c wx)
      cases hp : nmC c with
      | true =>
        rw [hp] at HC
        have HS := Lib.hid (lead_step hlt hck hp H0.out)
        clear hp
        go_wp2_with (go_at_call 33; refine (HC.out _).mono ?_; rintro e w9 ⟨rfl, rfl⟩)
        go_round
        case rel => exact ⟨k + 1, by omega, by go_num, HS.out⟩
        case measure => simp [intOf]; omega
      | false =>
        rw [hp] at HC
        have HS := Lib.hid (lead_halt hlt hck hp H0.out)
        clear hp
        go_wp2_with (go_at_call 33; refine (HC.out _).mono ?_; rintro e w9 ⟨rfl, rfl⟩)
        go_ret
        exact ⟨retI (by rw [HS.out]), rfl⟩
    · have HS := Lib.hid (lead_end (by omega) H0.out)
      go_wp2_with fail
      go_ret
      exact ⟨retI (by rw [HS.out]), rfl⟩
set_option maxRecDepth 100000 in
set_option maxHeartbeats 800000 in
theorem leadWord_any (s : ByteArray) (w : World) (hs : s.size ≤ 9223372036854775807) :
    Calls Try.prog 32 #[.string s, .func (.func 48) #[] #[]] w fun e w' => e = .returned (.int .i64 (lead wdC (bl s))) ∧ w = w' := by
  have eg : ∀ args w, (callFunc 48 args).run Try.prog w = .ok (.enter 48 args) w := enters_of Try.func48 (by kernel_rfl) rfl
  go_enter Try.func32, Try.ntmps32
  go_wp2_with fail
  go_loop [8] (fun i => ∃ k : Nat, k ≤ s.size ∧ i = .int .i64 k ∧ lead wdC (bl s) = k + lead wdC ((bl s).drop k)) (fun i => s.size - (intOf i).toNat)
  case atStart => exact ⟨0, Nat.zero_le _, rfl, by simp⟩
  case round =>
    obtain ⟨k, hk, rfl, h0⟩ := hrel
    have H0 := Lib.hid h0; clear h0
    by_cases hlt : k < s.size
    · obtain ⟨c, hck⟩ : ∃ c, s[k] = c := ⟨_, rfl⟩
      have HC := Lib.hid (fun wx => word_any c wx)
      cases hp : wdC c with
      | true =>
        rw [hp] at HC
        have HS := Lib.hid (lead_step hlt hck hp H0.out)
        clear hp
        go_wp2_with (go_at_call 48; refine (HC.out _).mono ?_; rintro e w9 ⟨rfl, rfl⟩)
        go_round
        case rel => exact ⟨k + 1, by omega, by go_num, HS.out⟩
        case measure => simp [intOf]; omega
      | false =>
        rw [hp] at HC
        have HS := Lib.hid (lead_halt hlt hck hp H0.out)
        clear hp
        go_wp2_with (go_at_call 48; refine (HC.out _).mono ?_; rintro e w9 ⟨rfl, rfl⟩)
        go_ret
        exact ⟨retI (by rw [HS.out]), rfl⟩
    · have HS := Lib.hid (lead_end (by omega) H0.out)
      go_wp2_with fail
      go_ret
      exact ⟨retI (by rw [HS.out]), rfl⟩
set_option maxRecDepth 100000 in
set_option maxHeartbeats 800000 in
theorem leadPlain_any (s : ByteArray) (w : World) (hs : s.size ≤ 9223372036854775807) :
    Calls Try.prog 32 #[.string s, .func (.func 65) #[] #[]] w fun e w' => e = .returned (.int .i64 (lead plC (bl s))) ∧ w = w' := by
  have eg : ∀ args w, (callFunc 65 args).run Try.prog w = .ok (.enter 65 args) w := enters_of Try.func65 (by kernel_rfl) rfl
  go_enter Try.func32, Try.ntmps32
  go_wp2_with fail
  go_loop [8] (fun i => ∃ k : Nat, k ≤ s.size ∧ i = .int .i64 k ∧ lead plC (bl s) = k + lead plC ((bl s).drop k)) (fun i => s.size - (intOf i).toNat)
  case atStart => exact ⟨0, Nat.zero_le _, rfl, by simp⟩
  case round =>
    obtain ⟨k, hk, rfl, h0⟩ := hrel
    have H0 := Lib.hid h0; clear h0
    by_cases hlt : k < s.size
    · obtain ⟨c, hck⟩ : ∃ c, s[k] = c := ⟨_, rfl⟩
      have HC := Lib.hid (fun wx => plain_any c wx)
      cases hp : plC c with
      | true =>
        rw [hp] at HC
        have HS := Lib.hid (lead_step hlt hck hp H0.out)
        clear hp
        go_wp2_with (go_at_call 65; refine (HC.out _).mono ?_; rintro e w9 ⟨rfl, rfl⟩)
        go_round
        case rel => exact ⟨k + 1, by omega, by go_num, HS.out⟩
        case measure => simp [intOf]; omega
      | false =>
        rw [hp] at HC
        have HS := Lib.hid (lead_halt hlt hck hp H0.out)
        clear hp
        go_wp2_with (go_at_call 65; refine (HC.out _).mono ?_; rintro e w9 ⟨rfl, rfl⟩)
        go_ret
        exact ⟨retI (by rw [HS.out]), rfl⟩
    · have HS := Lib.hid (lead_end (by omega) H0.out)
      go_wp2_with fail
      go_ret
      exact ⟨retI (by rw [HS.out]), rfl⟩
end Go.Proofs.Ytfmmpfoecjehiaa
