/- DERIVED. What isDigit and allDigits return. Condition: strings shorter than 2^63 bytes. -/
import Derived.Test.YtohkdckllmmfhaaGreatDoorRows
import Derived.Test.YtohkdckllmmfhaaGreatDoorAnyB
import Derived.WalkKit
import Derived.WalkSpells
import Derived.WalkLawsBesides
import Derived.Lib.Hide
namespace Go.Proofs.YtohkdckllmmfhaaGreatDoor
open Go.RowKit
theorem isDigit_any (c : UInt8) (w : World) :
    Calls Tryz.prog 131 #[.int .u8 c.toNat] w fun e w' => e = .returned (.bool (!nd c)) ∧ w = w' := by
  by_cases h : (48 : Int) ≤ (c.toNat : Int)
  · by_cases h' : (c.toNat : Int) ≤ 57
    all_goals
      go_enter Tryz.func131, Tryz.ntmps131
      go_wp2
      go_ret
      exact ⟨retB (by unfold nd; simp; omega), rfl⟩
  · go_enter Tryz.func131, Tryz.ntmps131
    go_wp2
    go_ret
    exact ⟨retB (by unfold nd; simp; omega), rfl⟩
set_option maxRecDepth 100000 in
set_option maxHeartbeats 400000 in
theorem allDigits_any (s : ByteArray) (w : World) (hs : s.size ≤ 9223372036854775807) :
    Calls Tryz.prog 155 #[.string s] w fun e w' => e = .returned (.bool (allD s.data.toList)) ∧ w = w' := by
  go_enter Tryz.func155, Tryz.ntmps155
  go_wp2_with fail
  go_loop [6] (fun i => ∃ k : Nat, k ≤ s.size ∧ i = .int .i64 k ∧ (s.data.toList.take k).any nd = false) (fun i => s.size - (intOf i).toNat)
  case atStart => exact ⟨0, Nat.zero_le _, rfl, rfl⟩
  case round =>
    obtain ⟨k, hk, rfl, h0⟩ := hrel
    have H0 := Lib.hid h0; clear h0
    by_cases hlt : k < s.size
    · cases hc : nd s[k] with
      | false =>
        have hcall := fun wx => isDigit_any s[k] wx
        rw [hc] at hcall
        have HC := Lib.hid hcall; clear hcall
        have HP := Lib.hid hc; clear hc
        go_wp2_with fail
        refine (HC.out _).mono ?_
        rintro e w' ⟨rfl, rfl⟩
        go_wp2_with fail
        go_round
        case rel => exact ⟨k + 1, by omega, by go_num, any_snoc hlt H0.out HP.out⟩
        case measure => simp [intOf]; omega
      | true =>
        have hcall := fun wx => isDigit_any s[k] wx
        rw [hc] at hcall
        have HC := Lib.hid hcall; clear hcall
        have HP := Lib.hid hc; clear hc
        go_wp2_with fail
        refine (HC.out _).mono ?_
        rintro e w' ⟨rfl, rfl⟩
        go_wp2_with fail
        go_ret
        exact ⟨retB (by unfold allD; rw [any_hit hlt HP.out]; rfl), rfl⟩
    · have hks : k = s.size := by omega
      have HK := Lib.hid hks; clear hks
      go_wp2_with fail
      go_ret
      exact ⟨retB (by unfold allD; rw [any_all HK.out H0.out]; rfl), rfl⟩
end Go.Proofs.YtohkdckllmmfhaaGreatDoor
