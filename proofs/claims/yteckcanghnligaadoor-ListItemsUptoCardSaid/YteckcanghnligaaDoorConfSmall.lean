/- DERIVED. What conf's small functions on bytes, texts and keys return. Condition: strings shorter than 2^63 bytes. -/
import Derived.Test.YteckcanghnligaaDoorRows
import Derived.Test.YteckcanghnligaaDoorConfPlain
import Derived.Test.YteckcanghnligaaDoorDigits
namespace Go.Proofs.YteckcanghnligaaDoor
set_option linter.unusedVariables false
open Go.RowKit
theorem isSmall_any (c : UInt8) (w : World) :
    Calls Tryd.prog 48 #[.int .u8 c.toNat] w fun e w' => e = .returned (.bool (smallB c)) ∧ w = w' := by
  by_cases h : (97 : Int) ≤ (c.toNat : Int)
  · by_cases h' : (c.toNat : Int) ≤ 122
    all_goals
      go_enter Tryd.func48, Tryd.ntmps48
      go_wp2
      go_ret
      exact ⟨retB (by unfold smallB; simp; omega), rfl⟩
  · go_enter Tryd.func48, Tryd.ntmps48
    go_wp2
    go_ret
    exact ⟨retB (by unfold smallB; simp; omega), rfl⟩
theorem u8_ne {c : UInt8} {n : Nat} (h : c.toNat = n) (hn : n < 256) : c = UInt8.ofNat n := by
  rw [← h, UInt8.ofNat_toNat]
theorem isControl_any (c : UInt8) (w : World) :
    Calls Tryd.prog 43 #[.int .u8 c.toNat] w fun e w' => e = .returned (.bool (ctB c)) ∧ w = w' := by
  have e9 : (c == 9) = decide (c.toNat = 9) := by
    by_cases h : c.toNat = 9
    · rw [u8_ne h (by omega)]; rfl
    · rw [decide_eq_false h]; simp only [beq_eq_false_iff_ne, ne_eq]; rintro rfl; exact h rfl
  have e10 : (c == 10) = decide (c.toNat = 10) := by
    by_cases h : c.toNat = 10
    · rw [u8_ne h (by omega)]; rfl
    · rw [decide_eq_false h]; simp only [beq_eq_false_iff_ne, ne_eq]; rintro rfl; exact h rfl
  have E9 := Lib.hid e9; clear e9
  have E10 := Lib.hid e10; clear e10
  by_cases h : (c.toNat : Int) < 32
  · by_cases h9 : (c.toNat : Int) = 9
    · have g9 : ((c.toNat : Int) != 9) = false := by simpa using h9
      go_enter Tryd.func43, Tryd.ntmps43
      go_wp2
      go_ret
      exact ⟨retB (by unfold ctB; rw [E9.out, E10.out]; simp; omega), rfl⟩
    · have g9 : ((c.toNat : Int) != 9) = true := by simpa using h9
      have hr : ctB c = ((c.toNat : Int) != 10) := by
        unfold ctB
        rw [E9.out, E10.out, decide_eq_true (show c.toNat < 32 by omega), decide_eq_false (show ¬ c.toNat = 9 by omega)]
        by_cases h : c.toNat = 10
        · rw [h]; rfl
        · have h2 : ((c.toNat : Int) != 10) = true := by simp; omega
          rw [h2, decide_eq_false h]; rfl
      have HR := Lib.hid hr; clear hr
      go_enter Tryd.func43, Tryd.ntmps43
      go_wp2
      go_ret
      exact ⟨retB HR.out, rfl⟩
  · go_enter Tryd.func43, Tryd.ntmps43
    go_wp2
    go_ret
    exact ⟨retB (by unfold ctB; rw [decide_eq_false (show ¬ c.toNat < 32 by omega)]; rfl), rfl⟩
set_option maxRecDepth 100000 in
set_option maxHeartbeats 400000 in
theorem checkText_any (s : ByteArray) (w : World) (hs : s.size ≤ 9223372036854775807) :
    Calls Tryd.prog 36 #[.string s] w fun e w' => e = .returned (.int .i64 (textErr s)) ∧ w = w' := by
  by_cases h5 : 5000 < s.size
  · go_enter Tryd.func36, Tryd.ntmps36
    go_wp2_with fail
    go_ret
    exact ⟨retI (by unfold textErr; rw [if_pos h5]), rfl⟩
  · go_enter Tryd.func36, Tryd.ntmps36
    go_wp2_with fail
    go_loop [9] (fun i => ∃ k : Nat, k ≤ s.size ∧ i = .int .i64 k ∧ (s.data.toList.take k).any ctB = false) (fun i => s.size - (intOf i).toNat)
    case atStart => exact ⟨0, Nat.zero_le _, rfl, rfl⟩
    case round =>
      obtain ⟨k, hk, rfl, h0⟩ := hrel
      have H0 := Lib.hid h0; clear h0
      by_cases hlt : k < s.size
      · cases hc : ctB s[k] with
        | false =>
          have hcall := fun wx => isControl_any s[k] wx
          rw [hc] at hcall
          have HC := Lib.hid hcall; clear hcall
          have HP := Lib.hid hc; clear hc
          go_wp2_with fail
          refine (HC.out _).mono ?_
          rintro e w' ⟨rfl, rfl⟩
          go_wp2_with fail
          go_round
          case rel => exact ⟨k + 1, by omega, by go_num, any_snoc hlt H0.out HP.out⟩
          case measure => simp [intOf]; omega
        | true =>
          have hcall := fun wx => isControl_any s[k] wx
          rw [hc] at hcall
          have HC := Lib.hid hcall; clear hcall
          have HP := Lib.hid hc; clear hc
          go_wp2_with fail
          refine (HC.out _).mono ?_
          rintro e w' ⟨rfl, rfl⟩
          go_wp2_with fail
          go_ret
          exact ⟨retI (by unfold textErr; rw [if_neg h5, if_pos (any_hit hlt HP.out)]), rfl⟩
      · have hks : k = s.size := by omega
        have HK := Lib.hid hks; clear hks
        go_wp2_with fail
        go_ret
        exact ⟨retI (by unfold textErr; rw [if_neg h5, any_all HK.out H0.out]; rfl), rfl⟩

set_option maxRecDepth 100000 in
set_option maxHeartbeats 1000000 in
theorem isKey_any (s : ByteArray) (w : World) (hs : s.size ≤ 9223372036854775807) :
    Calls Tryd.prog 44 #[.string s] w fun e w' => e = .returned (.bool (keyB s)) ∧ w = w' := by
  by_cases h0 : s.size = 0
  · have hn := isEmpty_nil h0
    go_enter Tryd.func44, Tryd.ntmps44
    go_wp2_with fail
    go_ret
    exact ⟨retB (keyB_nil h0), rfl⟩
  · have hn := isEmpty_ne (s := s) (by omega)
    have hp : 0 < s.size := by omega
    have i0 : (0 : Int) < (s.size : Int) := by omega
    by_cases h40 : 40 < s.size
    · have i40 : (40 : Int) < (s.size : Int) := by omega
      go_enter Tryd.func44, Tryd.ntmps44
      go_wp2_with fail
      go_ret
      exact ⟨retB (by rw [keyB_cons hp]; simp; omega), rfl⟩
    · have i40 : ¬ (40 : Int) < (s.size : Int) := by omega
      cases hc0 : smallB s[0] with
      | false =>
        have hcall := fun wx => isSmall_any s[0] wx
        rw [hc0] at hcall
        have HC := Lib.hid hcall; clear hcall
        go_enter Tryd.func44, Tryd.ntmps44
        go_wp2_with fail
        refine (HC.out _).mono ?_
        rintro e w' ⟨rfl, rfl⟩
        go_wp2_with fail
        go_ret
        exact ⟨retB (by rw [keyB_cons hp, hc0]; simp), rfl⟩
      | true =>
        have hcall := fun wx => isSmall_any s[0] wx
        rw [hc0] at hcall
        have HC := Lib.hid hcall; clear hcall
        go_enter Tryd.func44, Tryd.ntmps44
        go_wp2_with fail
        refine (HC.out _).mono ?_
        rintro e w' ⟨rfl, rfl⟩
        go_wp2_with fail
        go_loop [19] (fun i => ∃ k : Nat, k ≤ s.size ∧ i = .int .i64 k ∧ (s.data.toList.take k).any nkB = false) (fun i => s.size - (intOf i).toNat)
        case atStart => exact ⟨0, Nat.zero_le _, rfl, rfl⟩
        case round =>
          obtain ⟨k, hk, rfl, hany⟩ := hrel
          have H0 := Lib.hid hany; clear hany
          by_cases hlt : k < s.size
          · obtain ⟨c, hck⟩ : ∃ c, s[k] = c := ⟨_, rfl⟩
            have hstep : nkB c = false → (s.data.toList.take (k + 1)).any nkB = false := fun h => any_snoc hlt H0.out (by rw [hck]; exact h)
            have hhit : nkB c = true → s.data.toList.any nkB = true := fun h => any_hit hlt (by rw [hck]; exact h)
            have HST := Lib.hid hstep; clear hstep
            have HHI := Lib.hid hhit; clear hhit
            have HS := Lib.hid (fun wx => isSmall_any c wx)
            have HD := Lib.hid (fun wx => isDigit_any c wx)
            cases hs1 : smallB c with
            | true =>
              rw [hs1] at HS
              have HP : nkB c = false := by unfold nkB; rw [hs1]; rfl
              have HQ := Lib.hid HP; clear HP hs1
              go_wp2_with fail
              refine (HS.out _).mono ?_
              rintro e w' ⟨rfl, rfl⟩
              go_wp2_with fail
              go_round
              case rel => exact ⟨k + 1, by omega, by go_num, HST.out HQ.out⟩
              case measure => simp [intOf]; omega
            | false =>
              rw [hs1] at HS
              cases hd1 : nd c with
              | false =>
                rw [hd1] at HD
                have HP : nkB c = false := by unfold nkB; rw [hs1, hd1]; rfl
                have HQ := Lib.hid HP; clear HP hs1 hd1
                go_wp2_with fail
                refine (HS.out _).mono ?_
                rintro e w' ⟨rfl, rfl⟩
                go_wp2_with fail
                refine (HD.out _).mono ?_
                rintro e w' ⟨rfl, rfl⟩
                go_wp2_with fail
                go_round
                case rel => exact ⟨k + 1, by omega, by go_num, HST.out HQ.out⟩
                case measure => simp [intOf]; omega
              | true =>
                rw [hd1] at HD
                have e45 : (c == 45) = ((c.toNat : Int) == 45) := by
                  by_cases h : c.toNat = 45
                  · rw [u8_ne h (by omega)]; rfl
                  · have h1 : (c == 45) = false := by simp only [beq_eq_false_iff_ne, ne_eq]; rintro rfl; exact h rfl
                    have h2 : ((c.toNat : Int) == 45) = false := by simp only [beq_eq_false_iff_ne, ne_eq]; omega
                    rw [h1, h2]
                have e95 : (c == 95) = ((c.toNat : Int) == 95) := by
                  by_cases h : c.toNat = 95
                  · rw [u8_ne h (by omega)]; rfl
                  · have h1 : (c == 95) = false := by simp only [beq_eq_false_iff_ne, ne_eq]; rintro rfl; exact h rfl
                    have h2 : ((c.toNat : Int) == 95) = false := by simp only [beq_eq_false_iff_ne, ne_eq]; omega
                    rw [h1, h2]
                have hq : nkB c = (!((c.toNat : Int) == 45) && !((c.toNat : Int) == 95)) := by unfold nkB; rw [hs1, hd1, e45, e95]; simp
                have HQ := Lib.hid hq; clear hq e45 e95 hs1 hd1
                by_cases g45 : (c.toNat : Int) = 45
                · simp only [g45] at HS HD
                  go_wp2_with fail
                  refine (HS.out _).mono ?_
                  rintro e w' ⟨rfl, rfl⟩
                  go_wp2_with fail
                  refine (HD.out _).mono ?_
                  rintro e w' ⟨rfl, rfl⟩
                  go_wp2_with fail
                  go_round
                  case rel => exact ⟨k + 1, by omega, by go_num, HST.out (by rw [HQ.out]; simp [g45])⟩
                  case measure => simp [intOf]; omega
                · have z45 : ((c.toNat : Int) != 45) = true := by simpa using g45
                  by_cases g95 : (c.toNat : Int) = 95
                  · simp only [g95] at HS HD
                    go_wp2_with fail
                    refine (HS.out _).mono ?_
                    rintro e w' ⟨rfl, rfl⟩
                    go_wp2_with fail
                    refine (HD.out _).mono ?_
                    rintro e w' ⟨rfl, rfl⟩
                    go_wp2_with fail
                    go_round
                    case rel => exact ⟨k + 1, by omega, by go_num, HST.out (by rw [HQ.out]; simp [g95])⟩
                    case measure => simp [intOf]; omega
                  · have z95 : ((c.toNat : Int) != 95) = true := by simpa using g95
                    go_wp2_with fail
                    refine (HS.out _).mono ?_
                    rintro e w' ⟨rfl, rfl⟩
                    go_wp2_with fail
                    refine (HD.out _).mono ?_
                    rintro e w' ⟨rfl, rfl⟩
                    go_wp2_with fail
                    go_ret
                    exact ⟨retB (by rw [keyB_cons hp, HHI.out (by rw [HQ.out]; simp [g45, g95])]; simp), rfl⟩
          · have hks : k = s.size := by omega
            have HK := Lib.hid hks; clear hks
            go_wp2_with fail
            go_ret
            exact ⟨retB (by rw [keyB_cons hp, hc0, any_all HK.out H0.out]; simp; omega), rfl⟩
end Go.Proofs.YteckcanghnligaaDoor
