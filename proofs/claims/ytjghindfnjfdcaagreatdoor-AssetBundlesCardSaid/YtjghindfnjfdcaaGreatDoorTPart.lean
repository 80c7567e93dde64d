/- DERIVED. What tree's functions on bytes and isPart return. Condition: strings shorter than 2^63 bytes. -/
import Derived.Test.YtjghindfnjfdcaaGreatDoorRows
import Derived.Test.YtjghindfnjfdcaaGreatDoorTPlain
import Derived.WalkKit
import Derived.WalkSpells
import Derived.WalkLawsBesides
import Derived.Lib.Hide
import Derived.BigGuardPart
namespace Go.Proofs.YtjghindfnjfdcaaGreatDoor
set_option linter.unusedVariables false
open Go.RowKit
theorem u8_eq {c : UInt8} {n : Nat} (h : c.toNat = n) (hn : n < 256) : c = UInt8.ofNat n := by
  rw [← h, UInt8.ofNat_toNat]
theorem u8_beq (c : UInt8) (n : Nat) (hn : n < 256) : (c == UInt8.ofNat n) = decide (c.toNat = n) := by
  by_cases h : c.toNat = n
  · rw [u8_eq h hn, decide_eq_true (by rw [← h]; simp)]
    simp
  · rw [decide_eq_false h]
    simp only [beq_eq_false_iff_ne, ne_eq]
    rintro rfl
    exact h (by simp; omega)
theorem tSmall_any (c : UInt8) (w : World) :
    Calls Tryz.prog 85 #[.int .u8 c.toNat] w fun e w' => e = .returned (.bool (smallB c)) ∧ w = w' := by
  by_cases h : (97 : Int) ≤ (c.toNat : Int)
  · by_cases h' : (c.toNat : Int) ≤ 122
    all_goals
      go_enter Tryz.func85, Tryz.ntmps85
      go_wp2
      go_ret
      exact ⟨retB (by unfold smallB; simp; omega), rfl⟩
  · go_enter Tryz.func85, Tryz.ntmps85
    go_wp2
    go_ret
    exact ⟨retB (by unfold smallB; simp; omega), rfl⟩
theorem tDigit_any (c : UInt8) (w : World) :
    Calls Tryz.prog 86 #[.int .u8 c.toNat] w fun e w' => e = .returned (.bool (!nd c)) ∧ w = w' := by
  by_cases h : (48 : Int) ≤ (c.toNat : Int)
  · by_cases h' : (c.toNat : Int) ≤ 57
    all_goals
      go_enter Tryz.func86, Tryz.ntmps86
      go_wp2
      go_ret
      exact ⟨retB (by unfold nd; simp; omega), rfl⟩
  · go_enter Tryz.func86, Tryz.ntmps86
    go_wp2
    go_ret
    exact ⟨retB (by unfold nd; simp; omega), rfl⟩
theorem markB_eq (c : UInt8) : markB c = (decide (c.toNat = 45) || decide (c.toNat = 95) || decide (c.toNat = 46)) := by
  unfold markB
  rw [← u8_beq c 45 (by omega), ← u8_beq c 95 (by omega), ← u8_beq c 46 (by omega)]
  rfl
theorem tMark_any (c : UInt8) (w : World) :
    Calls Tryz.prog 87 #[.int .u8 c.toNat] w fun e w' => e = .returned (.bool (markB c)) ∧ w = w' := by
  have HM := Lib.hid (markB_eq c)
  by_cases h1 : (c.toNat : Int) = 45
  · have g1 : ((c.toNat : Int) == 45) = true := by simpa using h1
    go_enter Tryz.func87, Tryz.ntmps87
    go_wp2
    go_ret
    exact ⟨retB (by rw [HM.out, decide_eq_true (show c.toNat = 45 by omega)]; rfl), rfl⟩
  · have g1 : ((c.toNat : Int) == 45) = false := by simpa using h1
    by_cases h2 : (c.toNat : Int) = 95
    · have g2 : ((c.toNat : Int) == 95) = true := by simpa using h2
      go_enter Tryz.func87, Tryz.ntmps87
      go_wp2
      go_ret
      exact ⟨retB (by rw [HM.out, decide_eq_true (show c.toNat = 95 by omega)]; simp), rfl⟩
    · have g2 : ((c.toNat : Int) == 95) = false := by simpa using h2
      have hr : markB c = ((c.toNat : Int) == 46) := by
        rw [HM.out, decide_eq_false (show ¬ c.toNat = 45 by omega), decide_eq_false (show ¬ c.toNat = 95 by omega)]
        by_cases h : c.toNat = 46
        · rw [h]; rfl
        · have h2 : ((c.toNat : Int) == 46) = false := by simp; omega
          rw [h2, decide_eq_false h]; rfl
      have HR := Lib.hid hr; clear hr
      go_enter Tryz.func87, Tryz.ntmps87
      go_wp2
      go_ret
      exact ⟨retB HR.out, rfl⟩
theorem tnB_of {c : UInt8} {a b d : Bool} (h1 : smallB c = a) (h2 : nd c = b) (h3 : markB c = d) : tnB c = (!a && b && !d) := by unfold tnB; rw [h1, h2, h3]
set_option maxRecDepth 100000 in
set_option maxHeartbeats 1000000 in
theorem tPart_any (s : ByteArray) (w : World) (hs : s.size ≤ 9223372036854775807) :
    Calls Tryz.prog 74 #[.string s] w fun e w' => e = .returned (.bool (tpartB s)) ∧ w = w' := by
  by_cases h0 : s.size = 0
  · have hn := isEmpty_nil h0
    have hl := toList_nil h0
    have HR := Lib.hid (show tpartB s = false by unfold tpartB; rw [decide_eq_false (show ¬ 0 < s.size by omega)]; rfl)
    go_enter Tryz.func74, Tryz.ntmps74
    go_wp2_with fail
    go_ret
    exact ⟨retB HR.out, rfl⟩
  · have hp : 0 < s.size := by omega
    have hn := isEmpty_ne hp
    by_cases h4 : (40 : Int) < (s.size : Int)
    · have HR := Lib.hid (show tpartB s = false by unfold tpartB; rw [decide_eq_false (show ¬ s.size ≤ 40 by omega)]; simp)
      go_enter Tryz.func74, Tryz.ntmps74
      go_wp2_with fail
      go_ret
      exact ⟨retB HR.out, rfl⟩
    · cases h1 : (s.toList == [46]) with
      | true =>
        have HR := Lib.hid (show tpartB s = false by unfold tpartB; rw [h1]; simp)
        go_enter Tryz.func74, Tryz.ntmps74
        go_wp2_with fail
        go_ret
        exact ⟨retB HR.out, rfl⟩
      | false =>
        cases h2 : (s.toList == [46, 46]) with
        | true =>
          have HR := Lib.hid (show tpartB s = false by unfold tpartB; rw [h2]; simp)
          go_enter Tryz.func74, Tryz.ntmps74
          go_wp2_with fail
          go_ret
          exact ⟨retB HR.out, rfl⟩
        | false =>
          have HR := Lib.hid (show tpartB s = !(s.data.toList.any tnB) by unfold tpartB; rw [h1, h2, decide_eq_true hp, decide_eq_true (show s.size ≤ 40 by omega)]; rfl)
          go_enter Tryz.func74, Tryz.ntmps74
          go_wp2_with fail
          go_loop [21] (fun i => ∃ k : Nat, k ≤ s.size ∧ i = .int .i64 k ∧ (s.data.toList.take k).any tnB = false) (fun i => s.size - (intOf i).toNat)
          case atStart => exact ⟨0, Nat.zero_le _, rfl, rfl⟩
          case round =>
            obtain ⟨k, hk, rfl, ha⟩ := hrel
            have HA := Lib.hid ha; clear ha
            by_cases hlt : k < s.size
            · have hstep := fun h => any_snoc hlt HA.out (p := tnB) h
              have hhit := fun h => any_hit hlt (p := tnB) h
              obtain ⟨c, hck⟩ : ∃ c, s[k] = c := ⟨_, rfl⟩
              rw [hck] at hstep hhit
              have HST := Lib.hid hstep; clear hstep
              have HHI := Lib.hid hhit; clear hhit
              have H1 := Lib.hid (fun wx => tSmall_any c wx)
              have H2 := Lib.hid (fun wx => tDigit_any c wx)
              have H3 := Lib.hid (fun wx => tMark_any c wx)
              cases ha : smallB c <;> cases hb : nd c <;> cases hm : markB c <;> (
                have HT := Lib.hid (tnB_of ha hb hm)
                rw [ha] at H1
                rw [hb] at H2
                rw [hm] at H3
                clear ha hb hm
                go_wp2_with (first | (go_at_call 85; refine (H1.out _).mono ?_; rintro e w' ⟨rfl, rfl⟩) | (go_at_call 86; refine (H2.out _).mono ?_; rintro e w' ⟨rfl, rfl⟩) | (go_at_call 87; refine (H3.out _).mono ?_; rintro e w' ⟨rfl, rfl⟩))
                first
                  | (go_ret
                     exact ⟨retB (by rw [HR.out, HHI.out (by rw [HT.out]; rfl)]; rfl), rfl⟩)
                  | (go_round
                     case rel => exact ⟨k + 1, by omega, by go_num, HST.out (by rw [HT.out]; rfl)⟩
                     case measure => simp [intOf]; omega))
            · go_wp2_with fail
              go_ret
              exact ⟨retB (by rw [HR.out, any_all (by omega) HA.out]; rfl), rfl⟩
end Go.Proofs.YtjghindfnjfdcaaGreatDoor
