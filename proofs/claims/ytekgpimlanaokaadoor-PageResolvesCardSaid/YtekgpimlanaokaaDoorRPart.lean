/- DERIVED. What the reference's pathPart returns (package mastref1). Condition: strings shorter than 2^63 bytes. -/
import Derived.Test.YtekgpimlanaokaaDoorTPart
import Derived.Test.YtekgpimlanaokaaDoorAddrM
namespace Go.Proofs.YtekgpimlanaokaaDoor
set_option linter.unusedVariables false
open Go.RowKit
def wdB (c : UInt8) : Bool := smallB c || !nd c || decide (c.toNat = 95)
theorem rDig1_any (c : UInt8) (w : World) :
    Calls Tryd.prog 46 #[.int .u8 c.toNat] w fun e w' => e = .returned (.bool (!nd c)) ∧ w = w' := by
  by_cases h : (48 : Int) ≤ (c.toNat : Int)
  · by_cases h' : (c.toNat : Int) ≤ 57
    all_goals
      go_enter Tryd.func46, Tryd.ntmps46
      go_wp2
      go_ret
      exact ⟨retB (by unfold nd; simp; omega), rfl⟩
  · go_enter Tryd.func46, Tryd.ntmps46
    go_wp2
    go_ret
    exact ⟨retB (by unfold nd; simp; omega), rfl⟩
theorem wdB_small {c : UInt8} (h : smallB c = true) : wdB c = true := by unfold wdB; rw [h]; rfl
theorem wdB_digit {c : UInt8} (h : nd c = false) : wdB c = true := by unfold wdB; rw [h]; cases smallB c <;> rfl
theorem wdB_rest {c : UInt8} (h : smallB c = false) (h2 : nd c = true) : wdB c = ((c.toNat : Int) == 95) := by
  unfold wdB
  rw [h, h2]
  by_cases h : c.toNat = 95
  · rw [h]; rfl
  · have h2 : ((c.toNat : Int) == 95) = false := by simp; omega
    rw [h2, decide_eq_false h]; rfl
set_option maxHeartbeats 400000 in
theorem wordB_any (c : UInt8) (w : World) :
    Calls Tryd.prog 31 #[.int .u8 c.toNat] w fun e w' => e = .returned (.bool (wdB c)) ∧ w = w' := by
  have H1 := Lib.hid (fun wx => rDig1_any c wx)
  by_cases h : (97 : Int) ≤ (c.toNat : Int) ∧ (c.toNat : Int) ≤ 122
  · obtain ⟨h, h'⟩ := h
    have HV := Lib.hid (wdB_small (show smallB c = true by unfold smallB; simp; omega))
    go_enter Tryd.func31, Tryd.ntmps31
    go_wp2_with fail
    go_ret
    exact ⟨retB HV.out, rfl⟩
  · have hs : smallB c = false := by unfold smallB; simp; omega
    cases hd : nd c with
    | false =>
      have HV := Lib.hid (wdB_digit hd)
      rw [hd] at H1
      clear hd hs
      by_cases h1 : (97 : Int) ≤ (c.toNat : Int)
      · have h2 : ¬ (c.toNat : Int) ≤ 122 := fun h2 => h ⟨h1, h2⟩
        clear h
        go_enter Tryd.func31, Tryd.ntmps31
        go_wp2_with fail
        refine (H1.out _).mono ?_
        rintro e w' ⟨rfl, rfl⟩
        go_wp2_with fail
        go_ret
        exact ⟨retB HV.out, rfl⟩
      · clear h
        go_enter Tryd.func31, Tryd.ntmps31
        go_wp2_with fail
        refine (H1.out _).mono ?_
        rintro e w' ⟨rfl, rfl⟩
        go_wp2_with fail
        go_ret
        exact ⟨retB HV.out, rfl⟩
    | true =>
      have HV := Lib.hid (wdB_rest hs hd)
      rw [hd] at H1
      clear hd hs
      by_cases h1 : (97 : Int) ≤ (c.toNat : Int)
      · have h2 : ¬ (c.toNat : Int) ≤ 122 := fun h2 => h ⟨h1, h2⟩
        clear h
        go_enter Tryd.func31, Tryd.ntmps31
        go_wp2_with fail
        refine (H1.out _).mono ?_
        rintro e w' ⟨rfl, rfl⟩
        go_wp2_with fail
        go_ret
        exact ⟨retB HV.out, rfl⟩
      · clear h
        go_enter Tryd.func31, Tryd.ntmps31
        go_wp2_with fail
        refine (H1.out _).mono ?_
        rintro e w' ⟨rfl, rfl⟩
        go_wp2_with fail
        go_ret
        exact ⟨retB HV.out, rfl⟩
theorem tnB_wd (c : UInt8) : tnB c = (!wdB c && !decide (c.toNat = 45) && !decide (c.toNat = 46)) := by
  unfold tnB wdB
  rw [markB_eq]
  cases smallB c <;> cases nd c <;> cases decide (c.toNat = 45) <;> cases decide (c.toNat = 95) <;> cases decide (c.toNat = 46) <;> rfl
set_option maxRecDepth 100000 in
set_option maxHeartbeats 1000000 in
theorem pathPart_any (s : ByteArray) (w : World) (hs : s.size ≤ 9223372036854775807) :
    Calls Tryd.prog 16 #[.string s] w fun e w' => e = .returned (.bool (tpartB s)) ∧ w = w' := by
  by_cases h0 : (s.size : Int) < 1
  · have HR := Lib.hid (show tpartB s = false by unfold tpartB; rw [decide_eq_false (show ¬ 0 < s.size by omega)]; rfl)
    go_enter Tryd.func16, Tryd.ntmps16
    go_wp2_with fail
    go_ret
    exact ⟨retB HR.out, rfl⟩
  by_cases h4 : (40 : Int) < (s.size : Int)
  · have HR := Lib.hid (show tpartB s = false by unfold tpartB; rw [decide_eq_false (show ¬ s.size ≤ 40 by omega)]; simp)
    go_enter Tryd.func16, Tryd.ntmps16
    go_wp2_with fail
    go_ret
    exact ⟨retB HR.out, rfl⟩
  cases h1 : (s.toList == [46]) with
  | true =>
    have HR := Lib.hid (show tpartB s = false by unfold tpartB; rw [h1]; simp)
    go_enter Tryd.func16, Tryd.ntmps16
    go_wp2_with fail
    go_ret
    exact ⟨retB HR.out, rfl⟩
  | false =>
    cases h2 : (s.toList == [46, 46]) with
    | true =>
      have HR := Lib.hid (show tpartB s = false by unfold tpartB; rw [h2]; simp)
      go_enter Tryd.func16, Tryd.ntmps16
      go_wp2_with fail
      go_ret
      exact ⟨retB HR.out, rfl⟩
    | false =>
      have HR := Lib.hid (show tpartB s = !(s.data.toList.any tnB) by unfold tpartB; rw [h1, h2, decide_eq_true (show 0 < s.size by omega), decide_eq_true (show s.size ≤ 40 by omega)]; rfl)
      go_enter Tryd.func16, Tryd.ntmps16
      go_wp2_with fail
      go_loop [3] (fun i => ∃ k : Nat, k ≤ s.size ∧ i = .int .i64 k ∧ (s.data.toList.take k).any tnB = false) (fun i => s.size - (intOf i).toNat)
      case atStart => exact ⟨0, Nat.zero_le _, rfl, rfl⟩
      case round =>
        obtain ⟨k, hk, rfl, ha⟩ := hrel
        have HA := Lib.hid ha; clear ha
        by_cases hlt : k < s.size
        · have hstep := fun h => any_snoc hlt HA.out (p := tnB) h
          have hhit := fun h => any_hit hlt (p := tnB) h
          obtain ⟨c, hck⟩ : ∃ c, s[k] = c := ⟨_, rfl⟩
          rw [hck] at hstep hhit
          have HST := Lib.hid hstep; clear hstep
          have HHI := Lib.hid hhit; clear hhit
          have H1 := Lib.hid (fun wx => wordB_any c wx)
          have hT := tnB_wd c
          cases ha : wdB c with
          | true =>
            rw [ha] at H1 hT
            have HT := Lib.hid (show tnB c = false by rw [hT]; rfl)
            clear ha hT
            go_wp2_with fail
            refine (H1.out _).mono ?_
            rintro e w' ⟨rfl, rfl⟩
            go_wp2_with fail
            go_round
            case rel => exact ⟨k + 1, by omega, by go_num, HST.out HT.out⟩
            case measure => simp [intOf]; omega
          | false =>
            rw [ha] at H1 hT
            by_cases h45 : c.toNat = 45
            · have g1 : ((c.toNat : Int) == 45) = true := by rw [h45]; rfl
              have HT := Lib.hid (show tnB c = false by rw [hT, decide_eq_true h45]; rfl)
              clear ha hT h45
              go_wp2_with fail
              refine (H1.out _).mono ?_
              rintro e w' ⟨rfl, rfl⟩
              go_wp2_with fail
              go_round
              case rel => exact ⟨k + 1, by omega, by go_num, HST.out HT.out⟩
              case measure => simp [intOf]; omega
            · have g1 : ((c.toNat : Int) == 45) = false := by simp; omega
              by_cases h46 : c.toNat = 46
              · have g2 : ((c.toNat : Int) == 46) = true := by rw [h46]; rfl
                have HT := Lib.hid (show tnB c = false by rw [hT, decide_eq_true h46]; simp)
                clear ha hT h45 h46
                go_wp2_with fail
                refine (H1.out _).mono ?_
                rintro e w' ⟨rfl, rfl⟩
                go_wp2_with fail
                go_round
                case rel => exact ⟨k + 1, by omega, by go_num, HST.out HT.out⟩
                case measure => simp [intOf]; omega
              · have g2 : ((c.toNat : Int) == 46) = false := by simp; omega
                have HT := Lib.hid (show tnB c = true by rw [hT, decide_eq_false h45, decide_eq_false h46]; rfl)
                clear ha hT h45 h46
                go_wp2_with fail
                refine (H1.out _).mono ?_
                rintro e w' ⟨rfl, rfl⟩
                go_wp2_with fail
                go_ret
                exact ⟨retB (by rw [HR.out, HHI.out HT.out]; rfl), rfl⟩
        · go_wp2_with fail
          go_ret
          exact ⟨retB (by rw [HR.out, any_all (by omega) HA.out]; rfl), rfl⟩
end Go.Proofs.YtekgpimlanaokaaDoor
