/- DERIVED. What the functions on bytes of package page and of the reference, and leading, return. Condition: strings shorter than 2^63 bytes. -/
import Derived.Test.YtfmmpfoecjehiaaShelf
import Derived.Test.YtfmmpfoecjehiaaLinePlain
import Derived.WalkKit
import Derived.WalkSpells
import Derived.WalkSmall
import Derived.WalkLawsBesides
import Derived.Lib.Hide
import Derived.Lib.IndexBytes
import Derived.Below
import Derived.ProofKit
import Derived.BigGuardPart
namespace Go.Proofs.Ytfmmpfoecjehiaa
set_option linter.unusedVariables false
open Go.RowKit
theorem retB {a b : Bool} (h : a = b) : Ending.returned (.bool b) = .returned (.bool a) := by rw [h]
theorem eqI {c : UInt8} {n : Nat} (h : ¬ (c.toNat : Int) = n) : decide (c.toNat = n) = false := decide_eq_false (by omega)
theorem small_any (c : UInt8) (w : World) :
    Calls Try.prog 45 #[.int .u8 c.toNat] w fun e w' => e = .returned (.bool (smC c)) ∧ w = w' := by
  by_cases h : (97 : Int) ≤ (c.toNat : Int)
  · by_cases h' : (c.toNat : Int) ≤ 122
    all_goals
      go_enter Try.func45, Try.ntmps45
      go_wp2
      go_ret
      exact ⟨retB (by unfold smC; simp; omega), rfl⟩
  · go_enter Try.func45, Try.ntmps45
    go_wp2
    go_ret
    exact ⟨retB (by unfold smC; simp; omega), rfl⟩
theorem digit_any (c : UInt8) (w : World) :
    Calls Try.prog 46 #[.int .u8 c.toNat] w fun e w' => e = .returned (.bool (dgC c)) ∧ w = w' := by
  by_cases h : (48 : Int) ≤ (c.toNat : Int)
  · by_cases h' : (c.toNat : Int) ≤ 57
    all_goals
      go_enter Try.func46, Try.ntmps46
      go_wp2
      go_ret
      exact ⟨retB (by unfold dgC; simp; omega), rfl⟩
  · go_enter Try.func46, Try.ntmps46
    go_wp2
    go_ret
    exact ⟨retB (by unfold dgC; simp; omega), rfl⟩
theorem digitR_any (c : UInt8) (w : World) :
    Calls Try.prog 36 #[.int .u8 c.toNat] w fun e w' => e = .returned (.bool (dgC c)) ∧ w = w' := by
  by_cases h : (48 : Int) ≤ (c.toNat : Int)
  · by_cases h' : (c.toNat : Int) ≤ 57
    all_goals
      go_enter Try.func36, Try.ntmps36
      go_wp2
      go_ret
      exact ⟨retB (by unfold dgC; simp; omega), rfl⟩
  · go_enter Try.func36, Try.ntmps36
    go_wp2
    go_ret
    exact ⟨retB (by unfold dgC; simp; omega), rfl⟩
theorem name_any (c : UInt8) (w : World) :
    Calls Try.prog 33 #[.int .u8 c.toNat] w fun e w' => e = .returned (.bool (nmC c)) ∧ w = w' := by
  have HP := Lib.hid (show nmC c = (smC c || dgC c || decide (c.toNat = 45)) from rfl)
  have H0 := Lib.hid (fun wx => small_any c wx)
  have H1 := Lib.hid (fun wx => digit_any c wx)
  cases h0 : smC c
  · rw [h0] at H0
    have g0 := Lib.hid h0; clear h0
    cases h1 : dgC c
    · rw [h1] at H1
      have g1 := Lib.hid h1; clear h1
      by_cases h2 : (c.toNat : Int) = 45
      · have e2 : ((c.toNat : Int) == 45) = true := by simpa using h2
        have g2 := Lib.hid (show decide (c.toNat = 45) = true from decide_eq_true (by omega)); clear h2
        go_enter Try.func33, Try.ntmps33
        go_wp2_with (first | (go_at_call 45; refine (H0.out _).mono ?_; rintro e w9 ⟨rfl, rfl⟩) | (go_at_call 46; refine (H1.out _).mono ?_; rintro e w9 ⟨rfl, rfl⟩))
        all_goals first | (exfalso; omega) | (go_ret; exact ⟨retB (by rw [HP.out, g0.out, g1.out, g2.out]; simp), rfl⟩)
      · have e2 : ((c.toNat : Int) == 45) = false := by simpa using h2
        have g2 := Lib.hid (show decide (c.toNat = 45) = false from decide_eq_false (by omega)); clear h2
        go_enter Try.func33, Try.ntmps33
        go_wp2_with (first | (go_at_call 45; refine (H0.out _).mono ?_; rintro e w9 ⟨rfl, rfl⟩) | (go_at_call 46; refine (H1.out _).mono ?_; rintro e w9 ⟨rfl, rfl⟩))
        all_goals first | (exfalso; omega) | (go_ret; exact ⟨retB (by rw [HP.out, g0.out, g1.out, g2.out]; rfl), rfl⟩)
    · rw [h1] at H1
      have g1 := Lib.hid h1; clear h1
      go_enter Try.func33, Try.ntmps33
      go_wp2_with (first | (go_at_call 45; refine (H0.out _).mono ?_; rintro e w9 ⟨rfl, rfl⟩) | (go_at_call 46; refine (H1.out _).mono ?_; rintro e w9 ⟨rfl, rfl⟩))
      all_goals first | (exfalso; omega) | (go_ret; exact ⟨retB (by rw [HP.out, g0.out, g1.out]; simp), rfl⟩)
  · rw [h0] at H0
    have g0 := Lib.hid h0; clear h0
    go_enter Try.func33, Try.ntmps33
    go_wp2_with (first | (go_at_call 45; refine (H0.out _).mono ?_; rintro e w9 ⟨rfl, rfl⟩) | (go_at_call 46; refine (H1.out _).mono ?_; rintro e w9 ⟨rfl, rfl⟩))
    all_goals first | (exfalso; omega) | (go_ret; exact ⟨retB (by rw [HP.out, g0.out]; simp), rfl⟩)
theorem word_any (c : UInt8) (w : World) :
    Calls Try.prog 48 #[.int .u8 c.toNat] w fun e w' => e = .returned (.bool (wdC c)) ∧ w = w' := by
  have HP := Lib.hid (show wdC c = (smC c || dgC c || decide (c.toNat = 95)) from rfl)
  have H0 := Lib.hid (fun wx => small_any c wx)
  have H1 := Lib.hid (fun wx => digit_any c wx)
  cases h0 : smC c
  · rw [h0] at H0
    have g0 := Lib.hid h0; clear h0
    cases h1 : dgC c
    · rw [h1] at H1
      have g1 := Lib.hid h1; clear h1
      by_cases h2 : (c.toNat : Int) = 95
      · have e2 : ((c.toNat : Int) == 95) = true := by simpa using h2
        have g2 := Lib.hid (show decide (c.toNat = 95) = true from decide_eq_true (by omega)); clear h2
        go_enter Try.func48, Try.ntmps48
        go_wp2_with (first | (go_at_call 45; refine (H0.out _).mono ?_; rintro e w9 ⟨rfl, rfl⟩) | (go_at_call 46; refine (H1.out _).mono ?_; rintro e w9 ⟨rfl, rfl⟩))
        all_goals first | (exfalso; omega) | (go_ret; exact ⟨retB (by rw [HP.out, g0.out, g1.out, g2.out]; simp), rfl⟩)
      · have e2 : ((c.toNat : Int) == 95) = false := by simpa using h2
        have g2 := Lib.hid (show decide (c.toNat = 95) = false from decide_eq_false (by omega)); clear h2
        go_enter Try.func48, Try.ntmps48
        go_wp2_with (first | (go_at_call 45; refine (H0.out _).mono ?_; rintro e w9 ⟨rfl, rfl⟩) | (go_at_call 46; refine (H1.out _).mono ?_; rintro e w9 ⟨rfl, rfl⟩))
        all_goals first | (exfalso; omega) | (go_ret; exact ⟨retB (by rw [HP.out, g0.out, g1.out, g2.out]; rfl), rfl⟩)
    · rw [h1] at H1
      have g1 := Lib.hid h1; clear h1
      go_enter Try.func48, Try.ntmps48
      go_wp2_with (first | (go_at_call 45; refine (H0.out _).mono ?_; rintro e w9 ⟨rfl, rfl⟩) | (go_at_call 46; refine (H1.out _).mono ?_; rintro e w9 ⟨rfl, rfl⟩))
      all_goals first | (exfalso; omega) | (go_ret; exact ⟨retB (by rw [HP.out, g0.out, g1.out]; simp), rfl⟩)
  · rw [h0] at H0
    have g0 := Lib.hid h0; clear h0
    go_enter Try.func48, Try.ntmps48
    go_wp2_with (first | (go_at_call 45; refine (H0.out _).mono ?_; rintro e w9 ⟨rfl, rfl⟩) | (go_at_call 46; refine (H1.out _).mono ?_; rintro e w9 ⟨rfl, rfl⟩))
    all_goals first | (exfalso; omega) | (go_ret; exact ⟨retB (by rw [HP.out, g0.out]; simp), rfl⟩)
def lsC (c : UInt8) : Bool := smC c || bgC c
theorem letterR_any (c : UInt8) (w : World) :
    Calls Try.prog 66 #[.int .u8 c.toNat] w fun e w' => e = .returned (.bool (lsC c)) ∧ w = w' := by
  have HP := Lib.hid (show lsC c = (smC c || bgC c) from rfl)
  by_cases h0 : (97 : Int) ≤ (c.toNat : Int) ∧ (c.toNat : Int) ≤ 122
  · obtain ⟨h0a, h0b⟩ := h0
    have g0 := Lib.hid (show smC c = true by unfold smC; simp; omega)
    go_enter Try.func66, Try.ntmps66
    go_wp2
    all_goals first | (exfalso; omega) | (go_ret; exact ⟨retB (by rw [HP.out, g0.out]; simp), rfl⟩)
  · have g0 := Lib.hid (show smC c = false by unfold smC; simp; omega)
    have h0c : ¬ (97 : Int) ≤ (c.toNat : Int) ∨ ¬ (c.toNat : Int) ≤ 122 := by omega
    clear h0
    rcases h0c with h0c | h0c
    · skip
      by_cases h1 : (65 : Int) ≤ (c.toNat : Int) ∧ (c.toNat : Int) ≤ 90
      · obtain ⟨h1a, h1b⟩ := h1
        have g1 := Lib.hid (show bgC c = true by unfold bgC; simp; omega)
        go_enter Try.func66, Try.ntmps66
        go_wp2
        all_goals first | (exfalso; omega) | (go_ret; exact ⟨retB (by rw [HP.out, g0.out, g1.out]; simp), rfl⟩)
      · have g1 := Lib.hid (show bgC c = false by unfold bgC; simp; omega)
        have h1c : ¬ (65 : Int) ≤ (c.toNat : Int) ∨ ¬ (c.toNat : Int) ≤ 90 := by omega
        clear h1
        rcases h1c with h1c | h1c
        · skip
          go_enter Try.func66, Try.ntmps66
          go_wp2
          all_goals first | (exfalso; omega) | (go_ret; exact ⟨retB (by rw [HP.out, g0.out, g1.out]; rfl), rfl⟩)
        · have h1d : (65 : Int) ≤ (c.toNat : Int) := by omega
          go_enter Try.func66, Try.ntmps66
          go_wp2
          all_goals first | (exfalso; omega) | (go_ret; exact ⟨retB (by rw [HP.out, g0.out, g1.out]; rfl), rfl⟩)
    · have h0d : (97 : Int) ≤ (c.toNat : Int) := by omega
      by_cases h1 : (65 : Int) ≤ (c.toNat : Int) ∧ (c.toNat : Int) ≤ 90
      · obtain ⟨h1a, h1b⟩ := h1
        have g1 := Lib.hid (show bgC c = true by unfold bgC; simp; omega)
        go_enter Try.func66, Try.ntmps66
        go_wp2
        all_goals first | (exfalso; omega) | (go_ret; exact ⟨retB (by rw [HP.out, g0.out, g1.out]; simp), rfl⟩)
      · have g1 := Lib.hid (show bgC c = false by unfold bgC; simp; omega)
        have h1c : ¬ (65 : Int) ≤ (c.toNat : Int) ∨ ¬ (c.toNat : Int) ≤ 90 := by omega
        clear h1
        rcases h1c with h1c | h1c
        · skip
          go_enter Try.func66, Try.ntmps66
          go_wp2
          all_goals first | (exfalso; omega) | (go_ret; exact ⟨retB (by rw [HP.out, g0.out, g1.out]; rfl), rfl⟩)
        · have h1d : (65 : Int) ≤ (c.toNat : Int) := by omega
          go_enter Try.func66, Try.ntmps66
          go_wp2
          all_goals first | (exfalso; omega) | (go_ret; exact ⟨retB (by rw [HP.out, g0.out, g1.out]; rfl), rfl⟩)
theorem wordR_any (c : UInt8) (w : World) :
    Calls Try.prog 38 #[.int .u8 c.toNat] w fun e w' => e = .returned (.bool (wdC c)) ∧ w = w' := by
  have HP := Lib.hid (show wdC c = (smC c || dgC c || decide (c.toNat = 95)) from rfl)
  have H1 := Lib.hid (fun wx => digitR_any c wx)
  by_cases h0 : (97 : Int) ≤ (c.toNat : Int) ∧ (c.toNat : Int) ≤ 122
  · obtain ⟨h0a, h0b⟩ := h0
    have g0 := Lib.hid (show smC c = true by unfold smC; simp; omega)
    go_enter Try.func38, Try.ntmps38
    go_wp2_with (first | (go_at_call 36; refine (H1.out _).mono ?_; rintro e w9 ⟨rfl, rfl⟩))
    all_goals first | (exfalso; omega) | (go_ret; exact ⟨retB (by rw [HP.out, g0.out]; simp), rfl⟩)
  · have g0 := Lib.hid (show smC c = false by unfold smC; simp; omega)
    have h0c : ¬ (97 : Int) ≤ (c.toNat : Int) ∨ ¬ (c.toNat : Int) ≤ 122 := by omega
    clear h0
    rcases h0c with h0c | h0c
    · skip
      cases h1 : dgC c
      · rw [h1] at H1
        have g1 := Lib.hid h1; clear h1
        by_cases h2 : (c.toNat : Int) = 95
        · have e2 : ((c.toNat : Int) == 95) = true := by simpa using h2
          have g2 := Lib.hid (show decide (c.toNat = 95) = true from decide_eq_true (by omega)); clear h2
          go_enter Try.func38, Try.ntmps38
          go_wp2_with (first | (go_at_call 36; refine (H1.out _).mono ?_; rintro e w9 ⟨rfl, rfl⟩))
          all_goals first | (exfalso; omega) | (go_ret; exact ⟨retB (by rw [HP.out, g0.out, g1.out, g2.out]; simp), rfl⟩)
        · have e2 : ((c.toNat : Int) == 95) = false := by simpa using h2
          have g2 := Lib.hid (show decide (c.toNat = 95) = false from decide_eq_false (by omega)); clear h2
          go_enter Try.func38, Try.ntmps38
          go_wp2_with (first | (go_at_call 36; refine (H1.out _).mono ?_; rintro e w9 ⟨rfl, rfl⟩))
          all_goals first | (exfalso; omega) | (go_ret; exact ⟨retB (by rw [HP.out, g0.out, g1.out, g2.out]; rfl), rfl⟩)
      · rw [h1] at H1
        have g1 := Lib.hid h1; clear h1
        go_enter Try.func38, Try.ntmps38
        go_wp2_with (first | (go_at_call 36; refine (H1.out _).mono ?_; rintro e w9 ⟨rfl, rfl⟩))
        all_goals first | (exfalso; omega) | (go_ret; exact ⟨retB (by rw [HP.out, g0.out, g1.out]; simp), rfl⟩)
    · have h0d : (97 : Int) ≤ (c.toNat : Int) := by omega
      cases h1 : dgC c
      · rw [h1] at H1
        have g1 := Lib.hid h1; clear h1
        by_cases h2 : (c.toNat : Int) = 95
        · have e2 : ((c.toNat : Int) == 95) = true := by simpa using h2
          have g2 := Lib.hid (show decide (c.toNat = 95) = true from decide_eq_true (by omega)); clear h2
          go_enter Try.func38, Try.ntmps38
          go_wp2_with (first | (go_at_call 36; refine (H1.out _).mono ?_; rintro e w9 ⟨rfl, rfl⟩))
          all_goals first | (exfalso; omega) | (go_ret; exact ⟨retB (by rw [HP.out, g0.out, g1.out, g2.out]; simp), rfl⟩)
        · have e2 : ((c.toNat : Int) == 95) = false := by simpa using h2
          have g2 := Lib.hid (show decide (c.toNat = 95) = false from decide_eq_false (by omega)); clear h2
          go_enter Try.func38, Try.ntmps38
          go_wp2_with (first | (go_at_call 36; refine (H1.out _).mono ?_; rintro e w9 ⟨rfl, rfl⟩))
          all_goals first | (exfalso; omega) | (go_ret; exact ⟨retB (by rw [HP.out, g0.out, g1.out, g2.out]; rfl), rfl⟩)
      · rw [h1] at H1
        have g1 := Lib.hid h1; clear h1
        go_enter Try.func38, Try.ntmps38
        go_wp2_with (first | (go_at_call 36; refine (H1.out _).mono ?_; rintro e w9 ⟨rfl, rfl⟩))
        all_goals first | (exfalso; omega) | (go_ret; exact ⟨retB (by rw [HP.out, g0.out, g1.out]; simp), rfl⟩)
theorem plC_eq (c : UInt8) : plC c = (lsC c || dgC c || decide (c.toNat = 45) || decide (c.toNat = 95) || decide (c.toNat = 46) || decide (c.toNat = 47) || decide (c.toNat = 58)) := by
  unfold plC lsC
  cases smC c <;> cases bgC c <;> cases dgC c <;> simp
theorem bareR_any (c : UInt8) (w : World) :
    Calls Try.prog 51 #[.int .u8 c.toNat] w fun e w' => e = .returned (.bool (plC c)) ∧ w = w' := by
  have HP := Lib.hid (plC_eq c)
  have H0 := Lib.hid (fun wx => letterR_any c wx)
  have H1 := Lib.hid (fun wx => digitR_any c wx)
  cases h0 : lsC c
  · rw [h0] at H0
    have g0 := Lib.hid h0; clear h0
    cases h1 : dgC c
    · rw [h1] at H1
      have g1 := Lib.hid h1; clear h1
      by_cases h2 : (c.toNat : Int) = 45
      · have e2 : ((c.toNat : Int) == 45) = true := by simpa using h2
        have g2 := Lib.hid (show decide (c.toNat = 45) = true from decide_eq_true (by omega)); clear h2
        go_enter Try.func51, Try.ntmps51
        go_wp2_with (first | (go_at_call 66; refine (H0.out _).mono ?_; rintro e w9 ⟨rfl, rfl⟩) | (go_at_call 36; refine (H1.out _).mono ?_; rintro e w9 ⟨rfl, rfl⟩))
        all_goals first | (exfalso; omega) | (go_ret; exact ⟨retB (by rw [HP.out, g0.out, g1.out, g2.out]; simp), rfl⟩)
      · have e2 : ((c.toNat : Int) == 45) = false := by simpa using h2
        have g2 := Lib.hid (show decide (c.toNat = 45) = false from decide_eq_false (by omega)); clear h2
        by_cases h3 : (c.toNat : Int) = 95
        · have e3 : ((c.toNat : Int) == 95) = true := by simpa using h3
          have g3 := Lib.hid (show decide (c.toNat = 95) = true from decide_eq_true (by omega)); clear h3
          go_enter Try.func51, Try.ntmps51
          go_wp2_with (first | (go_at_call 66; refine (H0.out _).mono ?_; rintro e w9 ⟨rfl, rfl⟩) | (go_at_call 36; refine (H1.out _).mono ?_; rintro e w9 ⟨rfl, rfl⟩))
          all_goals first | (exfalso; omega) | (go_ret; exact ⟨retB (by rw [HP.out, g0.out, g1.out, g2.out, g3.out]; simp), rfl⟩)
        · have e3 : ((c.toNat : Int) == 95) = false := by simpa using h3
          have g3 := Lib.hid (show decide (c.toNat = 95) = false from decide_eq_false (by omega)); clear h3
          by_cases h4 : (c.toNat : Int) = 46
          · have e4 : ((c.toNat : Int) == 46) = true := by simpa using h4
            have g4 := Lib.hid (show decide (c.toNat = 46) = true from decide_eq_true (by omega)); clear h4
            go_enter Try.func51, Try.ntmps51
            go_wp2_with (first | (go_at_call 66; refine (H0.out _).mono ?_; rintro e w9 ⟨rfl, rfl⟩) | (go_at_call 36; refine (H1.out _).mono ?_; rintro e w9 ⟨rfl, rfl⟩))
            all_goals first | (exfalso; omega) | (go_ret; exact ⟨retB (by rw [HP.out, g0.out, g1.out, g2.out, g3.out, g4.out]; simp), rfl⟩)
          · have e4 : ((c.toNat : Int) == 46) = false := by simpa using h4
            have g4 := Lib.hid (show decide (c.toNat = 46) = false from decide_eq_false (by omega)); clear h4
            by_cases h5 : (c.toNat : Int) = 47
            · have e5 : ((c.toNat : Int) == 47) = true := by simpa using h5
              have g5 := Lib.hid (show decide (c.toNat = 47) = true from decide_eq_true (by omega)); clear h5
              go_enter Try.func51, Try.ntmps51
              go_wp2_with (first | (go_at_call 66; refine (H0.out _).mono ?_; rintro e w9 ⟨rfl, rfl⟩) | (go_at_call 36; refine (H1.out _).mono ?_; rintro e w9 ⟨rfl, rfl⟩))
              all_goals first | (exfalso; omega) | (go_ret; exact ⟨retB (by rw [HP.out, g0.out, g1.out, g2.out, g3.out, g4.out, g5.out]; simp), rfl⟩)
            · have e5 : ((c.toNat : Int) == 47) = false := by simpa using h5
              have g5 := Lib.hid (show decide (c.toNat = 47) = false from decide_eq_false (by omega)); clear h5
              by_cases h6 : (c.toNat : Int) = 58
              · have e6 : ((c.toNat : Int) == 58) = true := by simpa using h6
                have g6 := Lib.hid (show decide (c.toNat = 58) = true from decide_eq_true (by omega)); clear h6
                go_enter Try.func51, Try.ntmps51
                go_wp2_with (first | (go_at_call 66; refine (H0.out _).mono ?_; rintro e w9 ⟨rfl, rfl⟩) | (go_at_call 36; refine (H1.out _).mono ?_; rintro e w9 ⟨rfl, rfl⟩))
                all_goals first | (exfalso; omega) | (go_ret; exact ⟨retB (by rw [HP.out, g0.out, g1.out, g2.out, g3.out, g4.out, g5.out, g6.out]; simp), rfl⟩)
              · have e6 : ((c.toNat : Int) == 58) = false := by simpa using h6
                have g6 := Lib.hid (show decide (c.toNat = 58) = false from decide_eq_false (by omega)); clear h6
                go_enter Try.func51, Try.ntmps51
                go_wp2_with (first | (go_at_call 66; refine (H0.out _).mono ?_; rintro e w9 ⟨rfl, rfl⟩) | (go_at_call 36; refine (H1.out _).mono ?_; rintro e w9 ⟨rfl, rfl⟩))
                all_goals first | (exfalso; omega) | (go_ret; exact ⟨retB (by rw [HP.out, g0.out, g1.out, g2.out, g3.out, g4.out, g5.out, g6.out]; rfl), rfl⟩)
    · rw [h1] at H1
      have g1 := Lib.hid h1; clear h1
      go_enter Try.func51, Try.ntmps51
      go_wp2_with (first | (go_at_call 66; refine (H0.out _).mono ?_; rintro e w9 ⟨rfl, rfl⟩) | (go_at_call 36; refine (H1.out _).mono ?_; rintro e w9 ⟨rfl, rfl⟩))
      all_goals first | (exfalso; omega) | (go_ret; exact ⟨retB (by rw [HP.out, g0.out, g1.out]; simp), rfl⟩)
  · rw [h0] at H0
    have g0 := Lib.hid h0; clear h0
    go_enter Try.func51, Try.ntmps51
    go_wp2_with (first | (go_at_call 66; refine (H0.out _).mono ?_; rintro e w9 ⟨rfl, rfl⟩) | (go_at_call 36; refine (H1.out _).mono ?_; rintro e w9 ⟨rfl, rfl⟩))
    all_goals first | (exfalso; omega) | (go_ret; exact ⟨retB (by rw [HP.out, g0.out]; simp), rfl⟩)
def plS : ByteArray := ⟨#[45, 95, 46, 47, 58]⟩
theorem ix_plain (c : UInt8) : decide (0 ≤ Lib.indexByte plS.data.toList c) = (decide (c.toNat = 45) || decide (c.toNat = 95) || decide (c.toNat = 46) || decide (c.toNat = 47) || decide (c.toNat = 58)) := by
  have h : ∀ c : UInt8, decide (0 ≤ Lib.indexByte plS.data.toList c) = (decide (c.toNat = 45) || decide (c.toNat = 95) || decide (c.toNat = 46) || decide (c.toNat = 47) || decide (c.toNat = 58)) := by
    intro c
    obtain ⟨⟨⟨n, hn⟩⟩⟩ := c
    have : ∀ n : Fin 256, decide (0 ≤ Lib.indexByte plS.data.toList ⟨⟨n⟩⟩) = (decide (n.val = 45) || decide (n.val = 95) || decide (n.val = 46) || decide (n.val = 47) || decide (n.val = 58)) := by decide +kernel
    exact this ⟨n, hn⟩
  exact h c
theorem plain_any (c : UInt8) (w : World) :
    Calls Try.prog 65 #[.int .u8 c.toNat] w fun e w' => e = .returned (.bool (plC c)) ∧ w = w' := by
  have HP := Lib.hid (show plC c = (smC c || bgC c || dgC c || (decide (c.toNat = 45) || decide (c.toNat = 95) || decide (c.toNat = 46) || decide (c.toNat = 47) || decide (c.toNat = 58))) from rfl)
  have H0 := Lib.hid (fun wx => small_any c wx)
  have H1 := Lib.hid (fun wx => digit_any c wx)
  have hix := ix_plain c
  have h2 := fun wx => Try.strings_IndexByte plS (c.toNat : Int) wx
  simp only [Lib.byte_back'] at h2
  generalize Lib.indexByte plS.data.toList c = q at hix h2
  have H2 := Lib.hid (fun wx => (h2 wx).mono (fun e w' h => (⟨h.1, h.2.symm⟩ : _ ∧ wx = w')))
  clear h2
  have HIX := Lib.hid hix; clear hix
  unfold plS at H2
  cases h0 : smC c
  · rw [h0] at H0
    have g0 := Lib.hid h0; clear h0
    by_cases hb : (65 : Int) ≤ (c.toNat : Int) ∧ (c.toNat : Int) ≤ 90
    · obtain ⟨ha, hb⟩ := hb
      have gb := Lib.hid (show bgC c = true by unfold bgC; simp; omega)
      go_enter Try.func65, Try.ntmps65
      go_wp2_with (first | (go_at_call 45; refine (H0.out _).mono ?_; rintro e w9 ⟨rfl, rfl⟩) | (go_at_call 46; refine (H1.out _).mono ?_; rintro e w9 ⟨rfl, rfl⟩) | (go_at_call 19; refine (H2.out _).mono ?_; rintro e w9 ⟨rfl, rfl⟩))
      all_goals first | (exfalso; omega) | (go_ret; exact ⟨retB (by rw [HP.out, gb.out]; simp), rfl⟩)
    · have gb := Lib.hid (show bgC c = false by unfold bgC; simp; omega)
      have hc : ¬ (65 : Int) ≤ (c.toNat : Int) ∨ ¬ (c.toNat : Int) ≤ 90 := by omega
      clear hb
      rcases hc with hc | hc
      · skip
        cases h1 : dgC c
        · rw [h1] at H1
          have g1 := Lib.hid h1; clear h1
          by_cases hq : (0 : Int) ≤ q
          · go_enter Try.func65, Try.ntmps65
            go_wp2_with (first | (go_at_call 45; refine (H0.out _).mono ?_; rintro e w9 ⟨rfl, rfl⟩) | (go_at_call 46; refine (H1.out _).mono ?_; rintro e w9 ⟨rfl, rfl⟩) | (go_at_call 19; refine (H2.out _).mono ?_; rintro e w9 ⟨rfl, rfl⟩))
            all_goals first | (exfalso; omega) | (go_ret; exact ⟨retB (by rw [HP.out, ← HIX.out, decide_eq_true hq]; simp), rfl⟩)
          · go_enter Try.func65, Try.ntmps65
            go_wp2_with (first | (go_at_call 45; refine (H0.out _).mono ?_; rintro e w9 ⟨rfl, rfl⟩) | (go_at_call 46; refine (H1.out _).mono ?_; rintro e w9 ⟨rfl, rfl⟩) | (go_at_call 19; refine (H2.out _).mono ?_; rintro e w9 ⟨rfl, rfl⟩))
            all_goals first | (exfalso; omega) | (go_ret; exact ⟨retB (by rw [HP.out, g0.out, gb.out, g1.out, ← HIX.out]; simp), rfl⟩)
        · rw [h1] at H1
          have g1 := Lib.hid h1; clear h1
          go_enter Try.func65, Try.ntmps65
          go_wp2_with (first | (go_at_call 45; refine (H0.out _).mono ?_; rintro e w9 ⟨rfl, rfl⟩) | (go_at_call 46; refine (H1.out _).mono ?_; rintro e w9 ⟨rfl, rfl⟩) | (go_at_call 19; refine (H2.out _).mono ?_; rintro e w9 ⟨rfl, rfl⟩))
          all_goals first | (exfalso; omega) | (go_ret; exact ⟨retB (by rw [HP.out, g1.out]; simp), rfl⟩)
      · have hd : (65 : Int) ≤ (c.toNat : Int) := by omega
        cases h1 : dgC c
        · rw [h1] at H1
          have g1 := Lib.hid h1; clear h1
          by_cases hq : (0 : Int) ≤ q
          · go_enter Try.func65, Try.ntmps65
            go_wp2_with (first | (go_at_call 45; refine (H0.out _).mono ?_; rintro e w9 ⟨rfl, rfl⟩) | (go_at_call 46; refine (H1.out _).mono ?_; rintro e w9 ⟨rfl, rfl⟩) | (go_at_call 19; refine (H2.out _).mono ?_; rintro e w9 ⟨rfl, rfl⟩))
            all_goals first | (exfalso; omega) | (go_ret; exact ⟨retB (by rw [HP.out, ← HIX.out, decide_eq_true hq]; simp), rfl⟩)
          · go_enter Try.func65, Try.ntmps65
            go_wp2_with (first | (go_at_call 45; refine (H0.out _).mono ?_; rintro e w9 ⟨rfl, rfl⟩) | (go_at_call 46; refine (H1.out _).mono ?_; rintro e w9 ⟨rfl, rfl⟩) | (go_at_call 19; refine (H2.out _).mono ?_; rintro e w9 ⟨rfl, rfl⟩))
            all_goals first | (exfalso; omega) | (go_ret; exact ⟨retB (by rw [HP.out, g0.out, gb.out, g1.out, ← HIX.out]; simp), rfl⟩)
        · rw [h1] at H1
          have g1 := Lib.hid h1; clear h1
          go_enter Try.func65, Try.ntmps65
          go_wp2_with (first | (go_at_call 45; refine (H0.out _).mono ?_; rintro e w9 ⟨rfl, rfl⟩) | (go_at_call 46; refine (H1.out _).mono ?_; rintro e w9 ⟨rfl, rfl⟩) | (go_at_call 19; refine (H2.out _).mono ?_; rintro e w9 ⟨rfl, rfl⟩))
          all_goals first | (exfalso; omega) | (go_ret; exact ⟨retB (by rw [HP.out, g1.out]; simp), rfl⟩)
  · rw [h0] at H0
    have g0 := Lib.hid h0; clear h0
    go_enter Try.func65, Try.ntmps65
    go_wp2_with (first | (go_at_call 45; refine (H0.out _).mono ?_; rintro e w9 ⟨rfl, rfl⟩) | (go_at_call 46; refine (H1.out _).mono ?_; rintro e w9 ⟨rfl, rfl⟩) | (go_at_call 19; refine (H2.out _).mono ?_; rintro e w9 ⟨rfl, rfl⟩))
    all_goals first | (exfalso; omega) | (go_ret; exact ⟨retB (by rw [HP.out, g0.out]; simp), rfl⟩)
end Go.Proofs.Ytfmmpfoecjehiaa
