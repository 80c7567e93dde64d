/- DERIVED. The classes of bytes of an address, what the small functions on bytes return, and a byte as two digits of base 16. No condition. -/
import Derived.Test.YtfgekmfkaepgjaaIndexAny
import Derived.Deep.Cut
import Derived.RegionTactic
import Derived.StillTailTactics
namespace Go.Proofs.Ytfgekmfkaepgjaa
set_option linter.unusedVariables false
open Go.RowKit
def smB (c : UInt8) : Bool := decide (97 ≤ (c.toNat : Int)) && decide ((c.toNat : Int) ≤ 122)
def letB (c : UInt8) : Bool := smB c || (decide (65 ≤ (c.toNat : Int)) && decide ((c.toNat : Int) ≤ 90))
def digB (c : UInt8) : Bool := decide (48 ≤ (c.toNat : Int)) && decide ((c.toNat : Int) ≤ 57)

set_option maxRecDepth 100000 in
theorem isSmall_any (c : UInt8) (w : World) :
    Calls Try.prog 40 #[.int .u8 c.toNat] w fun e w' => e = .returned (.bool (smB c)) ∧ w' = w := by
  obtain ⟨b, hb⟩ : ∃ b, smB c = b := ⟨_, rfl⟩
  rw [hb]
  unfold smB at hb
  by_cases h1 : 97 ≤ (c.toNat : Int)
  · by_cases h2 : (c.toNat : Int) ≤ 122
    · rw [decide_eq_true h1, decide_eq_true h2] at hb
      subst hb
      go_enter Try.func40, Try.ntmps40
      go_wp2_with fail
      go_ret
      exact ⟨rfl, rfl⟩
    · rw [decide_eq_true h1, decide_eq_false h2] at hb
      subst hb
      go_enter Try.func40, Try.ntmps40
      go_wp2_with fail
      go_ret
      exact ⟨rfl, rfl⟩
  · rw [decide_eq_false h1] at hb
    subst hb
    go_enter Try.func40, Try.ntmps40
    go_wp2_with fail
    go_ret
    exact ⟨rfl, rfl⟩

set_option maxRecDepth 100000 in
theorem isDigit_any (c : UInt8) (w : World) :
    Calls Try.prog 16 #[.int .u8 c.toNat] w fun e w' => e = .returned (.bool (digB c)) ∧ w' = w := by
  obtain ⟨b, hb⟩ : ∃ b, digB c = b := ⟨_, rfl⟩
  rw [hb]
  unfold digB at hb
  by_cases h1 : 48 ≤ (c.toNat : Int)
  · by_cases h2 : (c.toNat : Int) ≤ 57
    · rw [decide_eq_true h1, decide_eq_true h2] at hb
      subst hb
      go_enter Try.func16, Try.ntmps16
      go_wp2_with fail
      go_ret
      exact ⟨rfl, rfl⟩
    · rw [decide_eq_true h1, decide_eq_false h2] at hb
      subst hb
      go_enter Try.func16, Try.ntmps16
      go_wp2_with fail
      go_ret
      exact ⟨rfl, rfl⟩
  · rw [decide_eq_false h1] at hb
    subst hb
    go_enter Try.func16, Try.ntmps16
    go_wp2_with fail
    go_ret
    exact ⟨rfl, rfl⟩

set_option maxRecDepth 100000 in
theorem isDigitR_any (c : UInt8) (w : World) :
    Calls Try.prog 25 #[.int .u8 c.toNat] w fun e w' => e = .returned (.bool (digB c)) ∧ w' = w := by
  obtain ⟨b, hb⟩ : ∃ b, digB c = b := ⟨_, rfl⟩
  rw [hb]
  unfold digB at hb
  by_cases h1 : 48 ≤ (c.toNat : Int)
  · by_cases h2 : (c.toNat : Int) ≤ 57
    · rw [decide_eq_true h1, decide_eq_true h2] at hb
      subst hb
      go_enter Try.func25, Try.ntmps25
      go_wp2_with fail
      go_ret
      exact ⟨rfl, rfl⟩
    · rw [decide_eq_true h1, decide_eq_false h2] at hb
      subst hb
      go_enter Try.func25, Try.ntmps25
      go_wp2_with fail
      go_ret
      exact ⟨rfl, rfl⟩
  · rw [decide_eq_false h1] at hb
    subst hb
    go_enter Try.func25, Try.ntmps25
    go_wp2_with fail
    go_ret
    exact ⟨rfl, rfl⟩

set_option maxRecDepth 100000 in
theorem isLetter_any (c : UInt8) (w : World) :
    Calls Try.prog 15 #[.int .u8 c.toNat] w fun e w' => e = .returned (.bool (letB c)) ∧ w' = w := by
  obtain ⟨b, hb⟩ : ∃ b, letB c = b := ⟨_, rfl⟩
  rw [hb]
  unfold letB at hb
  have HS := Lib.hid (fun wX => isSmall_any c wX)
  cases hs : smB c
  · rw [hs] at hb HS
    by_cases h1 : 65 ≤ (c.toNat : Int)
    · by_cases h2 : (c.toNat : Int) ≤ 90
      · rw [decide_eq_true h1, decide_eq_true h2] at hb
        subst hb
        go_enter Try.func15, Try.ntmps15
        go_wp2_with fail
        refine (HS.out _).mono ?_
        rintro e w1 ⟨rfl, hw⟩
        rw [hw]
        clear hw w1
        dsimp only
        go_wp2_with fail
        go_ret
        exact ⟨rfl, rfl⟩
      · rw [decide_eq_true h1, decide_eq_false h2] at hb
        subst hb
        have h2' : decide ((c.toNat : Int) ≤ 90) = false := decide_eq_false h2
        go_enter Try.func15, Try.ntmps15
        go_wp2_with fail
        refine (HS.out _).mono ?_
        rintro e w1 ⟨rfl, hw⟩
        rw [hw]
        clear hw w1
        dsimp only
        go_wp2_with fail
        go_ret
        exact ⟨rfl, rfl⟩
    · rw [decide_eq_false h1] at hb
      subst hb
      go_enter Try.func15, Try.ntmps15
      go_wp2_with fail
      refine (HS.out _).mono ?_
      rintro e w1 ⟨rfl, hw⟩
      rw [hw]
      clear hw w1
      dsimp only
      go_wp2_with fail
      go_ret
      exact ⟨rfl, rfl⟩
  · rw [hs] at hb HS
    subst hb
    go_enter Try.func15, Try.ntmps15
    go_wp2_with fail
    refine (HS.out _).mono ?_
    rintro e w1 ⟨rfl, hw⟩
    rw [hw]
    clear hw w1
    dsimp only
    go_wp2_with fail
    go_ret
    exact ⟨rfl, rfl⟩

set_option maxRecDepth 100000 in
theorem isLetterR_any (c : UInt8) (w : World) :
    Calls Try.prog 24 #[.int .u8 c.toNat] w fun e w' => e = .returned (.bool (letB c)) ∧ w' = w := by
  obtain ⟨b, hb⟩ : ∃ b, letB c = b := ⟨_, rfl⟩
  rw [hb]
  unfold letB smB at hb
  by_cases h1 : 97 ≤ (c.toNat : Int) <;> by_cases h2 : (c.toNat : Int) ≤ 122 <;> by_cases h3 : 65 ≤ (c.toNat : Int) <;> by_cases h4 : (c.toNat : Int) ≤ 90 <;>
  first
  | (exfalso; omega)
  | (simp only [h1, h2, h3, h4, decide_true, decide_false, Bool.and_true, Bool.and_false, Bool.or_true, Bool.or_false, Bool.and_self, Bool.or_self] at hb
     subst hb
     go_enter Try.func24, Try.ntmps24
     go_wp2_with fail
     go_ret
     exact ⟨rfl, rfl⟩)

/-- Digit number d of 16 digits. -/
def dg (ds : ByteArray) (d : Nat) : UInt8 := ds.data.toList.getD d 0
theorem dg_at (ds : ByteArray) (d : Nat) (h : d < ds.size) : ds[d] = dg ds d := by
  unfold dg
  rw [List.getD_eq_getElem?_getD, Lib.data_getElem? ds d h]
  rfl
theorem conv2 (x y : UInt8) (w : World) : (convert 37 9 (.slice (some ⟨w.heap.size, 0, none⟩) 2 2)).run Try.prog (w.alloc (.cells #[.int .u8 x.toNat, .int .u8 y.toNat] 5)).drew = .ok (.string ⟨#[x, y]⟩) (w.alloc (.cells #[.int .u8 x.toNat, .int .u8 y.toNat] 5)).drew :=
  run_convert_bytes_back (P := Try.prog) (w.alloc (.cells #[.int .u8 x.toNat, .int .u8 y.toNat] 5)).drew 37 9 5 ⟨w.heap.size, 0, none⟩ 2 [x, y] Try.underlying37 Try.underlying5 Try.underlying9 (fun j hj => by
    have hj2 : j = 0 ∨ j = 1 := by simp at hj; omega
    rcases hj2 with rfl | rfl <;> simp [Addr.add])
set_option maxRecDepth 100000 in
set_option maxHeartbeats 1000000 in
theorem hex_any (c : UInt8) (ds : ByteArray) (w : World) (hd : ds.size = 16) :
    Calls Try.prog 20 #[.int .u8 c.toNat, .string ds] w fun e w' => e = .returned (.string ⟨#[dg ds (c.toNat / 16), dg ds (c.toNat % 16)]⟩) ∧ Below w.heap.size w w' := by
  have hc := c.toNat_lt
  have h1 : c.toNat / 16 < ds.size := by omega
  have h2 : c.toNat % 16 < ds.size := by omega
  have e1 := dg_at ds _ h1
  have e2 := dg_at ds _ h2
  obtain ⟨a, ha⟩ : ∃ a : Nat, c.toNat / 16 = a := ⟨_, rfl⟩
  obtain ⟨b, hb⟩ : ∃ b : Nat, c.toNat % 16 = b := ⟨_, rfl⟩
  have hai : (c.toNat : Int) / 16 = (a : Int) := by omega
  have hbi : (c.toNat : Int) % 16 = (b : Int) := by omega
  simp only [ha] at h1 e1 ⊢
  simp only [hb] at h2 e2 ⊢
  have hc0 : (0 : Int) ≤ (c.toNat : Int) := by omega
  have hc1 : (c.toNat : Int) ≤ 255 := by omega
  go_enter Try.func20, Try.ntmps20
  go_wp2_with fail
  have hcv := conv2 (dg ds a) (dg ds b) w
  go_region
  all_goals
    go_wp2_with fail
    go_ret
    exact ⟨rfl, ((Below.refl _ _).alloc (Nat.le_refl _) _).drew⟩
end Go.Proofs.Ytfgekmfkaepgjaa
