/- DERIVED. What can be wanted: asset.checkWant. No condition. -/
import Derived.Test.YtkobenohijipeaaPlanF
namespace Go.Proofs.Ytkobenohijipeaa
open Go.RowKit
set_option linter.unusedVariables false
/-- The error of a want, of which it is known whether its sides are sides. -/
def wantE (y ww wh : Int) (a b : Bool) : Int :=
  if y < 1 ∨ 4 < y then 1 else if (y ≠ 4 ∧ a = false) ∨ (y ≠ 3 ∧ b = false) then 2 else if (y = 4 ∧ ww ≠ 0) ∨ (y = 3 ∧ wh ≠ 0) then 1 else 0
set_option maxRecDepth 100000 in
set_option maxHeartbeats 400000 in
theorem want0 (ww wh : Int) (w : World) (ha : sideB ww = false) :
    Calls Try.prog 23 #[.agg #[.int .i64 1, .int .i64 ww, .int .i64 wh]] w fun e w' => e = .returned (.int .i64 2) ∧ Below w.heap.size w w' := by
  have H1 := Lib.hid (fun wX => pSide_any ww wX)
  rw [ha] at H1
  go_enter Try.func23, Try.ntmps23
  go_wp2_with fail
  go_quiet (fail)
  go_wp2_with fail
  refine (H1.out _).mono ?_
  rintro e w' ⟨rfl, rfl⟩
  go_wp2_with fail
  go_ret
  exact ⟨rfl, below_drewN ((Below.refl _ _).alloc (Nat.le_refl _) _) _⟩
set_option maxRecDepth 100000 in
set_option maxHeartbeats 400000 in
theorem want1 (ww wh : Int) (w : World) (ha : sideB ww = true) (hb : sideB wh = false) :
    Calls Try.prog 23 #[.agg #[.int .i64 1, .int .i64 ww, .int .i64 wh]] w fun e w' => e = .returned (.int .i64 2) ∧ Below w.heap.size w w' := by
  have H1 := Lib.hid (fun wX => pSide_any ww wX)
  rw [ha] at H1
  have H2 := Lib.hid (fun wX => pSide_any wh wX)
  rw [hb] at H2
  go_enter Try.func23, Try.ntmps23
  go_wp2_with fail
  go_quiet (fail)
  go_wp2_with fail
  refine (H1.out _).mono ?_
  rintro e w' ⟨rfl, rfl⟩
  go_wp2_with fail
  refine (H2.out _).mono ?_
  rintro e w' ⟨rfl, rfl⟩
  go_wp2_with fail
  go_ret
  exact ⟨rfl, below_drewN ((Below.refl _ _).alloc (Nat.le_refl _) _) _⟩
set_option maxRecDepth 100000 in
set_option maxHeartbeats 400000 in
theorem want2 (ww wh : Int) (w : World) (ha : sideB ww = true) (hb : sideB wh = true) :
    Calls Try.prog 23 #[.agg #[.int .i64 1, .int .i64 ww, .int .i64 wh]] w fun e w' => e = .returned (.int .i64 0) ∧ Below w.heap.size w w' := by
  have H1 := Lib.hid (fun wX => pSide_any ww wX)
  rw [ha] at H1
  have H2 := Lib.hid (fun wX => pSide_any wh wX)
  rw [hb] at H2
  go_enter Try.func23, Try.ntmps23
  go_wp2_with fail
  go_quiet (fail)
  go_wp2_with fail
  refine (H1.out _).mono ?_
  rintro e w' ⟨rfl, rfl⟩
  go_wp2_with fail
  refine (H2.out _).mono ?_
  rintro e w' ⟨rfl, rfl⟩
  go_wp2_with fail
  go_ret
  exact ⟨rfl, below_drewN ((Below.refl _ _).alloc (Nat.le_refl _) _) _⟩
set_option maxRecDepth 100000 in
set_option maxHeartbeats 400000 in
theorem want3 (ww wh : Int) (w : World) (ha : sideB ww = false) :
    Calls Try.prog 23 #[.agg #[.int .i64 2, .int .i64 ww, .int .i64 wh]] w fun e w' => e = .returned (.int .i64 2) ∧ Below w.heap.size w w' := by
  have H1 := Lib.hid (fun wX => pSide_any ww wX)
  rw [ha] at H1
  go_enter Try.func23, Try.ntmps23
  go_wp2_with fail
  go_quiet (fail)
  go_wp2_with fail
  refine (H1.out _).mono ?_
  rintro e w' ⟨rfl, rfl⟩
  go_wp2_with fail
  go_ret
  exact ⟨rfl, below_drewN ((Below.refl _ _).alloc (Nat.le_refl _) _) _⟩
set_option maxRecDepth 100000 in
set_option maxHeartbeats 400000 in
theorem want4 (ww wh : Int) (w : World) (ha : sideB ww = true) (hb : sideB wh = false) :
    Calls Try.prog 23 #[.agg #[.int .i64 2, .int .i64 ww, .int .i64 wh]] w fun e w' => e = .returned (.int .i64 2) ∧ Below w.heap.size w w' := by
  have H1 := Lib.hid (fun wX => pSide_any ww wX)
  rw [ha] at H1
  have H2 := Lib.hid (fun wX => pSide_any wh wX)
  rw [hb] at H2
  go_enter Try.func23, Try.ntmps23
  go_wp2_with fail
  go_quiet (fail)
  go_wp2_with fail
  refine (H1.out _).mono ?_
  rintro e w' ⟨rfl, rfl⟩
  go_wp2_with fail
  refine (H2.out _).mono ?_
  rintro e w' ⟨rfl, rfl⟩
  go_wp2_with fail
  go_ret
  exact ⟨rfl, below_drewN ((Below.refl _ _).alloc (Nat.le_refl _) _) _⟩
set_option maxRecDepth 100000 in
set_option maxHeartbeats 400000 in
theorem want5 (ww wh : Int) (w : World) (ha : sideB ww = true) (hb : sideB wh = true) :
    Calls Try.prog 23 #[.agg #[.int .i64 2, .int .i64 ww, .int .i64 wh]] w fun e w' => e = .returned (.int .i64 0) ∧ Below w.heap.size w w' := by
  have H1 := Lib.hid (fun wX => pSide_any ww wX)
  rw [ha] at H1
  have H2 := Lib.hid (fun wX => pSide_any wh wX)
  rw [hb] at H2
  go_enter Try.func23, Try.ntmps23
  go_wp2_with fail
  go_quiet (fail)
  go_wp2_with fail
  refine (H1.out _).mono ?_
  rintro e w' ⟨rfl, rfl⟩
  go_wp2_with fail
  refine (H2.out _).mono ?_
  rintro e w' ⟨rfl, rfl⟩
  go_wp2_with fail
  go_ret
  exact ⟨rfl, below_drewN ((Below.refl _ _).alloc (Nat.le_refl _) _) _⟩
set_option maxRecDepth 100000 in
set_option maxHeartbeats 400000 in
theorem want6 (ww wh : Int) (w : World) (ha : sideB ww = false) :
    Calls Try.prog 23 #[.agg #[.int .i64 3, .int .i64 ww, .int .i64 wh]] w fun e w' => e = .returned (.int .i64 2) ∧ Below w.heap.size w w' := by
  have H1 := Lib.hid (fun wX => pSide_any ww wX)
  rw [ha] at H1
  go_enter Try.func23, Try.ntmps23
  go_wp2_with fail
  go_quiet (fail)
  go_wp2_with fail
  refine (H1.out _).mono ?_
  rintro e w' ⟨rfl, rfl⟩
  go_wp2_with fail
  go_ret
  exact ⟨rfl, below_drewN ((Below.refl _ _).alloc (Nat.le_refl _) _) _⟩
set_option maxRecDepth 100000 in
set_option maxHeartbeats 400000 in
theorem want7 (ww wh : Int) (w : World) (ha : sideB ww = true) (hz : wh = 0) :
    Calls Try.prog 23 #[.agg #[.int .i64 3, .int .i64 ww, .int .i64 wh]] w fun e w' => e = .returned (.int .i64 0) ∧ Below w.heap.size w w' := by
  have H1 := Lib.hid (fun wX => pSide_any ww wX)
  rw [ha] at H1
  subst hz
  go_enter Try.func23, Try.ntmps23
  go_wp2_with fail
  go_quiet (fail)
  go_wp2_with fail
  refine (H1.out _).mono ?_
  rintro e w' ⟨rfl, rfl⟩
  go_wp2_with fail
  go_ret
  exact ⟨rfl, below_drewN ((Below.refl _ _).alloc (Nat.le_refl _) _) _⟩
set_option maxRecDepth 100000 in
set_option maxHeartbeats 400000 in
theorem want8 (ww wh : Int) (w : World) (ha : sideB ww = true) (hz : ¬ wh = 0) :
    Calls Try.prog 23 #[.agg #[.int .i64 3, .int .i64 ww, .int .i64 wh]] w fun e w' => e = .returned (.int .i64 1) ∧ Below w.heap.size w w' := by
  have H1 := Lib.hid (fun wX => pSide_any ww wX)
  rw [ha] at H1
  go_enter Try.func23, Try.ntmps23
  go_wp2_with fail
  go_quiet (fail)
  go_wp2_with fail
  refine (H1.out _).mono ?_
  rintro e w' ⟨rfl, rfl⟩
  go_wp2_with fail
  go_ret
  exact ⟨rfl, below_drewN ((Below.refl _ _).alloc (Nat.le_refl _) _) _⟩
set_option maxRecDepth 100000 in
set_option maxHeartbeats 400000 in
theorem want9 (ww wh : Int) (w : World) (hb : sideB wh = false) :
    Calls Try.prog 23 #[.agg #[.int .i64 4, .int .i64 ww, .int .i64 wh]] w fun e w' => e = .returned (.int .i64 2) ∧ Below w.heap.size w w' := by
  have H2 := Lib.hid (fun wX => pSide_any wh wX)
  rw [hb] at H2
  go_enter Try.func23, Try.ntmps23
  go_wp2_with fail
  go_quiet (fail)
  go_wp2_with fail
  refine (H2.out _).mono ?_
  rintro e w' ⟨rfl, rfl⟩
  go_wp2_with fail
  go_ret
  exact ⟨rfl, below_drewN ((Below.refl _ _).alloc (Nat.le_refl _) _) _⟩
set_option maxRecDepth 100000 in
set_option maxHeartbeats 400000 in
theorem want10 (ww wh : Int) (w : World) (hb : sideB wh = true) (hz : ww = 0) :
    Calls Try.prog 23 #[.agg #[.int .i64 4, .int .i64 ww, .int .i64 wh]] w fun e w' => e = .returned (.int .i64 0) ∧ Below w.heap.size w w' := by
  have H2 := Lib.hid (fun wX => pSide_any wh wX)
  rw [hb] at H2
  subst hz
  go_enter Try.func23, Try.ntmps23
  go_wp2_with fail
  go_quiet (fail)
  go_wp2_with fail
  refine (H2.out _).mono ?_
  rintro e w' ⟨rfl, rfl⟩
  go_wp2_with fail
  go_ret
  exact ⟨rfl, below_drewN ((Below.refl _ _).alloc (Nat.le_refl _) _) _⟩
set_option maxRecDepth 100000 in
set_option maxHeartbeats 400000 in
theorem want11 (ww wh : Int) (w : World) (hb : sideB wh = true) (hz : ¬ ww = 0) :
    Calls Try.prog 23 #[.agg #[.int .i64 4, .int .i64 ww, .int .i64 wh]] w fun e w' => e = .returned (.int .i64 1) ∧ Below w.heap.size w w' := by
  have H2 := Lib.hid (fun wX => pSide_any wh wX)
  rw [hb] at H2
  go_enter Try.func23, Try.ntmps23
  go_wp2_with fail
  go_quiet (fail)
  go_wp2_with fail
  refine (H2.out _).mono ?_
  rintro e w' ⟨rfl, rfl⟩
  go_wp2_with fail
  go_ret
  exact ⟨rfl, below_drewN ((Below.refl _ _).alloc (Nat.le_refl _) _) _⟩
set_option maxRecDepth 100000 in
theorem checkWant_any (y ww wh : Int) (w : World) :
    Calls Try.prog 23 #[.agg #[.int .i64 y, .int .i64 ww, .int .i64 wh]] w fun e w' => e = .returned (.int .i64 (wantE y ww wh (sideB ww) (sideB wh))) ∧ Below w.heap.size w w' := by
  by_cases h1 : y < 1
  · rw [show wantE y ww wh (sideB ww) (sideB wh) = 1 by simp [wantE, h1]]
    go_enter Try.func23, Try.ntmps23
    go_wp2_with fail
    go_ret
    exact ⟨rfl, (Below.refl _ _).alloc (Nat.le_refl _) _⟩
  by_cases h4 : 4 < y
  · rw [show wantE y ww wh (sideB ww) (sideB wh) = 1 by simp [wantE, h4]]
    go_enter Try.func23, Try.ntmps23
    go_wp2_with fail
    go_ret
    exact ⟨rfl, (Below.refl _ _).alloc (Nat.le_refl _) _⟩
  have hy : y = 1 ∨ y = 2 ∨ y = 3 ∨ y = 4 := by omega
  clear h1 h4
  rcases hy with rfl | rfl | rfl | rfl
  · cases ha : sideB ww
    · refine (want0 ww wh w ha).mono fun e w' h => ⟨h.1.trans (by simp [wantE]), h.2⟩
    · cases hb : sideB wh
      · refine (want1 ww wh w ha hb).mono fun e w' h => ⟨h.1.trans (by simp [wantE]), h.2⟩
      · refine (want2 ww wh w ha hb).mono fun e w' h => ⟨h.1.trans (by simp [wantE]), h.2⟩
  · cases ha : sideB ww
    · refine (want3 ww wh w ha).mono fun e w' h => ⟨h.1.trans (by simp [wantE]), h.2⟩
    · cases hb : sideB wh
      · refine (want4 ww wh w ha hb).mono fun e w' h => ⟨h.1.trans (by simp [wantE]), h.2⟩
      · refine (want5 ww wh w ha hb).mono fun e w' h => ⟨h.1.trans (by simp [wantE]), h.2⟩
  · cases ha : sideB ww
    · refine (want6 ww wh w ha).mono fun e w' h => ⟨h.1.trans (by simp [wantE]), h.2⟩
    · by_cases hz : wh = 0
      · refine (want7 ww wh w ha hz).mono fun e w' h => ⟨h.1.trans (by simp [wantE, hz]), h.2⟩
      · refine (want8 ww wh w ha hz).mono fun e w' h => ⟨h.1.trans (by simp [wantE, hz]), h.2⟩
  · cases hb : sideB wh
    · refine (want9 ww wh w hb).mono fun e w' h => ⟨h.1.trans (by simp [wantE]), h.2⟩
    · by_cases hz : ww = 0
      · refine (want10 ww wh w hb hz).mono fun e w' h => ⟨h.1.trans (by simp [wantE, hz]), h.2⟩
      · refine (want11 ww wh w hb hz).mono fun e w' h => ⟨h.1.trans (by simp [wantE, hz]), h.2⟩
end Go.Proofs.Ytkobenohijipeaa
