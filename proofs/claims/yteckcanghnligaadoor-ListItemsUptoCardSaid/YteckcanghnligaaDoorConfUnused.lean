/- DERIVED. What conf's isZero and hasUnused return. No condition but that the kind is one. -/
import Derived.Test.YteckcanghnligaaDoorConfKeys
namespace Go.Proofs.YteckcanghnligaaDoor
set_option linter.unusedVariables false
set_option linter.unusedSimpArgs false
open Go.RowKit
def zeroB (k : Int) (bo : Bool) (i : Int) (te : Bool) (n m : Nat) : Bool := decide (k = 0) && !bo && decide (i = 0) && te && decide (n = 0) && decide (m = 0)
set_option maxRecDepth 100000 in
set_option maxHeartbeats 1000000 in
theorem isZero_any (k : Int) (bo : Bool) (i : Int) (t : ByteArray) (A1 : Option Addr) (n1 c1 : Nat) (A2 : Option Addr) (n2 c2 : Nat) (w : World) :
    Calls Tryd.prog 42 #[.agg #[.int .i64 k, .bool bo, .int .i64 i, .string t, .slice A1 n1 c1, .slice A2 n2 c2]] w
      fun e w' => e = .returned (.bool (zeroB k bo i t.toList.isEmpty n1 n2)) ∧ Below w.heap.size w w' := by
  have HB := Lib.hid (fun o => (Below.refl _ w).alloc (Nat.le_refl _) o)
  by_cases h0 : k = 0
  · subst h0
    cases bo with
    | true =>
      go_enter Tryd.func42, Tryd.ntmps42
      go_wp2_with fail
      go_ret
      exact ⟨retB (by unfold zeroB; simp []), HB.out _⟩
    | false =>
      by_cases h2 : i = 0
      · subst h2
        cases ht : t.toList.isEmpty with
        | false =>
          go_enter Tryd.func42, Tryd.ntmps42
          go_wp2_with fail
          go_ret
          exact ⟨retB (by unfold zeroB; simp []), HB.out _⟩
        | true =>
          by_cases h4 : n1 = 0
          · subst h4
            by_cases h5 : n2 = 0
            · subst h5
              go_enter Tryd.func42, Tryd.ntmps42
              go_wp2_with fail
              go_ret
              exact ⟨retB (by unfold zeroB; simp []), HB.out _⟩
            · have h5' : ¬ (n2 : Int) = 0 := by omega
              go_enter Tryd.func42, Tryd.ntmps42
              go_wp2_with fail
              go_ret
              exact ⟨retB (by unfold zeroB; simp [h5]), HB.out _⟩
          · have h4' : ¬ (n1 : Int) = 0 := by omega
            go_enter Tryd.func42, Tryd.ntmps42
            go_wp2_with fail
            go_ret
            exact ⟨retB (by unfold zeroB; simp [h4]), HB.out _⟩
      · skip
        go_enter Tryd.func42, Tryd.ntmps42
        go_wp2_with fail
        go_ret
        exact ⟨retB (by unfold zeroB; simp [h2]), HB.out _⟩
  · skip
    go_enter Tryd.func42, Tryd.ntmps42
    go_wp2_with fail
    go_ret
    exact ⟨retB (by unfold zeroB; simp [h0]), HB.out _⟩
set_option maxRecDepth 100000 in
set_option maxHeartbeats 1000000 in
theorem hasUnused_0 (bo : Bool) (i : Int) (t : ByteArray) (A1 : Option Addr) (n1 c1 : Nat) (A2 : Option Addr) (n2 c2 : Nat) (w : World) :
    Calls Tryd.prog 34 #[.agg #[.int .i64 0, .bool bo, .int .i64 i, .string t, .slice A1 n1 c1, .slice A2 n2 c2]] w
      fun e w' => e = .returned (.bool (unB 0 bo i t.toList.isEmpty n1 n2)) ∧ Below w.heap.size w w' := by
  go_enter Tryd.func34, Tryd.ntmps34
  go_wp2_with fail
  refine (isZero_any _ _ _ _ _ _ _ _ _ _ _).mono ?_
  rintro e w1 ⟨rfl, hb1⟩
  go_wp2_with fail
  go_ret
  exact ⟨retB (by unfold unB zeroB; by_cases h2 : i = 0 <;> by_cases h4 : n1 = 0 <;> by_cases h5 : n2 = 0 <;> cases bo <;> cases t.toList.isEmpty <;> simp [h2, h4, h5, Nat.pos_iff_ne_zero]), ((Below.refl _ w).alloc (Nat.le_refl _) _).trans (hb1.mono (by simp))⟩
set_option maxRecDepth 100000 in
set_option maxHeartbeats 1000000 in
theorem hasUnused_1 (bo : Bool) (i : Int) (t : ByteArray) (A1 : Option Addr) (n1 c1 : Nat) (A2 : Option Addr) (n2 c2 : Nat) (w : World) :
    Calls Tryd.prog 34 #[.agg #[.int .i64 1, .bool bo, .int .i64 i, .string t, .slice A1 n1 c1, .slice A2 n2 c2]] w
      fun e w' => e = .returned (.bool (unB 1 bo i t.toList.isEmpty n1 n2)) ∧ Below w.heap.size w w' := by
  go_enter Tryd.func34, Tryd.ntmps34
  go_wp2_with fail
  refine (isZero_any _ _ _ _ _ _ _ _ _ _ _).mono ?_
  rintro e w1 ⟨rfl, hb1⟩
  go_wp2_with fail
  go_ret
  exact ⟨retB (by unfold unB zeroB; by_cases h2 : i = 0 <;> by_cases h4 : n1 = 0 <;> by_cases h5 : n2 = 0 <;> cases bo <;> cases t.toList.isEmpty <;> simp [h2, h4, h5, Nat.pos_iff_ne_zero]), ((Below.refl _ w).alloc (Nat.le_refl _) _).trans (hb1.mono (by simp))⟩
set_option maxRecDepth 100000 in
set_option maxHeartbeats 1000000 in
theorem hasUnused_2 (bo : Bool) (i : Int) (t : ByteArray) (A1 : Option Addr) (n1 c1 : Nat) (A2 : Option Addr) (n2 c2 : Nat) (w : World) :
    Calls Tryd.prog 34 #[.agg #[.int .i64 2, .bool bo, .int .i64 i, .string t, .slice A1 n1 c1, .slice A2 n2 c2]] w
      fun e w' => e = .returned (.bool (unB 2 bo i t.toList.isEmpty n1 n2)) ∧ Below w.heap.size w w' := by
  go_enter Tryd.func34, Tryd.ntmps34
  go_wp2_with fail
  refine (isZero_any _ _ _ _ _ _ _ _ _ _ _).mono ?_
  rintro e w1 ⟨rfl, hb1⟩
  go_wp2_with fail
  go_ret
  exact ⟨retB (by unfold unB zeroB; by_cases h2 : i = 0 <;> by_cases h4 : n1 = 0 <;> by_cases h5 : n2 = 0 <;> cases bo <;> cases t.toList.isEmpty <;> simp [h2, h4, h5, Nat.pos_iff_ne_zero]), ((Below.refl _ w).alloc (Nat.le_refl _) _).trans (hb1.mono (by simp))⟩
set_option maxRecDepth 100000 in
set_option maxHeartbeats 1000000 in
theorem hasUnused_3 (bo : Bool) (i : Int) (t : ByteArray) (A1 : Option Addr) (n1 c1 : Nat) (A2 : Option Addr) (n2 c2 : Nat) (w : World) :
    Calls Tryd.prog 34 #[.agg #[.int .i64 3, .bool bo, .int .i64 i, .string t, .slice A1 n1 c1, .slice A2 n2 c2]] w
      fun e w' => e = .returned (.bool (unB 3 bo i t.toList.isEmpty n1 n2)) ∧ Below w.heap.size w w' := by
  go_enter Tryd.func34, Tryd.ntmps34
  go_wp2_with fail
  refine (isZero_any _ _ _ _ _ _ _ _ _ _ _).mono ?_
  rintro e w1 ⟨rfl, hb1⟩
  go_wp2_with fail
  go_ret
  exact ⟨retB (by unfold unB zeroB; by_cases h2 : i = 0 <;> by_cases h4 : n1 = 0 <;> by_cases h5 : n2 = 0 <;> cases bo <;> cases t.toList.isEmpty <;> simp [h2, h4, h5, Nat.pos_iff_ne_zero]), ((Below.refl _ w).alloc (Nat.le_refl _) _).trans (hb1.mono (by simp))⟩
set_option maxRecDepth 100000 in
set_option maxHeartbeats 1000000 in
theorem hasUnused_4 (bo : Bool) (i : Int) (t : ByteArray) (A1 : Option Addr) (n1 c1 : Nat) (A2 : Option Addr) (n2 c2 : Nat) (w : World) :
    Calls Tryd.prog 34 #[.agg #[.int .i64 4, .bool bo, .int .i64 i, .string t, .slice A1 n1 c1, .slice A2 n2 c2]] w
      fun e w' => e = .returned (.bool (unB 4 bo i t.toList.isEmpty n1 n2)) ∧ Below w.heap.size w w' := by
  go_enter Tryd.func34, Tryd.ntmps34
  go_wp2_with fail
  refine (isZero_any _ _ _ _ _ _ _ _ _ _ _).mono ?_
  rintro e w1 ⟨rfl, hb1⟩
  go_wp2_with fail
  go_ret
  exact ⟨retB (by unfold unB zeroB; by_cases h2 : i = 0 <;> by_cases h4 : n1 = 0 <;> by_cases h5 : n2 = 0 <;> cases bo <;> cases t.toList.isEmpty <;> simp [h2, h4, h5, Nat.pos_iff_ne_zero]), ((Below.refl _ w).alloc (Nat.le_refl _) _).trans (hb1.mono (by simp))⟩
set_option maxRecDepth 100000 in
set_option maxHeartbeats 1000000 in
theorem hasUnused_5 (bo : Bool) (i : Int) (t : ByteArray) (A1 : Option Addr) (n1 c1 : Nat) (A2 : Option Addr) (n2 c2 : Nat) (w : World) :
    Calls Tryd.prog 34 #[.agg #[.int .i64 5, .bool bo, .int .i64 i, .string t, .slice A1 n1 c1, .slice A2 n2 c2]] w
      fun e w' => e = .returned (.bool (unB 5 bo i t.toList.isEmpty n1 n2)) ∧ Below w.heap.size w w' := by
  go_enter Tryd.func34, Tryd.ntmps34
  go_wp2_with fail
  refine (isZero_any _ _ _ _ _ _ _ _ _ _ _).mono ?_
  rintro e w1 ⟨rfl, hb1⟩
  go_wp2_with fail
  go_ret
  exact ⟨retB (by unfold unB zeroB; by_cases h2 : i = 0 <;> by_cases h4 : n1 = 0 <;> by_cases h5 : n2 = 0 <;> cases bo <;> cases t.toList.isEmpty <;> simp [h2, h4, h5, Nat.pos_iff_ne_zero]), ((Below.refl _ w).alloc (Nat.le_refl _) _).trans (hb1.mono (by simp))⟩
set_option maxRecDepth 100000 in
set_option maxHeartbeats 1000000 in
theorem hasUnused_6 (bo : Bool) (i : Int) (t : ByteArray) (A1 : Option Addr) (n1 c1 : Nat) (A2 : Option Addr) (n2 c2 : Nat) (w : World) :
    Calls Tryd.prog 34 #[.agg #[.int .i64 6, .bool bo, .int .i64 i, .string t, .slice A1 n1 c1, .slice A2 n2 c2]] w
      fun e w' => e = .returned (.bool (unB 6 bo i t.toList.isEmpty n1 n2)) ∧ Below w.heap.size w w' := by
  by_cases hnm : n2 = n1
  · have hnm' : (n2 : Int) = (n1 : Int) := by omega
    go_enter Tryd.func34, Tryd.ntmps34
    go_wp2_with fail
    refine (isZero_any _ _ _ _ _ _ _ _ _ _ _).mono ?_
    rintro e w1 ⟨rfl, hb1⟩
    go_wp2_with fail
    go_ret
    exact ⟨retB (by unfold unB zeroB; by_cases h2 : i = 0 <;> by_cases h4 : n1 = 0 <;> cases bo <;> cases t.toList.isEmpty <;> simp [h2, h4, hnm, Nat.pos_iff_ne_zero]), ((Below.refl _ w).alloc (Nat.le_refl _) _).trans (hb1.mono (by simp))⟩
  · have hnm' : ((n2 : Int) != (n1 : Int)) = true := by simp; omega
    go_enter Tryd.func34, Tryd.ntmps34
    go_wp2_with fail
    go_ret
    exact ⟨retB (by unfold unB; simp [hnm]), (Below.refl _ w).alloc (Nat.le_refl _) _⟩
end Go.Proofs.YteckcanghnligaaDoor
