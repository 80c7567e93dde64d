/- DERIVED. The error of a node: what hasUnused, hasWrongByte and checkNode return. Condition: strings shorter than 2^63 bytes. -/
import Derived.Test.YtmaahkonjpcgiabChkC
import Derived.Test.YtmaahkonjpcgiabFields
set_option linter.unusedSimpArgs false
set_option linter.unusedVariables false
namespace Go.Proofs.Ytmaahkonjpcgiab
open Go.RowKit
theorem beqE (l : List UInt8) : (l == (⟨#[]⟩ : ByteArray).toList) = l.isEmpty := by
  rw [show (⟨#[]⟩ : ByteArray).toList = [] from (Lib.toList_data _).trans rfl]
  cases l <;> rfl
theorem beqE2 : ((⟨#[]⟩ : ByteArray).toList == (⟨#[]⟩ : ByteArray).toList) = true := by simp

set_option maxRecDepth 100000 in
set_option maxHeartbeats 1600000 in
theorem hasUnused_1 (lv : Int) (t d ti : ByteArray) (A : Option Addr) (n c : Nat) (w : World) (hn : n ≤ 9223372036854775807) :
    Calls Try.prog 47 #[.agg #[.int .i64 1, .int .i64 lv, .string t, .string d, .string ti, .slice A n c]] w
      fun e w' => e = .returned (.bool (unB 1 lv t.toList.isEmpty d.toList.isEmpty ti.toList.isEmpty n)) ∧ Below w.heap.size w w' := by
  go_enter Try.func47, Try.ntmps47
  go_wp2_with (go_at_call 29; refine (Fld.sameFields_any _ _ _ _ _ _ _ _ _ _ _ _ _ _ _ _ _).mono ?_; rintro e w1 ⟨rfl, hb1⟩; have hk5 := hb1.cell (p := ⟨w.heap.size, 5, none⟩) (by simp); simp at hk5)
  all_goals go_ret
  all_goals refine ⟨retB ?_, ((Below.refl _ _).alloc (Nat.le_refl _) _).trans (hb1.mono (by simp))⟩
  all_goals simp_all [Fld.fieldsB, beqE, beqE2, unB, hasText, hasDest, hasTitle, hasKids]
  all_goals (by_cases z0 : lv = 0 <;> by_cases z1 : t.toList = [] <;> by_cases z2 : d.toList = [] <;> by_cases z3 : ti.toList = [] <;> simp_all)

set_option maxRecDepth 100000 in
set_option maxHeartbeats 1600000 in
theorem hasUnused_2 (lv : Int) (t d ti : ByteArray) (A : Option Addr) (n c : Nat) (w : World) (hn : n ≤ 9223372036854775807) :
    Calls Try.prog 47 #[.agg #[.int .i64 2, .int .i64 lv, .string t, .string d, .string ti, .slice A n c]] w
      fun e w' => e = .returned (.bool (unB 2 lv t.toList.isEmpty d.toList.isEmpty ti.toList.isEmpty n)) ∧ Below w.heap.size w w' := by
  go_enter Try.func47, Try.ntmps47
  go_wp2_with (go_at_call 29; refine (Fld.sameFields_any _ _ _ _ _ _ _ _ _ _ _ _ _ _ _ _ _).mono ?_; rintro e w1 ⟨rfl, hb1⟩; have hk5 := hb1.cell (p := ⟨w.heap.size, 5, none⟩) (by simp); simp at hk5)
  all_goals go_ret
  all_goals refine ⟨retB ?_, ((Below.refl _ _).alloc (Nat.le_refl _) _).trans (hb1.mono (by simp))⟩
  all_goals simp_all [Fld.fieldsB, beqE, beqE2, unB, hasText, hasDest, hasTitle, hasKids]
  all_goals (by_cases z0 : lv = 0 <;> by_cases z1 : t.toList = [] <;> by_cases z2 : d.toList = [] <;> by_cases z3 : ti.toList = [] <;> simp_all)

set_option maxRecDepth 100000 in
set_option maxHeartbeats 1600000 in
theorem hasUnused_3 (lv : Int) (t d ti : ByteArray) (A : Option Addr) (n c : Nat) (w : World) (hn : n ≤ 9223372036854775807) :
    Calls Try.prog 47 #[.agg #[.int .i64 3, .int .i64 lv, .string t, .string d, .string ti, .slice A n c]] w
      fun e w' => e = .returned (.bool (unB 3 lv t.toList.isEmpty d.toList.isEmpty ti.toList.isEmpty n)) ∧ Below w.heap.size w w' := by
  go_enter Try.func47, Try.ntmps47
  go_wp2_with (go_at_call 29; refine (Fld.sameFields_any _ _ _ _ _ _ _ _ _ _ _ _ _ _ _ _ _).mono ?_; rintro e w1 ⟨rfl, hb1⟩; have hk5 := hb1.cell (p := ⟨w.heap.size, 5, none⟩) (by simp); simp at hk5)
  all_goals go_ret
  all_goals refine ⟨retB ?_, ((Below.refl _ _).alloc (Nat.le_refl _) _).trans (hb1.mono (by simp))⟩
  all_goals simp_all [Fld.fieldsB, beqE, beqE2, unB, hasText, hasDest, hasTitle, hasKids]
  all_goals (by_cases z0 : lv = 0 <;> by_cases z1 : t.toList = [] <;> by_cases z2 : d.toList = [] <;> by_cases z3 : ti.toList = [] <;> simp_all)

set_option maxRecDepth 100000 in
set_option maxHeartbeats 1600000 in
theorem hasUnused_4 (lv : Int) (t d ti : ByteArray) (A : Option Addr) (n c : Nat) (w : World) (hn : n ≤ 9223372036854775807) :
    Calls Try.prog 47 #[.agg #[.int .i64 4, .int .i64 lv, .string t, .string d, .string ti, .slice A n c]] w
      fun e w' => e = .returned (.bool (unB 4 lv t.toList.isEmpty d.toList.isEmpty ti.toList.isEmpty n)) ∧ Below w.heap.size w w' := by
  go_enter Try.func47, Try.ntmps47
  go_wp2_with (go_at_call 29; refine (Fld.sameFields_any _ _ _ _ _ _ _ _ _ _ _ _ _ _ _ _ _).mono ?_; rintro e w1 ⟨rfl, hb1⟩; have hk5 := hb1.cell (p := ⟨w.heap.size, 5, none⟩) (by simp); simp at hk5)
  all_goals go_ret
  all_goals refine ⟨retB ?_, ((Below.refl _ _).alloc (Nat.le_refl _) _).trans (hb1.mono (by simp))⟩
  all_goals simp_all [Fld.fieldsB, beqE, beqE2, unB, hasText, hasDest, hasTitle, hasKids]
  all_goals (by_cases z0 : lv = 0 <;> by_cases z1 : t.toList = [] <;> by_cases z2 : d.toList = [] <;> by_cases z3 : ti.toList = [] <;> simp_all)

set_option maxRecDepth 100000 in
set_option maxHeartbeats 1600000 in
theorem hasUnused_5 (lv : Int) (t d ti : ByteArray) (A : Option Addr) (n c : Nat) (w : World) (hn : n ≤ 9223372036854775807) :
    Calls Try.prog 47 #[.agg #[.int .i64 5, .int .i64 lv, .string t, .string d, .string ti, .slice A n c]] w
      fun e w' => e = .returned (.bool (unB 5 lv t.toList.isEmpty d.toList.isEmpty ti.toList.isEmpty n)) ∧ Below w.heap.size w w' := by
  go_enter Try.func47, Try.ntmps47
  go_wp2_with (go_at_call 29; refine (Fld.sameFields_any _ _ _ _ _ _ _ _ _ _ _ _ _ _ _ _ _).mono ?_; rintro e w1 ⟨rfl, hb1⟩; have hk5 := hb1.cell (p := ⟨w.heap.size, 5, none⟩) (by simp); simp at hk5)
  all_goals go_ret
  all_goals refine ⟨retB ?_, ((Below.refl _ _).alloc (Nat.le_refl _) _).trans (hb1.mono (by simp))⟩
  all_goals simp_all [Fld.fieldsB, beqE, beqE2, unB, hasText, hasDest, hasTitle, hasKids]
  all_goals (by_cases z0 : lv = 0 <;> by_cases z1 : t.toList = [] <;> by_cases z2 : d.toList = [] <;> by_cases z3 : ti.toList = [] <;> simp_all)

set_option maxRecDepth 100000 in
set_option maxHeartbeats 1600000 in
theorem hasUnused_6 (lv : Int) (t d ti : ByteArray) (A : Option Addr) (n c : Nat) (w : World) (hn : n ≤ 9223372036854775807) :
    Calls Try.prog 47 #[.agg #[.int .i64 6, .int .i64 lv, .string t, .string d, .string ti, .slice A n c]] w
      fun e w' => e = .returned (.bool (unB 6 lv t.toList.isEmpty d.toList.isEmpty ti.toList.isEmpty n)) ∧ Below w.heap.size w w' := by
  go_enter Try.func47, Try.ntmps47
  go_wp2_with (go_at_call 29; refine (Fld.sameFields_any _ _ _ _ _ _ _ _ _ _ _ _ _ _ _ _ _).mono ?_; rintro e w1 ⟨rfl, hb1⟩; have hk5 := hb1.cell (p := ⟨w.heap.size, 5, none⟩) (by simp); simp at hk5)
  all_goals go_ret
  all_goals refine ⟨retB ?_, ((Below.refl _ _).alloc (Nat.le_refl _) _).trans (hb1.mono (by simp))⟩
  all_goals simp_all [Fld.fieldsB, beqE, beqE2, unB, hasText, hasDest, hasTitle, hasKids]
  all_goals (by_cases z0 : lv = 0 <;> by_cases z1 : t.toList = [] <;> by_cases z2 : d.toList = [] <;> by_cases z3 : ti.toList = [] <;> simp_all)

set_option maxRecDepth 100000 in
set_option maxHeartbeats 1600000 in
theorem hasUnused_7 (lv : Int) (t d ti : ByteArray) (A : Option Addr) (n c : Nat) (w : World) (hn : n ≤ 9223372036854775807) :
    Calls Try.prog 47 #[.agg #[.int .i64 7, .int .i64 lv, .string t, .string d, .string ti, .slice A n c]] w
      fun e w' => e = .returned (.bool (unB 7 lv t.toList.isEmpty d.toList.isEmpty ti.toList.isEmpty n)) ∧ Below w.heap.size w w' := by
  go_enter Try.func47, Try.ntmps47
  go_wp2_with (go_at_call 29; refine (Fld.sameFields_any _ _ _ _ _ _ _ _ _ _ _ _ _ _ _ _ _).mono ?_; rintro e w1 ⟨rfl, hb1⟩; have hk5 := hb1.cell (p := ⟨w.heap.size, 5, none⟩) (by simp); simp at hk5)
  all_goals go_ret
  all_goals refine ⟨retB ?_, ((Below.refl _ _).alloc (Nat.le_refl _) _).trans (hb1.mono (by simp))⟩
  all_goals simp_all [Fld.fieldsB, beqE, beqE2, unB, hasText, hasDest, hasTitle, hasKids]
  all_goals (by_cases z0 : lv = 0 <;> by_cases z1 : t.toList = [] <;> by_cases z2 : d.toList = [] <;> by_cases z3 : ti.toList = [] <;> simp_all)

set_option maxRecDepth 100000 in
set_option maxHeartbeats 1600000 in
theorem hasUnused_8 (lv : Int) (t d ti : ByteArray) (A : Option Addr) (n c : Nat) (w : World) (hn : n ≤ 9223372036854775807) :
    Calls Try.prog 47 #[.agg #[.int .i64 8, .int .i64 lv, .string t, .string d, .string ti, .slice A n c]] w
      fun e w' => e = .returned (.bool (unB 8 lv t.toList.isEmpty d.toList.isEmpty ti.toList.isEmpty n)) ∧ Below w.heap.size w w' := by
  go_enter Try.func47, Try.ntmps47
  go_wp2_with (go_at_call 29; refine (Fld.sameFields_any _ _ _ _ _ _ _ _ _ _ _ _ _ _ _ _ _).mono ?_; rintro e w1 ⟨rfl, hb1⟩; have hk5 := hb1.cell (p := ⟨w.heap.size, 5, none⟩) (by simp); simp at hk5)
  all_goals go_ret
  all_goals refine ⟨retB ?_, ((Below.refl _ _).alloc (Nat.le_refl _) _).trans (hb1.mono (by simp))⟩
  all_goals simp_all [Fld.fieldsB, beqE, beqE2, unB, hasText, hasDest, hasTitle, hasKids]
  all_goals (by_cases z0 : lv = 0 <;> by_cases z1 : t.toList = [] <;> by_cases z2 : d.toList = [] <;> by_cases z3 : ti.toList = [] <;> simp_all)

set_option maxRecDepth 100000 in
set_option maxHeartbeats 1600000 in
theorem hasUnused_9 (lv : Int) (t d ti : ByteArray) (A : Option Addr) (n c : Nat) (w : World) (hn : n ≤ 9223372036854775807) :
    Calls Try.prog 47 #[.agg #[.int .i64 9, .int .i64 lv, .string t, .string d, .string ti, .slice A n c]] w
      fun e w' => e = .returned (.bool (unB 9 lv t.toList.isEmpty d.toList.isEmpty ti.toList.isEmpty n)) ∧ Below w.heap.size w w' := by
  go_enter Try.func47, Try.ntmps47
  go_wp2_with (go_at_call 29; refine (Fld.sameFields_any _ _ _ _ _ _ _ _ _ _ _ _ _ _ _ _ _).mono ?_; rintro e w1 ⟨rfl, hb1⟩; have hk5 := hb1.cell (p := ⟨w.heap.size, 5, none⟩) (by simp); simp at hk5)
  all_goals go_ret
  all_goals refine ⟨retB ?_, ((Below.refl _ _).alloc (Nat.le_refl _) _).trans (hb1.mono (by simp))⟩
  all_goals simp_all [Fld.fieldsB, beqE, beqE2, unB, hasText, hasDest, hasTitle, hasKids]
  all_goals (by_cases z0 : lv = 0 <;> by_cases z1 : t.toList = [] <;> by_cases z2 : d.toList = [] <;> by_cases z3 : ti.toList = [] <;> simp_all)

set_option maxRecDepth 100000 in
set_option maxHeartbeats 1600000 in
theorem hasUnused_10 (lv : Int) (t d ti : ByteArray) (A : Option Addr) (n c : Nat) (w : World) (hn : n ≤ 9223372036854775807) :
    Calls Try.prog 47 #[.agg #[.int .i64 10, .int .i64 lv, .string t, .string d, .string ti, .slice A n c]] w
      fun e w' => e = .returned (.bool (unB 10 lv t.toList.isEmpty d.toList.isEmpty ti.toList.isEmpty n)) ∧ Below w.heap.size w w' := by
  go_enter Try.func47, Try.ntmps47
  go_wp2_with (go_at_call 29; refine (Fld.sameFields_any _ _ _ _ _ _ _ _ _ _ _ _ _ _ _ _ _).mono ?_; rintro e w1 ⟨rfl, hb1⟩; have hk5 := hb1.cell (p := ⟨w.heap.size, 5, none⟩) (by simp); simp at hk5)
  all_goals go_ret
  all_goals refine ⟨retB ?_, ((Below.refl _ _).alloc (Nat.le_refl _) _).trans (hb1.mono (by simp))⟩
  all_goals simp_all [Fld.fieldsB, beqE, beqE2, unB, hasText, hasDest, hasTitle, hasKids]
  all_goals (by_cases z0 : lv = 0 <;> by_cases z1 : t.toList = [] <;> by_cases z2 : d.toList = [] <;> by_cases z3 : ti.toList = [] <;> simp_all)

set_option maxRecDepth 100000 in
set_option maxHeartbeats 1600000 in
theorem hasUnused_11 (lv : Int) (t d ti : ByteArray) (A : Option Addr) (n c : Nat) (w : World) (hn : n ≤ 9223372036854775807) :
    Calls Try.prog 47 #[.agg #[.int .i64 11, .int .i64 lv, .string t, .string d, .string ti, .slice A n c]] w
      fun e w' => e = .returned (.bool (unB 11 lv t.toList.isEmpty d.toList.isEmpty ti.toList.isEmpty n)) ∧ Below w.heap.size w w' := by
  go_enter Try.func47, Try.ntmps47
  go_wp2_with (go_at_call 29; refine (Fld.sameFields_any _ _ _ _ _ _ _ _ _ _ _ _ _ _ _ _ _).mono ?_; rintro e w1 ⟨rfl, hb1⟩; have hk5 := hb1.cell (p := ⟨w.heap.size, 5, none⟩) (by simp); simp at hk5)
  all_goals go_ret
  all_goals refine ⟨retB ?_, ((Below.refl _ _).alloc (Nat.le_refl _) _).trans (hb1.mono (by simp))⟩
  all_goals simp_all [Fld.fieldsB, beqE, beqE2, unB, hasText, hasDest, hasTitle, hasKids]
  all_goals (by_cases z0 : lv = 0 <;> by_cases z1 : t.toList = [] <;> by_cases z2 : d.toList = [] <;> by_cases z3 : ti.toList = [] <;> simp_all)

set_option maxRecDepth 100000 in
set_option maxHeartbeats 1600000 in
theorem hasUnused_12 (lv : Int) (t d ti : ByteArray) (A : Option Addr) (n c : Nat) (w : World) (hn : n ≤ 9223372036854775807) :
    Calls Try.prog 47 #[.agg #[.int .i64 12, .int .i64 lv, .string t, .string d, .string ti, .slice A n c]] w
      fun e w' => e = .returned (.bool (unB 12 lv t.toList.isEmpty d.toList.isEmpty ti.toList.isEmpty n)) ∧ Below w.heap.size w w' := by
  go_enter Try.func47, Try.ntmps47
  go_wp2_with (go_at_call 29; refine (Fld.sameFields_any _ _ _ _ _ _ _ _ _ _ _ _ _ _ _ _ _).mono ?_; rintro e w1 ⟨rfl, hb1⟩; have hk5 := hb1.cell (p := ⟨w.heap.size, 5, none⟩) (by simp); simp at hk5)
  all_goals go_ret
  all_goals refine ⟨retB ?_, ((Below.refl _ _).alloc (Nat.le_refl _) _).trans (hb1.mono (by simp))⟩
  all_goals simp_all [Fld.fieldsB, beqE, beqE2, unB, hasText, hasDest, hasTitle, hasKids]
  all_goals (by_cases z0 : lv = 0 <;> by_cases z1 : t.toList = [] <;> by_cases z2 : d.toList = [] <;> by_cases z3 : ti.toList = [] <;> simp_all)

set_option maxRecDepth 100000 in
set_option maxHeartbeats 1600000 in
theorem hasUnused_13 (lv : Int) (t d ti : ByteArray) (A : Option Addr) (n c : Nat) (w : World) (hn : n ≤ 9223372036854775807) :
    Calls Try.prog 47 #[.agg #[.int .i64 13, .int .i64 lv, .string t, .string d, .string ti, .slice A n c]] w
      fun e w' => e = .returned (.bool (unB 13 lv t.toList.isEmpty d.toList.isEmpty ti.toList.isEmpty n)) ∧ Below w.heap.size w w' := by
  go_enter Try.func47, Try.ntmps47
  go_wp2_with (go_at_call 29; refine (Fld.sameFields_any _ _ _ _ _ _ _ _ _ _ _ _ _ _ _ _ _).mono ?_; rintro e w1 ⟨rfl, hb1⟩; have hk5 := hb1.cell (p := ⟨w.heap.size, 5, none⟩) (by simp); simp at hk5)
  all_goals go_ret
  all_goals refine ⟨retB ?_, ((Below.refl _ _).alloc (Nat.le_refl _) _).trans (hb1.mono (by simp))⟩
  all_goals simp_all [Fld.fieldsB, beqE, beqE2, unB, hasText, hasDest, hasTitle, hasKids]
  all_goals (by_cases z0 : lv = 0 <;> by_cases z1 : t.toList = [] <;> by_cases z2 : d.toList = [] <;> by_cases z3 : ti.toList = [] <;> simp_all)

set_option maxRecDepth 100000 in
set_option maxHeartbeats 1600000 in
theorem hasUnused_14 (lv : Int) (t d ti : ByteArray) (A : Option Addr) (n c : Nat) (w : World) (hn : n ≤ 9223372036854775807) :
    Calls Try.prog 47 #[.agg #[.int .i64 14, .int .i64 lv, .string t, .string d, .string ti, .slice A n c]] w
      fun e w' => e = .returned (.bool (unB 14 lv t.toList.isEmpty d.toList.isEmpty ti.toList.isEmpty n)) ∧ Below w.heap.size w w' := by
  go_enter Try.func47, Try.ntmps47
  go_wp2_with (go_at_call 29; refine (Fld.sameFields_any _ _ _ _ _ _ _ _ _ _ _ _ _ _ _ _ _).mono ?_; rintro e w1 ⟨rfl, hb1⟩; have hk5 := hb1.cell (p := ⟨w.heap.size, 5, none⟩) (by simp); simp at hk5)
  all_goals go_ret
  all_goals refine ⟨retB ?_, ((Below.refl _ _).alloc (Nat.le_refl _) _).trans (hb1.mono (by simp))⟩
  all_goals simp_all [Fld.fieldsB, beqE, beqE2, unB, hasText, hasDest, hasTitle, hasKids]
  all_goals (by_cases z0 : lv = 0 <;> by_cases z1 : t.toList = [] <;> by_cases z2 : d.toList = [] <;> by_cases z3 : ti.toList = [] <;> simp_all)

set_option maxRecDepth 100000 in
set_option maxHeartbeats 1600000 in
theorem hasUnused_15 (lv : Int) (t d ti : ByteArray) (A : Option Addr) (n c : Nat) (w : World) (hn : n ≤ 9223372036854775807) :
    Calls Try.prog 47 #[.agg #[.int .i64 15, .int .i64 lv, .string t, .string d, .string ti, .slice A n c]] w
      fun e w' => e = .returned (.bool (unB 15 lv t.toList.isEmpty d.toList.isEmpty ti.toList.isEmpty n)) ∧ Below w.heap.size w w' := by
  go_enter Try.func47, Try.ntmps47
  go_wp2_with (go_at_call 29; refine (Fld.sameFields_any _ _ _ _ _ _ _ _ _ _ _ _ _ _ _ _ _).mono ?_; rintro e w1 ⟨rfl, hb1⟩; have hk5 := hb1.cell (p := ⟨w.heap.size, 5, none⟩) (by simp); simp at hk5)
  all_goals go_ret
  all_goals refine ⟨retB ?_, ((Below.refl _ _).alloc (Nat.le_refl _) _).trans (hb1.mono (by simp))⟩
  all_goals simp_all [Fld.fieldsB, beqE, beqE2, unB, hasText, hasDest, hasTitle, hasKids]
  all_goals (by_cases z0 : lv = 0 <;> by_cases z1 : t.toList = [] <;> by_cases z2 : d.toList = [] <;> by_cases z3 : ti.toList = [] <;> simp_all)

set_option maxRecDepth 100000 in
set_option maxHeartbeats 1600000 in
theorem hasUnused_16 (lv : Int) (t d ti : ByteArray) (A : Option Addr) (n c : Nat) (w : World) (hn : n ≤ 9223372036854775807) :
    Calls Try.prog 47 #[.agg #[.int .i64 16, .int .i64 lv, .string t, .string d, .string ti, .slice A n c]] w
      fun e w' => e = .returned (.bool (unB 16 lv t.toList.isEmpty d.toList.isEmpty ti.toList.isEmpty n)) ∧ Below w.heap.size w w' := by
  go_enter Try.func47, Try.ntmps47
  go_wp2_with (go_at_call 29; refine (Fld.sameFields_any _ _ _ _ _ _ _ _ _ _ _ _ _ _ _ _ _).mono ?_; rintro e w1 ⟨rfl, hb1⟩; have hk5 := hb1.cell (p := ⟨w.heap.size, 5, none⟩) (by simp); simp at hk5)
  all_goals go_ret
  all_goals refine ⟨retB ?_, ((Below.refl _ _).alloc (Nat.le_refl _) _).trans (hb1.mono (by simp))⟩
  all_goals simp_all [Fld.fieldsB, beqE, beqE2, unB, hasText, hasDest, hasTitle, hasKids]
  all_goals (by_cases z0 : lv = 0 <;> by_cases z1 : t.toList = [] <;> by_cases z2 : d.toList = [] <;> by_cases z3 : ti.toList = [] <;> simp_all)

set_option maxRecDepth 100000 in
set_option maxHeartbeats 1600000 in
theorem hasUnused_17 (lv : Int) (t d ti : ByteArray) (A : Option Addr) (n c : Nat) (w : World) (hn : n ≤ 9223372036854775807) :
    Calls Try.prog 47 #[.agg #[.int .i64 17, .int .i64 lv, .string t, .string d, .string ti, .slice A n c]] w
      fun e w' => e = .returned (.bool (unB 17 lv t.toList.isEmpty d.toList.isEmpty ti.toList.isEmpty n)) ∧ Below w.heap.size w w' := by
  go_enter Try.func47, Try.ntmps47
  go_wp2_with (go_at_call 29; refine (Fld.sameFields_any _ _ _ _ _ _ _ _ _ _ _ _ _ _ _ _ _).mono ?_; rintro e w1 ⟨rfl, hb1⟩; have hk5 := hb1.cell (p := ⟨w.heap.size, 5, none⟩) (by simp); simp at hk5)
  all_goals go_ret
  all_goals refine ⟨retB ?_, ((Below.refl _ _).alloc (Nat.le_refl _) _).trans (hb1.mono (by simp))⟩
  all_goals simp_all [Fld.fieldsB, beqE, beqE2, unB, hasText, hasDest, hasTitle, hasKids]
  all_goals (by_cases z0 : lv = 0 <;> by_cases z1 : t.toList = [] <;> by_cases z2 : d.toList = [] <;> by_cases z3 : ti.toList = [] <;> simp_all)

set_option maxRecDepth 100000 in
set_option maxHeartbeats 1600000 in
theorem hasUnused_18 (lv : Int) (t d ti : ByteArray) (A : Option Addr) (n c : Nat) (w : World) (hn : n ≤ 9223372036854775807) :
    Calls Try.prog 47 #[.agg #[.int .i64 18, .int .i64 lv, .string t, .string d, .string ti, .slice A n c]] w
      fun e w' => e = .returned (.bool (unB 18 lv t.toList.isEmpty d.toList.isEmpty ti.toList.isEmpty n)) ∧ Below w.heap.size w w' := by
  go_enter Try.func47, Try.ntmps47
  go_wp2_with (go_at_call 29; refine (Fld.sameFields_any _ _ _ _ _ _ _ _ _ _ _ _ _ _ _ _ _).mono ?_; rintro e w1 ⟨rfl, hb1⟩; have hk5 := hb1.cell (p := ⟨w.heap.size, 5, none⟩) (by simp); simp at hk5)
  all_goals go_ret
  all_goals refine ⟨retB ?_, ((Below.refl _ _).alloc (Nat.le_refl _) _).trans (hb1.mono (by simp))⟩
  all_goals simp_all [Fld.fieldsB, beqE, beqE2, unB, hasText, hasDest, hasTitle, hasKids]
  all_goals (by_cases z0 : lv = 0 <;> by_cases z1 : t.toList = [] <;> by_cases z2 : d.toList = [] <;> by_cases z3 : ti.toList = [] <;> simp_all)
end Go.Proofs.Ytmaahkonjpcgiab
