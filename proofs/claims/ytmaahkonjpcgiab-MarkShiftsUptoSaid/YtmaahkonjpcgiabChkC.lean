/- DERIVED. The error of a node: what nodeError returns. Condition: strings shorter than 2^63 bytes. -/
import Derived.Test.YtmaahkonjpcgiabChkB
set_option linter.unusedSimpArgs false
set_option linter.unusedVariables false
namespace Go.Proofs.Ytmaahkonjpcgiab
open Go.RowKit
theorem retI {a b : Int} (h : a = b) : Ending.returned (.int .i64 b) = .returned (.int .i64 a) := by rw [h]
/-- A node's strings and its list are not longer than any can be. -/
structure Short (t d ti : ByteArray) (n : Nat) : Prop where
  t : t.size ≤ 9223372036854775807
  d : d.size ≤ 9223372036854775807
  ti : ti.size ≤ 9223372036854775807
  n : n ≤ 9223372036854775807

set_option maxRecDepth 100000 in
set_option maxHeartbeats 400000 in
theorem nodeErrorR_no (k lv p : Int) (t d ti : ByteArray) (A : Option Addr) (n c : Nat) (w : World) (hf : fitB k p = false) :
    Calls Try.prog 37 #[.agg #[.int .i64 k, .int .i64 lv, .string t, .string d, .string ti, .slice A n c], .int .i64 p] w
      fun e w' => e = .returned (.int .i64 (nodeErr k lv t d ti n p)) ∧ Below w.heap.size w w' := by
  have hp := fun wx => permitted_any k p wx
  rw [hf] at hp
  have HP := Lib.hid hp; clear hp
  have HF := Lib.hid hf; clear hf
  go_enter Try.func37, Try.ntmps37
  go_wp2_with (go_at_call 43; refine (HP.out _).mono ?_; rintro e w' ⟨rfl, rfl⟩)
  go_ret
  exact ⟨retI (by simp [nodeErr, HF.out]), (Below.refl _ _).alloc (Nat.le_refl _) _⟩

set_option maxRecDepth 100000 in
set_option maxHeartbeats 1600000 in
theorem nodeErrorR_1 (lv p : Int) (t d ti : ByteArray) (A : Option Addr) (n c : Nat) (w : World) (hf : fitB 1 p = true) (hs : Short t d ti n) :
    Calls Try.prog 37 #[.agg #[.int .i64 1, .int .i64 lv, .string t, .string d, .string ti, .slice A n c], .int .i64 p] w
      fun e w' => e = .returned (.int .i64 (nodeErr 1 lv t d ti n p)) ∧ Below w.heap.size w w' := by
  obtain ⟨ht, hd, hti, hn⟩ := hs
  have hp := fun wx => permitted_any 1 p wx
  rw [hf] at hp
  have HP := Lib.hid hp; clear hp
  have HF := Lib.hid hf; clear hf
  go_enter Try.func37, Try.ntmps37
  go_wp2_with (first | (go_at_call 43; refine (HP.out _).mono ?_; rintro e w' ⟨rfl, rfl⟩) | (go_at_call 44; refine (badBytes_any _ _ _ _ (by assumption)).mono ?_; rintro e w' ⟨rfl, rfl⟩))
  all_goals go_ret
  all_goals refine ⟨retI ?_, (Below.refl _ _).alloc (Nat.le_refl _) _⟩
  all_goals try simp [nodeErr, HF.out, rngB, unB, byB, hasText, hasDest, hasTitle, hasKids, *]
  all_goals first | omega | (intros; omega) | (split <;> omega)

set_option maxRecDepth 100000 in
set_option maxHeartbeats 1600000 in
theorem nodeErrorR_2 (lv p : Int) (t d ti : ByteArray) (A : Option Addr) (n c : Nat) (w : World) (hf : fitB 2 p = true) (hs : Short t d ti n) :
    Calls Try.prog 37 #[.agg #[.int .i64 2, .int .i64 lv, .string t, .string d, .string ti, .slice A n c], .int .i64 p] w
      fun e w' => e = .returned (.int .i64 (nodeErr 2 lv t d ti n p)) ∧ Below w.heap.size w w' := by
  obtain ⟨ht, hd, hti, hn⟩ := hs
  have hp := fun wx => permitted_any 2 p wx
  rw [hf] at hp
  have HP := Lib.hid hp; clear hp
  have HF := Lib.hid hf; clear hf
  go_enter Try.func37, Try.ntmps37
  go_wp2_with (first | (go_at_call 43; refine (HP.out _).mono ?_; rintro e w' ⟨rfl, rfl⟩) | (go_at_call 44; refine (badBytes_any _ _ _ _ (by assumption)).mono ?_; rintro e w' ⟨rfl, rfl⟩))
  all_goals go_ret
  all_goals refine ⟨retI ?_, (Below.refl _ _).alloc (Nat.le_refl _) _⟩
  all_goals try simp [nodeErr, HF.out, rngB, unB, byB, hasText, hasDest, hasTitle, hasKids, *]
  all_goals first | omega | (intros; omega) | (split <;> omega)

set_option maxRecDepth 100000 in
set_option maxHeartbeats 1600000 in
theorem nodeErrorR_3 (lv p : Int) (t d ti : ByteArray) (A : Option Addr) (n c : Nat) (w : World) (hf : fitB 3 p = true) (hs : Short t d ti n) :
    Calls Try.prog 37 #[.agg #[.int .i64 3, .int .i64 lv, .string t, .string d, .string ti, .slice A n c], .int .i64 p] w
      fun e w' => e = .returned (.int .i64 (nodeErr 3 lv t d ti n p)) ∧ Below w.heap.size w w' := by
  obtain ⟨ht, hd, hti, hn⟩ := hs
  have hp := fun wx => permitted_any 3 p wx
  rw [hf] at hp
  have HP := Lib.hid hp; clear hp
  have HF := Lib.hid hf; clear hf
  go_enter Try.func37, Try.ntmps37
  go_wp2_with (first | (go_at_call 43; refine (HP.out _).mono ?_; rintro e w' ⟨rfl, rfl⟩) | (go_at_call 44; refine (badBytes_any _ _ _ _ (by assumption)).mono ?_; rintro e w' ⟨rfl, rfl⟩))
  all_goals go_ret
  all_goals refine ⟨retI ?_, (Below.refl _ _).alloc (Nat.le_refl _) _⟩
  all_goals try simp [nodeErr, HF.out, rngB, unB, byB, hasText, hasDest, hasTitle, hasKids, *]
  all_goals first | omega | (intros; omega) | (split <;> omega)

set_option maxRecDepth 100000 in
set_option maxHeartbeats 1600000 in
theorem nodeErrorR_4 (lv p : Int) (t d ti : ByteArray) (A : Option Addr) (n c : Nat) (w : World) (hf : fitB 4 p = true) (hs : Short t d ti n) :
    Calls Try.prog 37 #[.agg #[.int .i64 4, .int .i64 lv, .string t, .string d, .string ti, .slice A n c], .int .i64 p] w
      fun e w' => e = .returned (.int .i64 (nodeErr 4 lv t d ti n p)) ∧ Below w.heap.size w w' := by
  obtain ⟨ht, hd, hti, hn⟩ := hs
  have hp := fun wx => permitted_any 4 p wx
  rw [hf] at hp
  have HP := Lib.hid hp; clear hp
  have HF := Lib.hid hf; clear hf
  go_enter Try.func37, Try.ntmps37
  go_wp2_with (first | (go_at_call 43; refine (HP.out _).mono ?_; rintro e w' ⟨rfl, rfl⟩) | (go_at_call 44; refine (badBytes_any _ _ _ _ (by assumption)).mono ?_; rintro e w' ⟨rfl, rfl⟩))
  all_goals go_ret
  all_goals refine ⟨retI ?_, (Below.refl _ _).alloc (Nat.le_refl _) _⟩
  all_goals try simp [nodeErr, HF.out, rngB, unB, byB, hasText, hasDest, hasTitle, hasKids, *]
  all_goals first | omega | (intros; omega) | (split <;> omega)

set_option maxRecDepth 100000 in
set_option maxHeartbeats 1600000 in
theorem nodeErrorR_5 (lv p : Int) (t d ti : ByteArray) (A : Option Addr) (n c : Nat) (w : World) (hf : fitB 5 p = true) (hs : Short t d ti n) :
    Calls Try.prog 37 #[.agg #[.int .i64 5, .int .i64 lv, .string t, .string d, .string ti, .slice A n c], .int .i64 p] w
      fun e w' => e = .returned (.int .i64 (nodeErr 5 lv t d ti n p)) ∧ Below w.heap.size w w' := by
  obtain ⟨ht, hd, hti, hn⟩ := hs
  have hp := fun wx => permitted_any 5 p wx
  rw [hf] at hp
  have HP := Lib.hid hp; clear hp
  have HF := Lib.hid hf; clear hf
  go_enter Try.func37, Try.ntmps37
  go_wp2_with (first | (go_at_call 43; refine (HP.out _).mono ?_; rintro e w' ⟨rfl, rfl⟩) | (go_at_call 44; refine (badBytes_any _ _ _ _ (by assumption)).mono ?_; rintro e w' ⟨rfl, rfl⟩))
  all_goals go_ret
  all_goals refine ⟨retI ?_, (Below.refl _ _).alloc (Nat.le_refl _) _⟩
  all_goals try simp [nodeErr, HF.out, rngB, unB, byB, hasText, hasDest, hasTitle, hasKids, *]
  all_goals first | omega | (intros; omega) | (split <;> omega)

set_option maxRecDepth 100000 in
set_option maxHeartbeats 1600000 in
theorem nodeErrorR_6 (lv p : Int) (t d ti : ByteArray) (A : Option Addr) (n c : Nat) (w : World) (hf : fitB 6 p = true) (hs : Short t d ti n) :
    Calls Try.prog 37 #[.agg #[.int .i64 6, .int .i64 lv, .string t, .string d, .string ti, .slice A n c], .int .i64 p] w
      fun e w' => e = .returned (.int .i64 (nodeErr 6 lv t d ti n p)) ∧ Below w.heap.size w w' := by
  obtain ⟨ht, hd, hti, hn⟩ := hs
  have hp := fun wx => permitted_any 6 p wx
  rw [hf] at hp
  have HP := Lib.hid hp; clear hp
  have HF := Lib.hid hf; clear hf
  go_enter Try.func37, Try.ntmps37
  go_wp2_with (first | (go_at_call 43; refine (HP.out _).mono ?_; rintro e w' ⟨rfl, rfl⟩) | (go_at_call 44; refine (badBytes_any _ _ _ _ (by assumption)).mono ?_; rintro e w' ⟨rfl, rfl⟩))
  all_goals go_ret
  all_goals refine ⟨retI ?_, (Below.refl _ _).alloc (Nat.le_refl _) _⟩
  all_goals try simp [nodeErr, HF.out, rngB, unB, byB, hasText, hasDest, hasTitle, hasKids, *]
  all_goals first | omega | (intros; omega) | (split <;> omega)

set_option maxRecDepth 100000 in
set_option maxHeartbeats 1600000 in
theorem nodeErrorR_7 (lv p : Int) (t d ti : ByteArray) (A : Option Addr) (n c : Nat) (w : World) (hf : fitB 7 p = true) (hs : Short t d ti n) :
    Calls Try.prog 37 #[.agg #[.int .i64 7, .int .i64 lv, .string t, .string d, .string ti, .slice A n c], .int .i64 p] w
      fun e w' => e = .returned (.int .i64 (nodeErr 7 lv t d ti n p)) ∧ Below w.heap.size w w' := by
  obtain ⟨ht, hd, hti, hn⟩ := hs
  have hp := fun wx => permitted_any 7 p wx
  rw [hf] at hp
  have HP := Lib.hid hp; clear hp
  have HF := Lib.hid hf; clear hf
  go_enter Try.func37, Try.ntmps37
  go_wp2_with (first | (go_at_call 43; refine (HP.out _).mono ?_; rintro e w' ⟨rfl, rfl⟩) | (go_at_call 44; refine (badBytes_any _ _ _ _ (by assumption)).mono ?_; rintro e w' ⟨rfl, rfl⟩))
  all_goals go_ret
  all_goals refine ⟨retI ?_, (Below.refl _ _).alloc (Nat.le_refl _) _⟩
  all_goals try simp [nodeErr, HF.out, rngB, unB, byB, hasText, hasDest, hasTitle, hasKids, *]
  all_goals first | omega | (intros; omega) | (split <;> omega)

set_option maxRecDepth 100000 in
set_option maxHeartbeats 1600000 in
theorem nodeErrorR_8 (lv p : Int) (t d ti : ByteArray) (A : Option Addr) (n c : Nat) (w : World) (hf : fitB 8 p = true) (hs : Short t d ti n) :
    Calls Try.prog 37 #[.agg #[.int .i64 8, .int .i64 lv, .string t, .string d, .string ti, .slice A n c], .int .i64 p] w
      fun e w' => e = .returned (.int .i64 (nodeErr 8 lv t d ti n p)) ∧ Below w.heap.size w w' := by
  obtain ⟨ht, hd, hti, hn⟩ := hs
  have hp := fun wx => permitted_any 8 p wx
  rw [hf] at hp
  have HP := Lib.hid hp; clear hp
  have HF := Lib.hid hf; clear hf
  go_enter Try.func37, Try.ntmps37
  go_wp2_with (first | (go_at_call 43; refine (HP.out _).mono ?_; rintro e w' ⟨rfl, rfl⟩) | (go_at_call 44; refine (badBytes_any _ _ _ _ (by assumption)).mono ?_; rintro e w' ⟨rfl, rfl⟩))
  all_goals go_ret
  all_goals refine ⟨retI ?_, (Below.refl _ _).alloc (Nat.le_refl _) _⟩
  all_goals try simp [nodeErr, HF.out, rngB, unB, byB, hasText, hasDest, hasTitle, hasKids, *]
  all_goals first | omega | (intros; omega) | (split <;> omega)

set_option maxRecDepth 100000 in
set_option maxHeartbeats 1600000 in
theorem nodeErrorR_9 (lv p : Int) (t d ti : ByteArray) (A : Option Addr) (n c : Nat) (w : World) (hf : fitB 9 p = true) (hs : Short t d ti n) :
    Calls Try.prog 37 #[.agg #[.int .i64 9, .int .i64 lv, .string t, .string d, .string ti, .slice A n c], .int .i64 p] w
      fun e w' => e = .returned (.int .i64 (nodeErr 9 lv t d ti n p)) ∧ Below w.heap.size w w' := by
  obtain ⟨ht, hd, hti, hn⟩ := hs
  have hp := fun wx => permitted_any 9 p wx
  rw [hf] at hp
  have HP := Lib.hid hp; clear hp
  have HF := Lib.hid hf; clear hf
  go_enter Try.func37, Try.ntmps37
  go_wp2_with (first | (go_at_call 43; refine (HP.out _).mono ?_; rintro e w' ⟨rfl, rfl⟩) | (go_at_call 44; refine (badBytes_any _ _ _ _ (by assumption)).mono ?_; rintro e w' ⟨rfl, rfl⟩))
  all_goals go_ret
  all_goals refine ⟨retI ?_, (Below.refl _ _).alloc (Nat.le_refl _) _⟩
  all_goals try simp [nodeErr, HF.out, rngB, unB, byB, hasText, hasDest, hasTitle, hasKids, *]
  all_goals first | omega | (intros; omega) | (split <;> omega)

set_option maxRecDepth 100000 in
set_option maxHeartbeats 1600000 in
theorem nodeErrorR_10 (lv p : Int) (t d ti : ByteArray) (A : Option Addr) (n c : Nat) (w : World) (hf : fitB 10 p = true) (hs : Short t d ti n) :
    Calls Try.prog 37 #[.agg #[.int .i64 10, .int .i64 lv, .string t, .string d, .string ti, .slice A n c], .int .i64 p] w
      fun e w' => e = .returned (.int .i64 (nodeErr 10 lv t d ti n p)) ∧ Below w.heap.size w w' := by
  obtain ⟨ht, hd, hti, hn⟩ := hs
  have hp := fun wx => permitted_any 10 p wx
  rw [hf] at hp
  have HP := Lib.hid hp; clear hp
  have HF := Lib.hid hf; clear hf
  go_enter Try.func37, Try.ntmps37
  go_wp2_with (first | (go_at_call 43; refine (HP.out _).mono ?_; rintro e w' ⟨rfl, rfl⟩) | (go_at_call 44; refine (badBytes_any _ _ _ _ (by assumption)).mono ?_; rintro e w' ⟨rfl, rfl⟩))
  all_goals go_ret
  all_goals refine ⟨retI ?_, (Below.refl _ _).alloc (Nat.le_refl _) _⟩
  all_goals try simp [nodeErr, HF.out, rngB, unB, byB, hasText, hasDest, hasTitle, hasKids, *]
  all_goals first | omega | (intros; omega) | (split <;> omega)

set_option maxRecDepth 100000 in
set_option maxHeartbeats 1600000 in
theorem nodeErrorR_11 (lv p : Int) (t d ti : ByteArray) (A : Option Addr) (n c : Nat) (w : World) (hf : fitB 11 p = true) (hs : Short t d ti n) :
    Calls Try.prog 37 #[.agg #[.int .i64 11, .int .i64 lv, .string t, .string d, .string ti, .slice A n c], .int .i64 p] w
      fun e w' => e = .returned (.int .i64 (nodeErr 11 lv t d ti n p)) ∧ Below w.heap.size w w' := by
  obtain ⟨ht, hd, hti, hn⟩ := hs
  have hp := fun wx => permitted_any 11 p wx
  rw [hf] at hp
  have HP := Lib.hid hp; clear hp
  have HF := Lib.hid hf; clear hf
  go_enter Try.func37, Try.ntmps37
  go_wp2_with (first | (go_at_call 43; refine (HP.out _).mono ?_; rintro e w' ⟨rfl, rfl⟩) | (go_at_call 44; refine (badBytes_any _ _ _ _ (by assumption)).mono ?_; rintro e w' ⟨rfl, rfl⟩))
  all_goals go_ret
  all_goals refine ⟨retI ?_, (Below.refl _ _).alloc (Nat.le_refl _) _⟩
  all_goals try simp [nodeErr, HF.out, rngB, unB, byB, hasText, hasDest, hasTitle, hasKids, *]
  all_goals first | omega | (intros; omega) | (split <;> omega)

set_option maxRecDepth 100000 in
set_option maxHeartbeats 1600000 in
theorem nodeErrorR_12 (lv p : Int) (t d ti : ByteArray) (A : Option Addr) (n c : Nat) (w : World) (hf : fitB 12 p = true) (hs : Short t d ti n) :
    Calls Try.prog 37 #[.agg #[.int .i64 12, .int .i64 lv, .string t, .string d, .string ti, .slice A n c], .int .i64 p] w
      fun e w' => e = .returned (.int .i64 (nodeErr 12 lv t d ti n p)) ∧ Below w.heap.size w w' := by
  obtain ⟨ht, hd, hti, hn⟩ := hs
  have hp := fun wx => permitted_any 12 p wx
  rw [hf] at hp
  have HP := Lib.hid hp; clear hp
  have HF := Lib.hid hf; clear hf
  go_enter Try.func37, Try.ntmps37
  go_wp2_with (first | (go_at_call 43; refine (HP.out _).mono ?_; rintro e w' ⟨rfl, rfl⟩) | (go_at_call 44; refine (badBytes_any _ _ _ _ (by assumption)).mono ?_; rintro e w' ⟨rfl, rfl⟩))
  all_goals go_ret
  all_goals refine ⟨retI ?_, (Below.refl _ _).alloc (Nat.le_refl _) _⟩
  all_goals try simp [nodeErr, HF.out, rngB, unB, byB, hasText, hasDest, hasTitle, hasKids, *]
  all_goals first | omega | (intros; omega) | (split <;> omega)

set_option maxRecDepth 100000 in
set_option maxHeartbeats 1600000 in
theorem nodeErrorR_13 (lv p : Int) (t d ti : ByteArray) (A : Option Addr) (n c : Nat) (w : World) (hf : fitB 13 p = true) (hs : Short t d ti n) :
    Calls Try.prog 37 #[.agg #[.int .i64 13, .int .i64 lv, .string t, .string d, .string ti, .slice A n c], .int .i64 p] w
      fun e w' => e = .returned (.int .i64 (nodeErr 13 lv t d ti n p)) ∧ Below w.heap.size w w' := by
  obtain ⟨ht, hd, hti, hn⟩ := hs
  have hp := fun wx => permitted_any 13 p wx
  rw [hf] at hp
  have HP := Lib.hid hp; clear hp
  have HF := Lib.hid hf; clear hf
  go_enter Try.func37, Try.ntmps37
  go_wp2_with (first | (go_at_call 43; refine (HP.out _).mono ?_; rintro e w' ⟨rfl, rfl⟩) | (go_at_call 44; refine (badBytes_any _ _ _ _ (by assumption)).mono ?_; rintro e w' ⟨rfl, rfl⟩))
  all_goals go_ret
  all_goals refine ⟨retI ?_, (Below.refl _ _).alloc (Nat.le_refl _) _⟩
  all_goals try simp [nodeErr, HF.out, rngB, unB, byB, hasText, hasDest, hasTitle, hasKids, *]
  all_goals first | omega | (intros; omega) | (split <;> omega)

set_option maxRecDepth 100000 in
set_option maxHeartbeats 1600000 in
theorem nodeErrorR_14 (lv p : Int) (t d ti : ByteArray) (A : Option Addr) (n c : Nat) (w : World) (hf : fitB 14 p = true) (hs : Short t d ti n) :
    Calls Try.prog 37 #[.agg #[.int .i64 14, .int .i64 lv, .string t, .string d, .string ti, .slice A n c], .int .i64 p] w
      fun e w' => e = .returned (.int .i64 (nodeErr 14 lv t d ti n p)) ∧ Below w.heap.size w w' := by
  obtain ⟨ht, hd, hti, hn⟩ := hs
  have hp := fun wx => permitted_any 14 p wx
  rw [hf] at hp
  have HP := Lib.hid hp; clear hp
  have HF := Lib.hid hf; clear hf
  go_enter Try.func37, Try.ntmps37
  go_wp2_with (first | (go_at_call 43; refine (HP.out _).mono ?_; rintro e w' ⟨rfl, rfl⟩) | (go_at_call 44; refine (badBytes_any _ _ _ _ (by assumption)).mono ?_; rintro e w' ⟨rfl, rfl⟩))
  all_goals go_ret
  all_goals refine ⟨retI ?_, (Below.refl _ _).alloc (Nat.le_refl _) _⟩
  all_goals try simp [nodeErr, HF.out, rngB, unB, byB, hasText, hasDest, hasTitle, hasKids, *]
  all_goals first | omega | (intros; omega) | (split <;> omega)

set_option maxRecDepth 100000 in
set_option maxHeartbeats 1600000 in
theorem nodeErrorR_15 (lv p : Int) (t d ti : ByteArray) (A : Option Addr) (n c : Nat) (w : World) (hf : fitB 15 p = true) (hs : Short t d ti n) :
    Calls Try.prog 37 #[.agg #[.int .i64 15, .int .i64 lv, .string t, .string d, .string ti, .slice A n c], .int .i64 p] w
      fun e w' => e = .returned (.int .i64 (nodeErr 15 lv t d ti n p)) ∧ Below w.heap.size w w' := by
  obtain ⟨ht, hd, hti, hn⟩ := hs
  have hp := fun wx => permitted_any 15 p wx
  rw [hf] at hp
  have HP := Lib.hid hp; clear hp
  have HF := Lib.hid hf; clear hf
  go_enter Try.func37, Try.ntmps37
  go_wp2_with (first | (go_at_call 43; refine (HP.out _).mono ?_; rintro e w' ⟨rfl, rfl⟩) | (go_at_call 44; refine (badBytes_any _ _ _ _ (by assumption)).mono ?_; rintro e w' ⟨rfl, rfl⟩))
  all_goals go_ret
  all_goals refine ⟨retI ?_, (Below.refl _ _).alloc (Nat.le_refl _) _⟩
  all_goals try simp [nodeErr, HF.out, rngB, unB, byB, hasText, hasDest, hasTitle, hasKids, *]
  all_goals first | omega | (intros; omega) | (split <;> omega)

set_option maxRecDepth 100000 in
set_option maxHeartbeats 1600000 in
theorem nodeErrorR_16 (lv p : Int) (t d ti : ByteArray) (A : Option Addr) (n c : Nat) (w : World) (hf : fitB 16 p = true) (hs : Short t d ti n) :
    Calls Try.prog 37 #[.agg #[.int .i64 16, .int .i64 lv, .string t, .string d, .string ti, .slice A n c], .int .i64 p] w
      fun e w' => e = .returned (.int .i64 (nodeErr 16 lv t d ti n p)) ∧ Below w.heap.size w w' := by
  obtain ⟨ht, hd, hti, hn⟩ := hs
  have hp := fun wx => permitted_any 16 p wx
  rw [hf] at hp
  have HP := Lib.hid hp; clear hp
  have HF := Lib.hid hf; clear hf
  go_enter Try.func37, Try.ntmps37
  go_wp2_with (first | (go_at_call 43; refine (HP.out _).mono ?_; rintro e w' ⟨rfl, rfl⟩) | (go_at_call 44; refine (badBytes_any _ _ _ _ (by assumption)).mono ?_; rintro e w' ⟨rfl, rfl⟩))
  all_goals go_ret
  all_goals refine ⟨retI ?_, (Below.refl _ _).alloc (Nat.le_refl _) _⟩
  all_goals try simp [nodeErr, HF.out, rngB, unB, byB, hasText, hasDest, hasTitle, hasKids, *]
  all_goals first | omega | (intros; omega) | (split <;> omega)

set_option maxRecDepth 100000 in
set_option maxHeartbeats 1600000 in
theorem nodeErrorR_17 (lv p : Int) (t d ti : ByteArray) (A : Option Addr) (n c : Nat) (w : World) (hf : fitB 17 p = true) (hs : Short t d ti n) :
    Calls Try.prog 37 #[.agg #[.int .i64 17, .int .i64 lv, .string t, .string d, .string ti, .slice A n c], .int .i64 p] w
      fun e w' => e = .returned (.int .i64 (nodeErr 17 lv t d ti n p)) ∧ Below w.heap.size w w' := by
  obtain ⟨ht, hd, hti, hn⟩ := hs
  have hp := fun wx => permitted_any 17 p wx
  rw [hf] at hp
  have HP := Lib.hid hp; clear hp
  have HF := Lib.hid hf; clear hf
  go_enter Try.func37, Try.ntmps37
  go_wp2_with (first | (go_at_call 43; refine (HP.out _).mono ?_; rintro e w' ⟨rfl, rfl⟩) | (go_at_call 44; refine (badBytes_any _ _ _ _ (by assumption)).mono ?_; rintro e w' ⟨rfl, rfl⟩))
  all_goals go_ret
  all_goals refine ⟨retI ?_, (Below.refl _ _).alloc (Nat.le_refl _) _⟩
  all_goals try simp [nodeErr, HF.out, rngB, unB, byB, hasText, hasDest, hasTitle, hasKids, *]
  all_goals first | omega | (intros; omega) | (split <;> omega)

set_option maxRecDepth 100000 in
set_option maxHeartbeats 1600000 in
theorem nodeErrorR_18 (lv p : Int) (t d ti : ByteArray) (A : Option Addr) (n c : Nat) (w : World) (hf : fitB 18 p = true) (hs : Short t d ti n) :
    Calls Try.prog 37 #[.agg #[.int .i64 18, .int .i64 lv, .string t, .string d, .string ti, .slice A n c], .int .i64 p] w
      fun e w' => e = .returned (.int .i64 (nodeErr 18 lv t d ti n p)) ∧ Below w.heap.size w w' := by
  obtain ⟨ht, hd, hti, hn⟩ := hs
  have hp := fun wx => permitted_any 18 p wx
  rw [hf] at hp
  have HP := Lib.hid hp; clear hp
  have HF := Lib.hid hf; clear hf
  go_enter Try.func37, Try.ntmps37
  go_wp2_with (first | (go_at_call 43; refine (HP.out _).mono ?_; rintro e w' ⟨rfl, rfl⟩) | (go_at_call 44; refine (badBytes_any _ _ _ _ (by assumption)).mono ?_; rintro e w' ⟨rfl, rfl⟩))
  all_goals go_ret
  all_goals refine ⟨retI ?_, (Below.refl _ _).alloc (Nat.le_refl _) _⟩
  all_goals try simp [nodeErr, HF.out, rngB, unB, byB, hasText, hasDest, hasTitle, hasKids, *]
  all_goals first | omega | (intros; omega) | (split <;> omega)

theorem nodeErrorR_any (k lv p : Int) (t d ti : ByteArray) (A : Option Addr) (n c : Nat) (w : World) (hs : Short t d ti n) :
    Calls Try.prog 37 #[.agg #[.int .i64 k, .int .i64 lv, .string t, .string d, .string ti, .slice A n c], .int .i64 p] w
      fun e w' => e = .returned (.int .i64 (nodeErr k lv t d ti n p)) ∧ Below w.heap.size w w' := by
  cases hf : fitB k p with
  | false => exact nodeErrorR_no k lv p t d ti A n c w hf
  | true =>
    rcases kinds (fitB_range hf) with rfl | rfl | rfl | rfl | rfl | rfl | rfl | rfl | rfl | rfl | rfl | rfl | rfl | rfl | rfl | rfl | rfl | rfl
    · exact nodeErrorR_1 lv p t d ti A n c w hf hs
    · exact nodeErrorR_2 lv p t d ti A n c w hf hs
    · exact nodeErrorR_3 lv p t d ti A n c w hf hs
    · exact nodeErrorR_4 lv p t d ti A n c w hf hs
    · exact nodeErrorR_5 lv p t d ti A n c w hf hs
    · exact nodeErrorR_6 lv p t d ti A n c w hf hs
    · exact nodeErrorR_7 lv p t d ti A n c w hf hs
    · exact nodeErrorR_8 lv p t d ti A n c w hf hs
    · exact nodeErrorR_9 lv p t d ti A n c w hf hs
    · exact nodeErrorR_10 lv p t d ti A n c w hf hs
    · exact nodeErrorR_11 lv p t d ti A n c w hf hs
    · exact nodeErrorR_12 lv p t d ti A n c w hf hs
    · exact nodeErrorR_13 lv p t d ti A n c w hf hs
    · exact nodeErrorR_14 lv p t d ti A n c w hf hs
    · exact nodeErrorR_15 lv p t d ti A n c w hf hs
    · exact nodeErrorR_16 lv p t d ti A n c w hf hs
    · exact nodeErrorR_17 lv p t d ti A n c w hf hs
    · exact nodeErrorR_18 lv p t d ti A n c w hf hs
end Go.Proofs.Ytmaahkonjpcgiab
