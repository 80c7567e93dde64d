/- DERIVED. The error of a node: what hasWrongByte and checkNode return. Condition: strings shorter than 2^63 bytes. -/
import Derived.Test.YtmaahkonjpcgiabChkD
set_option linter.unusedSimpArgs false
set_option linter.unusedVariables false
namespace Go.Proofs.Ytmaahkonjpcgiab
open Go.RowKit
def wbB (k : Int) (t d ti : ByteArray) : Bool := if k = 3 then ctl [9, 10] t.data.toList || ctl [9] d.data.toList else ctl [9] t.data.toList || ctl [] d.data.toList || ctl [9] ti.data.toList
theorem ctl_nil_of (al : List UInt8) (ti : ByteArray) (h : ti.toList.isEmpty = true) : ctl al ti.data.toList = false := by
  rw [Lib.toList_data, List.isEmpty_iff] at h
  rw [h]; rfl

theorem by_wb {k lv : Int} {t d ti : ByteArray} {n : Nat} (h : unB k lv t.toList.isEmpty d.toList.isEmpty ti.toList.isEmpty n = false) : byB k t d ti = wbB k t d ti := by
  by_cases h3 : k = 3
  · subst h3
    have hti : ti.toList.isEmpty = true := by
      cases hh : ti.toList.isEmpty with
      | true => rfl
      | false => rw [hh] at h; simp [unB, hasTitle] at h
    simp [byB, wbB, al1, ctl_nil_of _ ti hti]
  · simp [byB, wbB, al1, h3]
theorem nodeErr_of {k lv p : Int} {t d ti : ByteArray} {n : Nat} {ub wb : Bool} (hf : fitB k p = true) (hu : unB k lv t.toList.isEmpty d.toList.isEmpty ti.toList.isEmpty n = ub) (hw : wbB k t d ti = wb) :
    nodeErr k lv t d ti n p = if rngB k lv = true then 2 else if ub = true then 1 else if wb = true then 9 else 0 := by
  unfold nodeErr
  rw [hf, hu]
  cases ub with
  | true => simp
  | false => rw [by_wb hu, hw]; simp

set_option maxRecDepth 100000 in
set_option maxHeartbeats 800000 in
theorem hasWrongByte_any (k lv : Int) (t d ti : ByteArray) (A : Option Addr) (n c : Nat) (w : World) (hs : Short t d ti n) :
    Calls Try.prog 48 #[.agg #[.int .i64 k, .int .i64 lv, .string t, .string d, .string ti, .slice A n c]] w
      fun e w' => e = .returned (.bool (wbB k t d ti)) ∧ Below w.heap.size w w' := by
  obtain ⟨ht, hd, hti, hn⟩ := hs
  by_cases h3 : k = 3
  · subst h3
    go_enter Try.func48, Try.ntmps48
    go_wp2_with (go_at_call 20; refine (hasControl_any _ _ _ (by assumption)).mono ?_; rintro e w' ⟨rfl, rfl⟩)
    all_goals go_ret
    all_goals refine ⟨retB ?_, (Below.refl _ _).alloc (Nat.le_refl _) _⟩
    all_goals simp_all [wbB]
  · go_enter Try.func48, Try.ntmps48
    go_wp2_with (go_at_call 20; refine (hasControl_any _ _ _ (by assumption)).mono ?_; rintro e w' ⟨rfl, rfl⟩)
    all_goals go_ret
    all_goals refine ⟨retB ?_, (Below.refl _ _).alloc (Nat.le_refl _) _⟩
    all_goals simp_all [wbB]

set_option maxRecDepth 100000 in
set_option maxHeartbeats 400000 in
theorem checkNode_no (k lv p : Int) (t d ti : ByteArray) (A : Option Addr) (n c : Nat) (w : World) (hf : fitB k p = false) :
    Calls Try.prog 41 #[.agg #[.int .i64 k, .int .i64 lv, .string t, .string d, .string ti, .slice A n c], .int .i64 p] w
      fun e w' => e = .returned (.int .i64 (nodeErr k lv t d ti n p)) ∧ Below w.heap.size w w' := by
  have hp := fun wx => fits_any k p wx
  rw [hf] at hp
  have HP := Lib.hid hp; clear hp
  have HF := Lib.hid hf; clear hf
  go_enter Try.func41, Try.ntmps41
  go_wp2_with (go_at_call 46; refine (HP.out _).mono ?_; rintro e w' ⟨rfl, rfl⟩)
  go_ret
  exact ⟨retI (by simp [nodeErr, HF.out]), (Below.refl _ _).alloc (Nat.le_refl _) _⟩

set_option maxRecDepth 100000 in
set_option maxHeartbeats 1600000 in
theorem checkNode_1 (lv p : Int) (t d ti : ByteArray) (A : Option Addr) (n c : Nat) (w : World) (hf : fitB 1 p = true) (hs : Short t d ti n) :
    Calls Try.prog 41 #[.agg #[.int .i64 1, .int .i64 lv, .string t, .string d, .string ti, .slice A n c], .int .i64 p] w
      fun e w' => e = .returned (.int .i64 (nodeErr 1 lv t d ti n p)) ∧ Below w.heap.size w w' := by
  have hp := fun wx => fits_any 1 p wx
  rw [hf] at hp
  have HP := Lib.hid hp; clear hp
  have HF := Lib.hid hf; clear hf
  obtain ⟨ub, hub⟩ : ∃ ub, unB 1 lv t.toList.isEmpty d.toList.isEmpty ti.toList.isEmpty n = ub := ⟨_, rfl⟩
  have hu := fun wx => hasUnused_1 lv t d ti A n c wx hs.n
  rw [hub] at hu
  have HU := Lib.hid hu; clear hu
  have HUB := Lib.hid hub; clear hub
  obtain ⟨wb, hwb⟩ : ∃ wb, wbB 1 t d ti = wb := ⟨_, rfl⟩
  have hw := fun wx => hasWrongByte_any 1 lv t d ti A n c wx hs
  rw [hwb] at hw
  have HW := Lib.hid hw; clear hw
  have HWB := Lib.hid hwb; clear hwb
  clear hs
  have H1 := Lib.hid ((Below.refl w.heap.size w).alloc (Nat.le_refl _) (.cells #[.int .i64 1, .int .i64 lv, .string t, .string d, .string ti, .slice A n c] 47))
  go_enter Try.func41, Try.ntmps41
  go_wp2_with (first
    | (go_at_call 46; refine (HP.out _).mono ?_; rintro e w' ⟨rfl, rfl⟩)
    | (go_at_call 47; refine (HU.out _).mono ?_; rintro e w1 ⟨rfl, hb1⟩; have c0 := hb1.cell (p := ⟨w.heap.size, 0, none⟩) (by simp); have c1 := hb1.cell (p := ⟨w.heap.size, 1, none⟩) (by simp); have c2 := hb1.cell (p := ⟨w.heap.size, 2, none⟩) (by simp); have c3 := hb1.cell (p := ⟨w.heap.size, 3, none⟩) (by simp); have c4 := hb1.cell (p := ⟨w.heap.size, 4, none⟩) (by simp); have c5 := hb1.cell (p := ⟨w.heap.size, 5, none⟩) (by simp); simp at c0 c1 c2 c3 c4 c5; have H2 := Lib.hid (H1.out.trans (hb1.mono (by simp))); clear hb1)
    | (go_at_call 48; refine (HW.out _).mono ?_; rintro e w2 ⟨rfl, hb2⟩; have H3 := Lib.hid (H2.out.trans (hb2.mono H2.out.size)); clear hb2))
  all_goals go_ret
  all_goals first
    | refine ⟨retI ?_, H3.out⟩
    | refine ⟨retI ?_, H2.out⟩
    | refine ⟨retI ?_, H1.out⟩
  all_goals rw [nodeErr_of HF.out HUB.out HWB.out]
  all_goals try simp [rngB, *]
  all_goals first | omega | (intros; omega) | (split <;> omega)

set_option maxRecDepth 100000 in
set_option maxHeartbeats 1600000 in
theorem checkNode_2 (lv p : Int) (t d ti : ByteArray) (A : Option Addr) (n c : Nat) (w : World) (hf : fitB 2 p = true) (hs : Short t d ti n) :
    Calls Try.prog 41 #[.agg #[.int .i64 2, .int .i64 lv, .string t, .string d, .string ti, .slice A n c], .int .i64 p] w
      fun e w' => e = .returned (.int .i64 (nodeErr 2 lv t d ti n p)) ∧ Below w.heap.size w w' := by
  have hp := fun wx => fits_any 2 p wx
  rw [hf] at hp
  have HP := Lib.hid hp; clear hp
  have HF := Lib.hid hf; clear hf
  obtain ⟨ub, hub⟩ : ∃ ub, unB 2 lv t.toList.isEmpty d.toList.isEmpty ti.toList.isEmpty n = ub := ⟨_, rfl⟩
  have hu := fun wx => hasUnused_2 lv t d ti A n c wx hs.n
  rw [hub] at hu
  have HU := Lib.hid hu; clear hu
  have HUB := Lib.hid hub; clear hub
  obtain ⟨wb, hwb⟩ : ∃ wb, wbB 2 t d ti = wb := ⟨_, rfl⟩
  have hw := fun wx => hasWrongByte_any 2 lv t d ti A n c wx hs
  rw [hwb] at hw
  have HW := Lib.hid hw; clear hw
  have HWB := Lib.hid hwb; clear hwb
  clear hs
  have H1 := Lib.hid ((Below.refl w.heap.size w).alloc (Nat.le_refl _) (.cells #[.int .i64 2, .int .i64 lv, .string t, .string d, .string ti, .slice A n c] 47))
  go_enter Try.func41, Try.ntmps41
  go_wp2_with (first
    | (go_at_call 46; refine (HP.out _).mono ?_; rintro e w' ⟨rfl, rfl⟩)
    | (go_at_call 47; refine (HU.out _).mono ?_; rintro e w1 ⟨rfl, hb1⟩; have c0 := hb1.cell (p := ⟨w.heap.size, 0, none⟩) (by simp); have c1 := hb1.cell (p := ⟨w.heap.size, 1, none⟩) (by simp); have c2 := hb1.cell (p := ⟨w.heap.size, 2, none⟩) (by simp); have c3 := hb1.cell (p := ⟨w.heap.size, 3, none⟩) (by simp); have c4 := hb1.cell (p := ⟨w.heap.size, 4, none⟩) (by simp); have c5 := hb1.cell (p := ⟨w.heap.size, 5, none⟩) (by simp); simp at c0 c1 c2 c3 c4 c5; have H2 := Lib.hid (H1.out.trans (hb1.mono (by simp))); clear hb1)
    | (go_at_call 48; refine (HW.out _).mono ?_; rintro e w2 ⟨rfl, hb2⟩; have H3 := Lib.hid (H2.out.trans (hb2.mono H2.out.size)); clear hb2))
  all_goals go_ret
  all_goals first
    | refine ⟨retI ?_, H3.out⟩
    | refine ⟨retI ?_, H2.out⟩
    | refine ⟨retI ?_, H1.out⟩
  all_goals rw [nodeErr_of HF.out HUB.out HWB.out]
  all_goals try simp [rngB, *]
  all_goals first | omega | (intros; omega) | (split <;> omega)

set_option maxRecDepth 100000 in
set_option maxHeartbeats 1600000 in
theorem checkNode_3 (lv p : Int) (t d ti : ByteArray) (A : Option Addr) (n c : Nat) (w : World) (hf : fitB 3 p = true) (hs : Short t d ti n) :
    Calls Try.prog 41 #[.agg #[.int .i64 3, .int .i64 lv, .string t, .string d, .string ti, .slice A n c], .int .i64 p] w
      fun e w' => e = .returned (.int .i64 (nodeErr 3 lv t d ti n p)) ∧ Below w.heap.size w w' := by
  have hp := fun wx => fits_any 3 p wx
  rw [hf] at hp
  have HP := Lib.hid hp; clear hp
  have HF := Lib.hid hf; clear hf
  obtain ⟨ub, hub⟩ : ∃ ub, unB 3 lv t.toList.isEmpty d.toList.isEmpty ti.toList.isEmpty n = ub := ⟨_, rfl⟩
  have hu := fun wx => hasUnused_3 lv t d ti A n c wx hs.n
  rw [hub] at hu
  have HU := Lib.hid hu; clear hu
  have HUB := Lib.hid hub; clear hub
  obtain ⟨wb, hwb⟩ : ∃ wb, wbB 3 t d ti = wb := ⟨_, rfl⟩
  have hw := fun wx => hasWrongByte_any 3 lv t d ti A n c wx hs
  rw [hwb] at hw
  have HW := Lib.hid hw; clear hw
  have HWB := Lib.hid hwb; clear hwb
  clear hs
  have H1 := Lib.hid ((Below.refl w.heap.size w).alloc (Nat.le_refl _) (.cells #[.int .i64 3, .int .i64 lv, .string t, .string d, .string ti, .slice A n c] 47))
  go_enter Try.func41, Try.ntmps41
  go_wp2_with (first
    | (go_at_call 46; refine (HP.out _).mono ?_; rintro e w' ⟨rfl, rfl⟩)
    | (go_at_call 47; refine (HU.out _).mono ?_; rintro e w1 ⟨rfl, hb1⟩; have c0 := hb1.cell (p := ⟨w.heap.size, 0, none⟩) (by simp); have c1 := hb1.cell (p := ⟨w.heap.size, 1, none⟩) (by simp); have c2 := hb1.cell (p := ⟨w.heap.size, 2, none⟩) (by simp); have c3 := hb1.cell (p := ⟨w.heap.size, 3, none⟩) (by simp); have c4 := hb1.cell (p := ⟨w.heap.size, 4, none⟩) (by simp); have c5 := hb1.cell (p := ⟨w.heap.size, 5, none⟩) (by simp); simp at c0 c1 c2 c3 c4 c5; have H2 := Lib.hid (H1.out.trans (hb1.mono (by simp))); clear hb1)
    | (go_at_call 48; refine (HW.out _).mono ?_; rintro e w2 ⟨rfl, hb2⟩; have H3 := Lib.hid (H2.out.trans (hb2.mono H2.out.size)); clear hb2))
  all_goals go_ret
  all_goals first
    | refine ⟨retI ?_, H3.out⟩
    | refine ⟨retI ?_, H2.out⟩
    | refine ⟨retI ?_, H1.out⟩
  all_goals rw [nodeErr_of HF.out HUB.out HWB.out]
  all_goals try simp [rngB, *]
  all_goals first | omega | (intros; omega) | (split <;> omega)

set_option maxRecDepth 100000 in
set_option maxHeartbeats 1600000 in
theorem checkNode_4 (lv p : Int) (t d ti : ByteArray) (A : Option Addr) (n c : Nat) (w : World) (hf : fitB 4 p = true) (hs : Short t d ti n) :
    Calls Try.prog 41 #[.agg #[.int .i64 4, .int .i64 lv, .string t, .string d, .string ti, .slice A n c], .int .i64 p] w
      fun e w' => e = .returned (.int .i64 (nodeErr 4 lv t d ti n p)) ∧ Below w.heap.size w w' := by
  have hp := fun wx => fits_any 4 p wx
  rw [hf] at hp
  have HP := Lib.hid hp; clear hp
  have HF := Lib.hid hf; clear hf
  obtain ⟨ub, hub⟩ : ∃ ub, unB 4 lv t.toList.isEmpty d.toList.isEmpty ti.toList.isEmpty n = ub := ⟨_, rfl⟩
  have hu := fun wx => hasUnused_4 lv t d ti A n c wx hs.n
  rw [hub] at hu
  have HU := Lib.hid hu; clear hu
  have HUB := Lib.hid hub; clear hub
  obtain ⟨wb, hwb⟩ : ∃ wb, wbB 4 t d ti = wb := ⟨_, rfl⟩
  have hw := fun wx => hasWrongByte_any 4 lv t d ti A n c wx hs
  rw [hwb] at hw
  have HW := Lib.hid hw; clear hw
  have HWB := Lib.hid hwb; clear hwb
  clear hs
  have H1 := Lib.hid ((Below.refl w.heap.size w).alloc (Nat.le_refl _) (.cells #[.int .i64 4, .int .i64 lv, .string t, .string d, .string ti, .slice A n c] 47))
  go_enter Try.func41, Try.ntmps41
  go_wp2_with (first
    | (go_at_call 46; refine (HP.out _).mono ?_; rintro e w' ⟨rfl, rfl⟩)
    | (go_at_call 47; refine (HU.out _).mono ?_; rintro e w1 ⟨rfl, hb1⟩; have c0 := hb1.cell (p := ⟨w.heap.size, 0, none⟩) (by simp); have c1 := hb1.cell (p := ⟨w.heap.size, 1, none⟩) (by simp); have c2 := hb1.cell (p := ⟨w.heap.size, 2, none⟩) (by simp); have c3 := hb1.cell (p := ⟨w.heap.size, 3, none⟩) (by simp); have c4 := hb1.cell (p := ⟨w.heap.size, 4, none⟩) (by simp); have c5 := hb1.cell (p := ⟨w.heap.size, 5, none⟩) (by simp); simp at c0 c1 c2 c3 c4 c5; have H2 := Lib.hid (H1.out.trans (hb1.mono (by simp))); clear hb1)
    | (go_at_call 48; refine (HW.out _).mono ?_; rintro e w2 ⟨rfl, hb2⟩; have H3 := Lib.hid (H2.out.trans (hb2.mono H2.out.size)); clear hb2))
  all_goals go_ret
  all_goals first
    | refine ⟨retI ?_, H3.out⟩
    | refine ⟨retI ?_, H2.out⟩
    | refine ⟨retI ?_, H1.out⟩
  all_goals rw [nodeErr_of HF.out HUB.out HWB.out]
  all_goals try simp [rngB, *]
  all_goals first | omega | (intros; omega) | (split <;> omega)

set_option maxRecDepth 100000 in
set_option maxHeartbeats 1600000 in
theorem checkNode_5 (lv p : Int) (t d ti : ByteArray) (A : Option Addr) (n c : Nat) (w : World) (hf : fitB 5 p = true) (hs : Short t d ti n) :
    Calls Try.prog 41 #[.agg #[.int .i64 5, .int .i64 lv, .string t, .string d, .string ti, .slice A n c], .int .i64 p] w
      fun e w' => e = .returned (.int .i64 (nodeErr 5 lv t d ti n p)) ∧ Below w.heap.size w w' := by
  have hp := fun wx => fits_any 5 p wx
  rw [hf] at hp
  have HP := Lib.hid hp; clear hp
  have HF := Lib.hid hf; clear hf
  obtain ⟨ub, hub⟩ : ∃ ub, unB 5 lv t.toList.isEmpty d.toList.isEmpty ti.toList.isEmpty n = ub := ⟨_, rfl⟩
  have hu := fun wx => hasUnused_5 lv t d ti A n c wx hs.n
  rw [hub] at hu
  have HU := Lib.hid hu; clear hu
  have HUB := Lib.hid hub; clear hub
  obtain ⟨wb, hwb⟩ : ∃ wb, wbB 5 t d ti = wb := ⟨_, rfl⟩
  have hw := fun wx => hasWrongByte_any 5 lv t d ti A n c wx hs
  rw [hwb] at hw
  have HW := Lib.hid hw; clear hw
  have HWB := Lib.hid hwb; clear hwb
  clear hs
  have H1 := Lib.hid ((Below.refl w.heap.size w).alloc (Nat.le_refl _) (.cells #[.int .i64 5, .int .i64 lv, .string t, .string d, .string ti, .slice A n c] 47))
  go_enter Try.func41, Try.ntmps41
  go_wp2_with (first
    | (go_at_call 46; refine (HP.out _).mono ?_; rintro e w' ⟨rfl, rfl⟩)
    | (go_at_call 47; refine (HU.out _).mono ?_; rintro e w1 ⟨rfl, hb1⟩; have c0 := hb1.cell (p := ⟨w.heap.size, 0, none⟩) (by simp); have c1 := hb1.cell (p := ⟨w.heap.size, 1, none⟩) (by simp); have c2 := hb1.cell (p := ⟨w.heap.size, 2, none⟩) (by simp); have c3 := hb1.cell (p := ⟨w.heap.size, 3, none⟩) (by simp); have c4 := hb1.cell (p := ⟨w.heap.size, 4, none⟩) (by simp); have c5 := hb1.cell (p := ⟨w.heap.size, 5, none⟩) (by simp); simp at c0 c1 c2 c3 c4 c5; have H2 := Lib.hid (H1.out.trans (hb1.mono (by simp))); clear hb1)
    | (go_at_call 48; refine (HW.out _).mono ?_; rintro e w2 ⟨rfl, hb2⟩; have H3 := Lib.hid (H2.out.trans (hb2.mono H2.out.size)); clear hb2))
  all_goals go_ret
  all_goals first
    | refine ⟨retI ?_, H3.out⟩
    | refine ⟨retI ?_, H2.out⟩
    | refine ⟨retI ?_, H1.out⟩
  all_goals rw [nodeErr_of HF.out HUB.out HWB.out]
  all_goals try simp [rngB, *]
  all_goals first | omega | (intros; omega) | (split <;> omega)

set_option maxRecDepth 100000 in
set_option maxHeartbeats 1600000 in
theorem checkNode_6 (lv p : Int) (t d ti : ByteArray) (A : Option Addr) (n c : Nat) (w : World) (hf : fitB 6 p = true) (hs : Short t d ti n) :
    Calls Try.prog 41 #[.agg #[.int .i64 6, .int .i64 lv, .string t, .string d, .string ti, .slice A n c], .int .i64 p] w
      fun e w' => e = .returned (.int .i64 (nodeErr 6 lv t d ti n p)) ∧ Below w.heap.size w w' := by
  have hp := fun wx => fits_any 6 p wx
  rw [hf] at hp
  have HP := Lib.hid hp; clear hp
  have HF := Lib.hid hf; clear hf
  obtain ⟨ub, hub⟩ : ∃ ub, unB 6 lv t.toList.isEmpty d.toList.isEmpty ti.toList.isEmpty n = ub := ⟨_, rfl⟩
  have hu := fun wx => hasUnused_6 lv t d ti A n c wx hs.n
  rw [hub] at hu
  have HU := Lib.hid hu; clear hu
  have HUB := Lib.hid hub; clear hub
  obtain ⟨wb, hwb⟩ : ∃ wb, wbB 6 t d ti = wb := ⟨_, rfl⟩
  have hw := fun wx => hasWrongByte_any 6 lv t d ti A n c wx hs
  rw [hwb] at hw
  have HW := Lib.hid hw; clear hw
  have HWB := Lib.hid hwb; clear hwb
  clear hs
  have H1 := Lib.hid ((Below.refl w.heap.size w).alloc (Nat.le_refl _) (.cells #[.int .i64 6, .int .i64 lv, .string t, .string d, .string ti, .slice A n c] 47))
  go_enter Try.func41, Try.ntmps41
  go_wp2_with (first
    | (go_at_call 46; refine (HP.out _).mono ?_; rintro e w' ⟨rfl, rfl⟩)
    | (go_at_call 47; refine (HU.out _).mono ?_; rintro e w1 ⟨rfl, hb1⟩; have c0 := hb1.cell (p := ⟨w.heap.size, 0, none⟩) (by simp); have c1 := hb1.cell (p := ⟨w.heap.size, 1, none⟩) (by simp); have c2 := hb1.cell (p := ⟨w.heap.size, 2, none⟩) (by simp); have c3 := hb1.cell (p := ⟨w.heap.size, 3, none⟩) (by simp); have c4 := hb1.cell (p := ⟨w.heap.size, 4, none⟩) (by simp); have c5 := hb1.cell (p := ⟨w.heap.size, 5, none⟩) (by simp); simp at c0 c1 c2 c3 c4 c5; have H2 := Lib.hid (H1.out.trans (hb1.mono (by simp))); clear hb1)
    | (go_at_call 48; refine (HW.out _).mono ?_; rintro e w2 ⟨rfl, hb2⟩; have H3 := Lib.hid (H2.out.trans (hb2.mono H2.out.size)); clear hb2))
  all_goals go_ret
  all_goals first
    | refine ⟨retI ?_, H3.out⟩
    | refine ⟨retI ?_, H2.out⟩
    | refine ⟨retI ?_, H1.out⟩
  all_goals rw [nodeErr_of HF.out HUB.out HWB.out]
  all_goals try simp [rngB, *]
  all_goals first | omega | (intros; omega) | (split <;> omega)

set_option maxRecDepth 100000 in
set_option maxHeartbeats 1600000 in
theorem checkNode_7 (lv p : Int) (t d ti : ByteArray) (A : Option Addr) (n c : Nat) (w : World) (hf : fitB 7 p = true) (hs : Short t d ti n) :
    Calls Try.prog 41 #[.agg #[.int .i64 7, .int .i64 lv, .string t, .string d, .string ti, .slice A n c], .int .i64 p] w
      fun e w' => e = .returned (.int .i64 (nodeErr 7 lv t d ti n p)) ∧ Below w.heap.size w w' := by
  have hp := fun wx => fits_any 7 p wx
  rw [hf] at hp
  have HP := Lib.hid hp; clear hp
  have HF := Lib.hid hf; clear hf
  obtain ⟨ub, hub⟩ : ∃ ub, unB 7 lv t.toList.isEmpty d.toList.isEmpty ti.toList.isEmpty n = ub := ⟨_, rfl⟩
  have hu := fun wx => hasUnused_7 lv t d ti A n c wx hs.n
  rw [hub] at hu
  have HU := Lib.hid hu; clear hu
  have HUB := Lib.hid hub; clear hub
  obtain ⟨wb, hwb⟩ : ∃ wb, wbB 7 t d ti = wb := ⟨_, rfl⟩
  have hw := fun wx => hasWrongByte_any 7 lv t d ti A n c wx hs
  rw [hwb] at hw
  have HW := Lib.hid hw; clear hw
  have HWB := Lib.hid hwb; clear hwb
  clear hs
  have H1 := Lib.hid ((Below.refl w.heap.size w).alloc (Nat.le_refl _) (.cells #[.int .i64 7, .int .i64 lv, .string t, .string d, .string ti, .slice A n c] 47))
  go_enter Try.func41, Try.ntmps41
  go_wp2_with (first
    | (go_at_call 46; refine (HP.out _).mono ?_; rintro e w' ⟨rfl, rfl⟩)
    | (go_at_call 47; refine (HU.out _).mono ?_; rintro e w1 ⟨rfl, hb1⟩; have c0 := hb1.cell (p := ⟨w.heap.size, 0, none⟩) (by simp); have c1 := hb1.cell (p := ⟨w.heap.size, 1, none⟩) (by simp); have c2 := hb1.cell (p := ⟨w.heap.size, 2, none⟩) (by simp); have c3 := hb1.cell (p := ⟨w.heap.size, 3, none⟩) (by simp); have c4 := hb1.cell (p := ⟨w.heap.size, 4, none⟩) (by simp); have c5 := hb1.cell (p := ⟨w.heap.size, 5, none⟩) (by simp); simp at c0 c1 c2 c3 c4 c5; have H2 := Lib.hid (H1.out.trans (hb1.mono (by simp))); clear hb1)
    | (go_at_call 48; refine (HW.out _).mono ?_; rintro e w2 ⟨rfl, hb2⟩; have H3 := Lib.hid (H2.out.trans (hb2.mono H2.out.size)); clear hb2))
  all_goals go_ret
  all_goals first
    | refine ⟨retI ?_, H3.out⟩
    | refine ⟨retI ?_, H2.out⟩
    | refine ⟨retI ?_, H1.out⟩
  all_goals rw [nodeErr_of HF.out HUB.out HWB.out]
  all_goals try simp [rngB, *]
  all_goals first | omega | (intros; omega) | (split <;> omega)

set_option maxRecDepth 100000 in
set_option maxHeartbeats 1600000 in
theorem checkNode_8 (lv p : Int) (t d ti : ByteArray) (A : Option Addr) (n c : Nat) (w : World) (hf : fitB 8 p = true) (hs : Short t d ti n) :
    Calls Try.prog 41 #[.agg #[.int .i64 8, .int .i64 lv, .string t, .string d, .string ti, .slice A n c], .int .i64 p] w
      fun e w' => e = .returned (.int .i64 (nodeErr 8 lv t d ti n p)) ∧ Below w.heap.size w w' := by
  have hp := fun wx => fits_any 8 p wx
  rw [hf] at hp
  have HP := Lib.hid hp; clear hp
  have HF := Lib.hid hf; clear hf
  obtain ⟨ub, hub⟩ : ∃ ub, unB 8 lv t.toList.isEmpty d.toList.isEmpty ti.toList.isEmpty n = ub := ⟨_, rfl⟩
  have hu := fun wx => hasUnused_8 lv t d ti A n c wx hs.n
  rw [hub] at hu
  have HU := Lib.hid hu; clear hu
  have HUB := Lib.hid hub; clear hub
  obtain ⟨wb, hwb⟩ : ∃ wb, wbB 8 t d ti = wb := ⟨_, rfl⟩
  have hw := fun wx => hasWrongByte_any 8 lv t d ti A n c wx hs
  rw [hwb] at hw
  have HW := Lib.hid hw; clear hw
  have HWB := Lib.hid hwb; clear hwb
  clear hs
  have H1 := Lib.hid ((Below.refl w.heap.size w).alloc (Nat.le_refl _) (.cells #[.int .i64 8, .int .i64 lv, .string t, .string d, .string ti, .slice A n c] 47))
  go_enter Try.func41, Try.ntmps41
  go_wp2_with (first
    | (go_at_call 46; refine (HP.out _).mono ?_; rintro e w' ⟨rfl, rfl⟩)
    | (go_at_call 47; refine (HU.out _).mono ?_; rintro e w1 ⟨rfl, hb1⟩; have c0 := hb1.cell (p := ⟨w.heap.size, 0, none⟩) (by simp); have c1 := hb1.cell (p := ⟨w.heap.size, 1, none⟩) (by simp); have c2 := hb1.cell (p := ⟨w.heap.size, 2, none⟩) (by simp); have c3 := hb1.cell (p := ⟨w.heap.size, 3, none⟩) (by simp); have c4 := hb1.cell (p := ⟨w.heap.size, 4, none⟩) (by simp); have c5 := hb1.cell (p := ⟨w.heap.size, 5, none⟩) (by simp); simp at c0 c1 c2 c3 c4 c5; have H2 := Lib.hid (H1.out.trans (hb1.mono (by simp))); clear hb1)
    | (go_at_call 48; refine (HW.out _).mono ?_; rintro e w2 ⟨rfl, hb2⟩; have H3 := Lib.hid (H2.out.trans (hb2.mono H2.out.size)); clear hb2))
  all_goals go_ret
  all_goals first
    | refine ⟨retI ?_, H3.out⟩
    | refine ⟨retI ?_, H2.out⟩
    | refine ⟨retI ?_, H1.out⟩
  all_goals rw [nodeErr_of HF.out HUB.out HWB.out]
  all_goals try simp [rngB, *]
  all_goals first | omega | (intros; omega) | (split <;> omega)

set_option maxRecDepth 100000 in
set_option maxHeartbeats 1600000 in
theorem checkNode_9 (lv p : Int) (t d ti : ByteArray) (A : Option Addr) (n c : Nat) (w : World) (hf : fitB 9 p = true) (hs : Short t d ti n) :
    Calls Try.prog 41 #[.agg #[.int .i64 9, .int .i64 lv, .string t, .string d, .string ti, .slice A n c], .int .i64 p] w
      fun e w' => e = .returned (.int .i64 (nodeErr 9 lv t d ti n p)) ∧ Below w.heap.size w w' := by
  have hp := fun wx => fits_any 9 p wx
  rw [hf] at hp
  have HP := Lib.hid hp; clear hp
  have HF := Lib.hid hf; clear hf
  obtain ⟨ub, hub⟩ : ∃ ub, unB 9 lv t.toList.isEmpty d.toList.isEmpty ti.toList.isEmpty n = ub := ⟨_, rfl⟩
  have hu := fun wx => hasUnused_9 lv t d ti A n c wx hs.n
  rw [hub] at hu
  have HU := Lib.hid hu; clear hu
  have HUB := Lib.hid hub; clear hub
  obtain ⟨wb, hwb⟩ : ∃ wb, wbB 9 t d ti = wb := ⟨_, rfl⟩
  have hw := fun wx => hasWrongByte_any 9 lv t d ti A n c wx hs
  rw [hwb] at hw
  have HW := Lib.hid hw; clear hw
  have HWB := Lib.hid hwb; clear hwb
  clear hs
  have H1 := Lib.hid ((Below.refl w.heap.size w).alloc (Nat.le_refl _) (.cells #[.int .i64 9, .int .i64 lv, .string t, .string d, .string ti, .slice A n c] 47))
  go_enter Try.func41, Try.ntmps41
  go_wp2_with (first
    | (go_at_call 46; refine (HP.out _).mono ?_; rintro e w' ⟨rfl, rfl⟩)
    | (go_at_call 47; refine (HU.out _).mono ?_; rintro e w1 ⟨rfl, hb1⟩; have c0 := hb1.cell (p := ⟨w.heap.size, 0, none⟩) (by simp); have c1 := hb1.cell (p := ⟨w.heap.size, 1, none⟩) (by simp); have c2 := hb1.cell (p := ⟨w.heap.size, 2, none⟩) (by simp); have c3 := hb1.cell (p := ⟨w.heap.size, 3, none⟩) (by simp); have c4 := hb1.cell (p := ⟨w.heap.size, 4, none⟩) (by simp); have c5 := hb1.cell (p := ⟨w.heap.size, 5, none⟩) (by simp); simp at c0 c1 c2 c3 c4 c5; have H2 := Lib.hid (H1.out.trans (hb1.mono (by simp))); clear hb1)
    | (go_at_call 48; refine (HW.out _).mono ?_; rintro e w2 ⟨rfl, hb2⟩; have H3 := Lib.hid (H2.out.trans (hb2.mono H2.out.size)); clear hb2))
  all_goals go_ret
  all_goals first
    | refine ⟨retI ?_, H3.out⟩
    | refine ⟨retI ?_, H2.out⟩
    | refine ⟨retI ?_, H1.out⟩
  all_goals rw [nodeErr_of HF.out HUB.out HWB.out]
  all_goals try simp [rngB, *]
  all_goals first | omega | (intros; omega) | (split <;> omega)

set_option maxRecDepth 100000 in
set_option maxHeartbeats 1600000 in
theorem checkNode_10 (lv p : Int) (t d ti : ByteArray) (A : Option Addr) (n c : Nat) (w : World) (hf : fitB 10 p = true) (hs : Short t d ti n) :
    Calls Try.prog 41 #[.agg #[.int .i64 10, .int .i64 lv, .string t, .string d, .string ti, .slice A n c], .int .i64 p] w
      fun e w' => e = .returned (.int .i64 (nodeErr 10 lv t d ti n p)) ∧ Below w.heap.size w w' := by
  have hp := fun wx => fits_any 10 p wx
  rw [hf] at hp
  have HP := Lib.hid hp; clear hp
  have HF := Lib.hid hf; clear hf
  obtain ⟨ub, hub⟩ : ∃ ub, unB 10 lv t.toList.isEmpty d.toList.isEmpty ti.toList.isEmpty n = ub := ⟨_, rfl⟩
  have hu := fun wx => hasUnused_10 lv t d ti A n c wx hs.n
  rw [hub] at hu
  have HU := Lib.hid hu; clear hu
  have HUB := Lib.hid hub; clear hub
  obtain ⟨wb, hwb⟩ : ∃ wb, wbB 10 t d ti = wb := ⟨_, rfl⟩
  have hw := fun wx => hasWrongByte_any 10 lv t d ti A n c wx hs
  rw [hwb] at hw
  have HW := Lib.hid hw; clear hw
  have HWB := Lib.hid hwb; clear hwb
  clear hs
  have H1 := Lib.hid ((Below.refl w.heap.size w).alloc (Nat.le_refl _) (.cells #[.int .i64 10, .int .i64 lv, .string t, .string d, .string ti, .slice A n c] 47))
  go_enter Try.func41, Try.ntmps41
  go_wp2_with (first
    | (go_at_call 46; refine (HP.out _).mono ?_; rintro e w' ⟨rfl, rfl⟩)
    | (go_at_call 47; refine (HU.out _).mono ?_; rintro e w1 ⟨rfl, hb1⟩; have c0 := hb1.cell (p := ⟨w.heap.size, 0, none⟩) (by simp); have c1 := hb1.cell (p := ⟨w.heap.size, 1, none⟩) (by simp); have c2 := hb1.cell (p := ⟨w.heap.size, 2, none⟩) (by simp); have c3 := hb1.cell (p := ⟨w.heap.size, 3, none⟩) (by simp); have c4 := hb1.cell (p := ⟨w.heap.size, 4, none⟩) (by simp); have c5 := hb1.cell (p := ⟨w.heap.size, 5, none⟩) (by simp); simp at c0 c1 c2 c3 c4 c5; have H2 := Lib.hid (H1.out.trans (hb1.mono (by simp))); clear hb1)
    | (go_at_call 48; refine (HW.out _).mono ?_; rintro e w2 ⟨rfl, hb2⟩; have H3 := Lib.hid (H2.out.trans (hb2.mono H2.out.size)); clear hb2))
  all_goals go_ret
  all_goals first
    | refine ⟨retI ?_, H3.out⟩
    | refine ⟨retI ?_, H2.out⟩
    | refine ⟨retI ?_, H1.out⟩
  all_goals rw [nodeErr_of HF.out HUB.out HWB.out]
  all_goals try simp [rngB, *]
  all_goals first | omega | (intros; omega) | (split <;> omega)

set_option maxRecDepth 100000 in
set_option maxHeartbeats 1600000 in
theorem checkNode_11 (lv p : Int) (t d ti : ByteArray) (A : Option Addr) (n c : Nat) (w : World) (hf : fitB 11 p = true) (hs : Short t d ti n) :
    Calls Try.prog 41 #[.agg #[.int .i64 11, .int .i64 lv, .string t, .string d, .string ti, .slice A n c], .int .i64 p] w
      fun e w' => e = .returned (.int .i64 (nodeErr 11 lv t d ti n p)) ∧ Below w.heap.size w w' := by
  have hp := fun wx => fits_any 11 p wx
  rw [hf] at hp
  have HP := Lib.hid hp; clear hp
  have HF := Lib.hid hf; clear hf
  obtain ⟨ub, hub⟩ : ∃ ub, unB 11 lv t.toList.isEmpty d.toList.isEmpty ti.toList.isEmpty n = ub := ⟨_, rfl⟩
  have hu := fun wx => hasUnused_11 lv t d ti A n c wx hs.n
  rw [hub] at hu
  have HU := Lib.hid hu; clear hu
  have HUB := Lib.hid hub; clear hub
  obtain ⟨wb, hwb⟩ : ∃ wb, wbB 11 t d ti = wb := ⟨_, rfl⟩
  have hw := fun wx => hasWrongByte_any 11 lv t d ti A n c wx hs
  rw [hwb] at hw
  have HW := Lib.hid hw; clear hw
  have HWB := Lib.hid hwb; clear hwb
  clear hs
  have H1 := Lib.hid ((Below.refl w.heap.size w).alloc (Nat.le_refl _) (.cells #[.int .i64 11, .int .i64 lv, .string t, .string d, .string ti, .slice A n c] 47))
  go_enter Try.func41, Try.ntmps41
  go_wp2_with (first
    | (go_at_call 46; refine (HP.out _).mono ?_; rintro e w' ⟨rfl, rfl⟩)
    | (go_at_call 47; refine (HU.out _).mono ?_; rintro e w1 ⟨rfl, hb1⟩; have c0 := hb1.cell (p := ⟨w.heap.size, 0, none⟩) (by simp); have c1 := hb1.cell (p := ⟨w.heap.size, 1, none⟩) (by simp); have c2 := hb1.cell (p := ⟨w.heap.size, 2, none⟩) (by simp); have c3 := hb1.cell (p := ⟨w.heap.size, 3, none⟩) (by simp); have c4 := hb1.cell (p := ⟨w.heap.size, 4, none⟩) (by simp); have c5 := hb1.cell (p := ⟨w.heap.size, 5, none⟩) (by simp); simp at c0 c1 c2 c3 c4 c5; have H2 := Lib.hid (H1.out.trans (hb1.mono (by simp))); clear hb1)
    | (go_at_call 48; refine (HW.out _).mono ?_; rintro e w2 ⟨rfl, hb2⟩; have H3 := Lib.hid (H2.out.trans (hb2.mono H2.out.size)); clear hb2))
  all_goals go_ret
  all_goals first
    | refine ⟨retI ?_, H3.out⟩
    | refine ⟨retI ?_, H2.out⟩
    | refine ⟨retI ?_, H1.out⟩
  all_goals rw [nodeErr_of HF.out HUB.out HWB.out]
  all_goals try simp [rngB, *]
  all_goals first | omega | (intros; omega) | (split <;> omega)

set_option maxRecDepth 100000 in
set_option maxHeartbeats 1600000 in
theorem checkNode_12 (lv p : Int) (t d ti : ByteArray) (A : Option Addr) (n c : Nat) (w : World) (hf : fitB 12 p = true) (hs : Short t d ti n) :
    Calls Try.prog 41 #[.agg #[.int .i64 12, .int .i64 lv, .string t, .string d, .string ti, .slice A n c], .int .i64 p] w
      fun e w' => e = .returned (.int .i64 (nodeErr 12 lv t d ti n p)) ∧ Below w.heap.size w w' := by
  have hp := fun wx => fits_any 12 p wx
  rw [hf] at hp
  have HP := Lib.hid hp; clear hp
  have HF := Lib.hid hf; clear hf
  obtain ⟨ub, hub⟩ : ∃ ub, unB 12 lv t.toList.isEmpty d.toList.isEmpty ti.toList.isEmpty n = ub := ⟨_, rfl⟩
  have hu := fun wx => hasUnused_12 lv t d ti A n c wx hs.n
  rw [hub] at hu
  have HU := Lib.hid hu; clear hu
  have HUB := Lib.hid hub; clear hub
  obtain ⟨wb, hwb⟩ : ∃ wb, wbB 12 t d ti = wb := ⟨_, rfl⟩
  have hw := fun wx => hasWrongByte_any 12 lv t d ti A n c wx hs
  rw [hwb] at hw
  have HW := Lib.hid hw; clear hw
  have HWB := Lib.hid hwb; clear hwb
  clear hs
  have H1 := Lib.hid ((Below.refl w.heap.size w).alloc (Nat.le_refl _) (.cells #[.int .i64 12, .int .i64 lv, .string t, .string d, .string ti, .slice A n c] 47))
  go_enter Try.func41, Try.ntmps41
  go_wp2_with (first
    | (go_at_call 46; refine (HP.out _).mono ?_; rintro e w' ⟨rfl, rfl⟩)
    | (go_at_call 47; refine (HU.out _).mono ?_; rintro e w1 ⟨rfl, hb1⟩; have c0 := hb1.cell (p := ⟨w.heap.size, 0, none⟩) (by simp); have c1 := hb1.cell (p := ⟨w.heap.size, 1, none⟩) (by simp); have c2 := hb1.cell (p := ⟨w.heap.size, 2, none⟩) (by simp); have c3 := hb1.cell (p := ⟨w.heap.size, 3, none⟩) (by simp); have c4 := hb1.cell (p := ⟨w.heap.size, 4, none⟩) (by simp); have c5 := hb1.cell (p := ⟨w.heap.size, 5, none⟩) (by simp); simp at c0 c1 c2 c3 c4 c5; have H2 := Lib.hid (H1.out.trans (hb1.mono (by simp))); clear hb1)
    | (go_at_call 48; refine (HW.out _).mono ?_; rintro e w2 ⟨rfl, hb2⟩; have H3 := Lib.hid (H2.out.trans (hb2.mono H2.out.size)); clear hb2))
  all_goals go_ret
  all_goals first
    | refine ⟨retI ?_, H3.out⟩
    | refine ⟨retI ?_, H2.out⟩
    | refine ⟨retI ?_, H1.out⟩
  all_goals rw [nodeErr_of HF.out HUB.out HWB.out]
  all_goals try simp [rngB, *]
  all_goals first | omega | (intros; omega) | (split <;> omega)

set_option maxRecDepth 100000 in
set_option maxHeartbeats 1600000 in
theorem checkNode_13 (lv p : Int) (t d ti : ByteArray) (A : Option Addr) (n c : Nat) (w : World) (hf : fitB 13 p = true) (hs : Short t d ti n) :
    Calls Try.prog 41 #[.agg #[.int .i64 13, .int .i64 lv, .string t, .string d, .string ti, .slice A n c], .int .i64 p] w
      fun e w' => e = .returned (.int .i64 (nodeErr 13 lv t d ti n p)) ∧ Below w.heap.size w w' := by
  have hp := fun wx => fits_any 13 p wx
  rw [hf] at hp
  have HP := Lib.hid hp; clear hp
  have HF := Lib.hid hf; clear hf
  obtain ⟨ub, hub⟩ : ∃ ub, unB 13 lv t.toList.isEmpty d.toList.isEmpty ti.toList.isEmpty n = ub := ⟨_, rfl⟩
  have hu := fun wx => hasUnused_13 lv t d ti A n c wx hs.n
  rw [hub] at hu
  have HU := Lib.hid hu; clear hu
  have HUB := Lib.hid hub; clear hub
  obtain ⟨wb, hwb⟩ : ∃ wb, wbB 13 t d ti = wb := ⟨_, rfl⟩
  have hw := fun wx => hasWrongByte_any 13 lv t d ti A n c wx hs
  rw [hwb] at hw
  have HW := Lib.hid hw; clear hw
  have HWB := Lib.hid hwb; clear hwb
  clear hs
  have H1 := Lib.hid ((Below.refl w.heap.size w).alloc (Nat.le_refl _) (.cells #[.int .i64 13, .int .i64 lv, .string t, .string d, .string ti, .slice A n c] 47))
  go_enter Try.func41, Try.ntmps41
  go_wp2_with (first
    | (go_at_call 46; refine (HP.out _).mono ?_; rintro e w' ⟨rfl, rfl⟩)
    | (go_at_call 47; refine (HU.out _).mono ?_; rintro e w1 ⟨rfl, hb1⟩; have c0 := hb1.cell (p := ⟨w.heap.size, 0, none⟩) (by simp); have c1 := hb1.cell (p := ⟨w.heap.size, 1, none⟩) (by simp); have c2 := hb1.cell (p := ⟨w.heap.size, 2, none⟩) (by simp); have c3 := hb1.cell (p := ⟨w.heap.size, 3, none⟩) (by simp); have c4 := hb1.cell (p := ⟨w.heap.size, 4, none⟩) (by simp); have c5 := hb1.cell (p := ⟨w.heap.size, 5, none⟩) (by simp); simp at c0 c1 c2 c3 c4 c5; have H2 := Lib.hid (H1.out.trans (hb1.mono (by simp))); clear hb1)
    | (go_at_call 48; refine (HW.out _).mono ?_; rintro e w2 ⟨rfl, hb2⟩; have H3 := Lib.hid (H2.out.trans (hb2.mono H2.out.size)); clear hb2))
  all_goals go_ret
  all_goals first
    | refine ⟨retI ?_, H3.out⟩
    | refine ⟨retI ?_, H2.out⟩
    | refine ⟨retI ?_, H1.out⟩
  all_goals rw [nodeErr_of HF.out HUB.out HWB.out]
  all_goals try simp [rngB, *]
  all_goals first | omega | (intros; omega) | (split <;> omega)

set_option maxRecDepth 100000 in
set_option maxHeartbeats 1600000 in
theorem checkNode_14 (lv p : Int) (t d ti : ByteArray) (A : Option Addr) (n c : Nat) (w : World) (hf : fitB 14 p = true) (hs : Short t d ti n) :
    Calls Try.prog 41 #[.agg #[.int .i64 14, .int .i64 lv, .string t, .string d, .string ti, .slice A n c], .int .i64 p] w
      fun e w' => e = .returned (.int .i64 (nodeErr 14 lv t d ti n p)) ∧ Below w.heap.size w w' := by
  have hp := fun wx => fits_any 14 p wx
  rw [hf] at hp
  have HP := Lib.hid hp; clear hp
  have HF := Lib.hid hf; clear hf
  obtain ⟨ub, hub⟩ : ∃ ub, unB 14 lv t.toList.isEmpty d.toList.isEmpty ti.toList.isEmpty n = ub := ⟨_, rfl⟩
  have hu := fun wx => hasUnused_14 lv t d ti A n c wx hs.n
  rw [hub] at hu
  have HU := Lib.hid hu; clear hu
  have HUB := Lib.hid hub; clear hub
  obtain ⟨wb, hwb⟩ : ∃ wb, wbB 14 t d ti = wb := ⟨_, rfl⟩
  have hw := fun wx => hasWrongByte_any 14 lv t d ti A n c wx hs
  rw [hwb] at hw
  have HW := Lib.hid hw; clear hw
  have HWB := Lib.hid hwb; clear hwb
  clear hs
  have H1 := Lib.hid ((Below.refl w.heap.size w).alloc (Nat.le_refl _) (.cells #[.int .i64 14, .int .i64 lv, .string t, .string d, .string ti, .slice A n c] 47))
  go_enter Try.func41, Try.ntmps41
  go_wp2_with (first
    | (go_at_call 46; refine (HP.out _).mono ?_; rintro e w' ⟨rfl, rfl⟩)
    | (go_at_call 47; refine (HU.out _).mono ?_; rintro e w1 ⟨rfl, hb1⟩; have c0 := hb1.cell (p := ⟨w.heap.size, 0, none⟩) (by simp); have c1 := hb1.cell (p := ⟨w.heap.size, 1, none⟩) (by simp); have c2 := hb1.cell (p := ⟨w.heap.size, 2, none⟩) (by simp); have c3 := hb1.cell (p := ⟨w.heap.size, 3, none⟩) (by simp); have c4 := hb1.cell (p := ⟨w.heap.size, 4, none⟩) (by simp); have c5 := hb1.cell (p := ⟨w.heap.size, 5, none⟩) (by simp); simp at c0 c1 c2 c3 c4 c5; have H2 := Lib.hid (H1.out.trans (hb1.mono (by simp))); clear hb1)
    | (go_at_call 48; refine (HW.out _).mono ?_; rintro e w2 ⟨rfl, hb2⟩; have H3 := Lib.hid (H2.out.trans (hb2.mono H2.out.size)); clear hb2))
  all_goals go_ret
  all_goals first
    | refine ⟨retI ?_, H3.out⟩
    | refine ⟨retI ?_, H2.out⟩
    | refine ⟨retI ?_, H1.out⟩
  all_goals rw [nodeErr_of HF.out HUB.out HWB.out]
  all_goals try simp [rngB, *]
  all_goals first | omega | (intros; omega) | (split <;> omega)

set_option maxRecDepth 100000 in
set_option maxHeartbeats 1600000 in
theorem checkNode_15 (lv p : Int) (t d ti : ByteArray) (A : Option Addr) (n c : Nat) (w : World) (hf : fitB 15 p = true) (hs : Short t d ti n) :
    Calls Try.prog 41 #[.agg #[.int .i64 15, .int .i64 lv, .string t, .string d, .string ti, .slice A n c], .int .i64 p] w
      fun e w' => e = .returned (.int .i64 (nodeErr 15 lv t d ti n p)) ∧ Below w.heap.size w w' := by
  have hp := fun wx => fits_any 15 p wx
  rw [hf] at hp
  have HP := Lib.hid hp; clear hp
  have HF := Lib.hid hf; clear hf
  obtain ⟨ub, hub⟩ : ∃ ub, unB 15 lv t.toList.isEmpty d.toList.isEmpty ti.toList.isEmpty n = ub := ⟨_, rfl⟩
  have hu := fun wx => hasUnused_15 lv t d ti A n c wx hs.n
  rw [hub] at hu
  have HU := Lib.hid hu; clear hu
  have HUB := Lib.hid hub; clear hub
  obtain ⟨wb, hwb⟩ : ∃ wb, wbB 15 t d ti = wb := ⟨_, rfl⟩
  have hw := fun wx => hasWrongByte_any 15 lv t d ti A n c wx hs
  rw [hwb] at hw
  have HW := Lib.hid hw; clear hw
  have HWB := Lib.hid hwb; clear hwb
  clear hs
  have H1 := Lib.hid ((Below.refl w.heap.size w).alloc (Nat.le_refl _) (.cells #[.int .i64 15, .int .i64 lv, .string t, .string d, .string ti, .slice A n c] 47))
  go_enter Try.func41, Try.ntmps41
  go_wp2_with (first
    | (go_at_call 46; refine (HP.out _).mono ?_; rintro e w' ⟨rfl, rfl⟩)
    | (go_at_call 47; refine (HU.out _).mono ?_; rintro e w1 ⟨rfl, hb1⟩; have c0 := hb1.cell (p := ⟨w.heap.size, 0, none⟩) (by simp); have c1 := hb1.cell (p := ⟨w.heap.size, 1, none⟩) (by simp); have c2 := hb1.cell (p := ⟨w.heap.size, 2, none⟩) (by simp); have c3 := hb1.cell (p := ⟨w.heap.size, 3, none⟩) (by simp); have c4 := hb1.cell (p := ⟨w.heap.size, 4, none⟩) (by simp); have c5 := hb1.cell (p := ⟨w.heap.size, 5, none⟩) (by simp); simp at c0 c1 c2 c3 c4 c5; have H2 := Lib.hid (H1.out.trans (hb1.mono (by simp))); clear hb1)
    | (go_at_call 48; refine (HW.out _).mono ?_; rintro e w2 ⟨rfl, hb2⟩; have H3 := Lib.hid (H2.out.trans (hb2.mono H2.out.size)); clear hb2))
  all_goals go_ret
  all_goals first
    | refine ⟨retI ?_, H3.out⟩
    | refine ⟨retI ?_, H2.out⟩
    | refine ⟨retI ?_, H1.out⟩
  all_goals rw [nodeErr_of HF.out HUB.out HWB.out]
  all_goals try simp [rngB, *]
  all_goals first | omega | (intros; omega) | (split <;> omega)

set_option maxRecDepth 100000 in
set_option maxHeartbeats 1600000 in
theorem checkNode_16 (lv p : Int) (t d ti : ByteArray) (A : Option Addr) (n c : Nat) (w : World) (hf : fitB 16 p = true) (hs : Short t d ti n) :
    Calls Try.prog 41 #[.agg #[.int .i64 16, .int .i64 lv, .string t, .string d, .string ti, .slice A n c], .int .i64 p] w
      fun e w' => e = .returned (.int .i64 (nodeErr 16 lv t d ti n p)) ∧ Below w.heap.size w w' := by
  have hp := fun wx => fits_any 16 p wx
  rw [hf] at hp
  have HP := Lib.hid hp; clear hp
  have HF := Lib.hid hf; clear hf
  obtain ⟨ub, hub⟩ : ∃ ub, unB 16 lv t.toList.isEmpty d.toList.isEmpty ti.toList.isEmpty n = ub := ⟨_, rfl⟩
  have hu := fun wx => hasUnused_16 lv t d ti A n c wx hs.n
  rw [hub] at hu
  have HU := Lib.hid hu; clear hu
  have HUB := Lib.hid hub; clear hub
  obtain ⟨wb, hwb⟩ : ∃ wb, wbB 16 t d ti = wb := ⟨_, rfl⟩
  have hw := fun wx => hasWrongByte_any 16 lv t d ti A n c wx hs
  rw [hwb] at hw
  have HW := Lib.hid hw; clear hw
  have HWB := Lib.hid hwb; clear hwb
  clear hs
  have H1 := Lib.hid ((Below.refl w.heap.size w).alloc (Nat.le_refl _) (.cells #[.int .i64 16, .int .i64 lv, .string t, .string d, .string ti, .slice A n c] 47))
  go_enter Try.func41, Try.ntmps41
  go_wp2_with (first
    | (go_at_call 46; refine (HP.out _).mono ?_; rintro e w' ⟨rfl, rfl⟩)
    | (go_at_call 47; refine (HU.out _).mono ?_; rintro e w1 ⟨rfl, hb1⟩; have c0 := hb1.cell (p := ⟨w.heap.size, 0, none⟩) (by simp); have c1 := hb1.cell (p := ⟨w.heap.size, 1, none⟩) (by simp); have c2 := hb1.cell (p := ⟨w.heap.size, 2, none⟩) (by simp); have c3 := hb1.cell (p := ⟨w.heap.size, 3, none⟩) (by simp); have c4 := hb1.cell (p := ⟨w.heap.size, 4, none⟩) (by simp); have c5 := hb1.cell (p := ⟨w.heap.size, 5, none⟩) (by simp); simp at c0 c1 c2 c3 c4 c5; have H2 := Lib.hid (H1.out.trans (hb1.mono (by simp))); clear hb1)
    | (go_at_call 48; refine (HW.out _).mono ?_; rintro e w2 ⟨rfl, hb2⟩; have H3 := Lib.hid (H2.out.trans (hb2.mono H2.out.size)); clear hb2))
  all_goals go_ret
  all_goals first
    | refine ⟨retI ?_, H3.out⟩
    | refine ⟨retI ?_, H2.out⟩
    | refine ⟨retI ?_, H1.out⟩
  all_goals rw [nodeErr_of HF.out HUB.out HWB.out]
  all_goals try simp [rngB, *]
  all_goals first | omega | (intros; omega) | (split <;> omega)

set_option maxRecDepth 100000 in
set_option maxHeartbeats 1600000 in
theorem checkNode_17 (lv p : Int) (t d ti : ByteArray) (A : Option Addr) (n c : Nat) (w : World) (hf : fitB 17 p = true) (hs : Short t d ti n) :
    Calls Try.prog 41 #[.agg #[.int .i64 17, .int .i64 lv, .string t, .string d, .string ti, .slice A n c], .int .i64 p] w
      fun e w' => e = .returned (.int .i64 (nodeErr 17 lv t d ti n p)) ∧ Below w.heap.size w w' := by
  have hp := fun wx => fits_any 17 p wx
  rw [hf] at hp
  have HP := Lib.hid hp; clear hp
  have HF := Lib.hid hf; clear hf
  obtain ⟨ub, hub⟩ : ∃ ub, unB 17 lv t.toList.isEmpty d.toList.isEmpty ti.toList.isEmpty n = ub := ⟨_, rfl⟩
  have hu := fun wx => hasUnused_17 lv t d ti A n c wx hs.n
  rw [hub] at hu
  have HU := Lib.hid hu; clear hu
  have HUB := Lib.hid hub; clear hub
  obtain ⟨wb, hwb⟩ : ∃ wb, wbB 17 t d ti = wb := ⟨_, rfl⟩
  have hw := fun wx => hasWrongByte_any 17 lv t d ti A n c wx hs
  rw [hwb] at hw
  have HW := Lib.hid hw; clear hw
  have HWB := Lib.hid hwb; clear hwb
  clear hs
  have H1 := Lib.hid ((Below.refl w.heap.size w).alloc (Nat.le_refl _) (.cells #[.int .i64 17, .int .i64 lv, .string t, .string d, .string ti, .slice A n c] 47))
  go_enter Try.func41, Try.ntmps41
  go_wp2_with (first
    | (go_at_call 46; refine (HP.out _).mono ?_; rintro e w' ⟨rfl, rfl⟩)
    | (go_at_call 47; refine (HU.out _).mono ?_; rintro e w1 ⟨rfl, hb1⟩; have c0 := hb1.cell (p := ⟨w.heap.size, 0, none⟩) (by simp); have c1 := hb1.cell (p := ⟨w.heap.size, 1, none⟩) (by simp); have c2 := hb1.cell (p := ⟨w.heap.size, 2, none⟩) (by simp); have c3 := hb1.cell (p := ⟨w.heap.size, 3, none⟩) (by simp); have c4 := hb1.cell (p := ⟨w.heap.size, 4, none⟩) (by simp); have c5 := hb1.cell (p := ⟨w.heap.size, 5, none⟩) (by simp); simp at c0 c1 c2 c3 c4 c5; have H2 := Lib.hid (H1.out.trans (hb1.mono (by simp))); clear hb1)
    | (go_at_call 48; refine (HW.out _).mono ?_; rintro e w2 ⟨rfl, hb2⟩; have H3 := Lib.hid (H2.out.trans (hb2.mono H2.out.size)); clear hb2))
  all_goals go_ret
  all_goals first
    | refine ⟨retI ?_, H3.out⟩
    | refine ⟨retI ?_, H2.out⟩
    | refine ⟨retI ?_, H1.out⟩
  all_goals rw [nodeErr_of HF.out HUB.out HWB.out]
  all_goals try simp [rngB, *]
  all_goals first | omega | (intros; omega) | (split <;> omega)

set_option maxRecDepth 100000 in
set_option maxHeartbeats 1600000 in
theorem checkNode_18 (lv p : Int) (t d ti : ByteArray) (A : Option Addr) (n c : Nat) (w : World) (hf : fitB 18 p = true) (hs : Short t d ti n) :
    Calls Try.prog 41 #[.agg #[.int .i64 18, .int .i64 lv, .string t, .string d, .string ti, .slice A n c], .int .i64 p] w
      fun e w' => e = .returned (.int .i64 (nodeErr 18 lv t d ti n p)) ∧ Below w.heap.size w w' := by
  have hp := fun wx => fits_any 18 p wx
  rw [hf] at hp
  have HP := Lib.hid hp; clear hp
  have HF := Lib.hid hf; clear hf
  obtain ⟨ub, hub⟩ : ∃ ub, unB 18 lv t.toList.isEmpty d.toList.isEmpty ti.toList.isEmpty n = ub := ⟨_, rfl⟩
  have hu := fun wx => hasUnused_18 lv t d ti A n c wx hs.n
  rw [hub] at hu
  have HU := Lib.hid hu; clear hu
  have HUB := Lib.hid hub; clear hub
  obtain ⟨wb, hwb⟩ : ∃ wb, wbB 18 t d ti = wb := ⟨_, rfl⟩
  have hw := fun wx => hasWrongByte_any 18 lv t d ti A n c wx hs
  rw [hwb] at hw
  have HW := Lib.hid hw; clear hw
  have HWB := Lib.hid hwb; clear hwb
  clear hs
  have H1 := Lib.hid ((Below.refl w.heap.size w).alloc (Nat.le_refl _) (.cells #[.int .i64 18, .int .i64 lv, .string t, .string d, .string ti, .slice A n c] 47))
  go_enter Try.func41, Try.ntmps41
  go_wp2_with (first
    | (go_at_call 46; refine (HP.out _).mono ?_; rintro e w' ⟨rfl, rfl⟩)
    | (go_at_call 47; refine (HU.out _).mono ?_; rintro e w1 ⟨rfl, hb1⟩; have c0 := hb1.cell (p := ⟨w.heap.size, 0, none⟩) (by simp); have c1 := hb1.cell (p := ⟨w.heap.size, 1, none⟩) (by simp); have c2 := hb1.cell (p := ⟨w.heap.size, 2, none⟩) (by simp); have c3 := hb1.cell (p := ⟨w.heap.size, 3, none⟩) (by simp); have c4 := hb1.cell (p := ⟨w.heap.size, 4, none⟩) (by simp); have c5 := hb1.cell (p := ⟨w.heap.size, 5, none⟩) (by simp); simp at c0 c1 c2 c3 c4 c5; have H2 := Lib.hid (H1.out.trans (hb1.mono (by simp))); clear hb1)
    | (go_at_call 48; refine (HW.out _).mono ?_; rintro e w2 ⟨rfl, hb2⟩; have H3 := Lib.hid (H2.out.trans (hb2.mono H2.out.size)); clear hb2))
  all_goals go_ret
  all_goals first
    | refine ⟨retI ?_, H3.out⟩
    | refine ⟨retI ?_, H2.out⟩
    | refine ⟨retI ?_, H1.out⟩
  all_goals rw [nodeErr_of HF.out HUB.out HWB.out]
  all_goals try simp [rngB, *]
  all_goals first | omega | (intros; omega) | (split <;> omega)

theorem checkNode_any (k lv p : Int) (t d ti : ByteArray) (A : Option Addr) (n c : Nat) (w : World) (hs : Short t d ti n) :
    Calls Try.prog 41 #[.agg #[.int .i64 k, .int .i64 lv, .string t, .string d, .string ti, .slice A n c], .int .i64 p] w
      fun e w' => e = .returned (.int .i64 (nodeErr k lv t d ti n p)) ∧ Below w.heap.size w w' := by
  cases hf : fitB k p with
  | false => exact checkNode_no k lv p t d ti A n c w hf
  | true =>
    rcases kinds (fitB_range hf) with rfl | rfl | rfl | rfl | rfl | rfl | rfl | rfl | rfl | rfl | rfl | rfl | rfl | rfl | rfl | rfl | rfl | rfl
    · exact checkNode_1 lv p t d ti A n c w hf hs
    · exact checkNode_2 lv p t d ti A n c w hf hs
    · exact checkNode_3 lv p t d ti A n c w hf hs
    · exact checkNode_4 lv p t d ti A n c w hf hs
    · exact checkNode_5 lv p t d ti A n c w hf hs
    · exact checkNode_6 lv p t d ti A n c w hf hs
    · exact checkNode_7 lv p t d ti A n c w hf hs
    · exact checkNode_8 lv p t d ti A n c w hf hs
    · exact checkNode_9 lv p t d ti A n c w hf hs
    · exact checkNode_10 lv p t d ti A n c w hf hs
    · exact checkNode_11 lv p t d ti A n c w hf hs
    · exact checkNode_12 lv p t d ti A n c w hf hs
    · exact checkNode_13 lv p t d ti A n c w hf hs
    · exact checkNode_14 lv p t d ti A n c w hf hs
    · exact checkNode_15 lv p t d ti A n c w hf hs
    · exact checkNode_16 lv p t d ti A n c w hf hs
    · exact checkNode_17 lv p t d ti A n c w hf hs
    · exact checkNode_18 lv p t d ti A n c w hf hs
end Go.Proofs.Ytmaahkonjpcgiab
