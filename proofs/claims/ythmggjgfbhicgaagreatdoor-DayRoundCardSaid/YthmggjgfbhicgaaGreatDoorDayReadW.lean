/- DERIVED. What conf.ReadDay returns, by a walk of its text. No condition. -/
import Derived.Test.YthmggjgfbhicgaaGreatDoorDayRead
import Derived.Test.YthmggjgfbhicgaaGreatDoorShelf
import Derived.WalkSmall
namespace Go.Proofs.YthmggjgfbhicgaaGreatDoor
open Go.RowKit
theorem atoi_any (s : ByteArray) (v : Int) (hs : s.size ≤ 9223372036854775806) (h : Lib.atoiAll s.data.toList = .ok v) (w : World) :
    Calls Tryz.prog 18 #[.string s] w fun e w' => e = .returned (.tuple #[.int .i64 v, .nilIface]) ∧ Below w.heap.size w w' := by
  refine (Tryz.strconv_Atoi_ok s hs v h w).mono ?_
  rintro e w' ⟨he, rfl | ⟨t, rfl⟩⟩
  · exact ⟨he, Below.refl _ _⟩
  · exact ⟨he, Lib.bytesWorld_below _ _ _⟩
theorem dayOf_any (y m k : Int) (w : World) : Calls Tryz.prog 10 #[.int .i64 y, .int .i64 m, .int .i64 k] w fun e w' => (∃ a b, e = .returned (.tuple #[.int .i64 a, .int .i64 b]) ∧ DayP y m k a b) ∧ w = w' := by
  by_cases h : okDay y m k
  · exact (dayOf_yes y m k w h).mono fun e w' ⟨he, hw⟩ => ⟨⟨_, _, he, .inl ⟨h, rfl, rfl⟩⟩, hw⟩
  · exact (dayOf_no y m k w h).mono fun e w' ⟨he, hw⟩ => ⟨⟨_, _, he, .inr ⟨h, rfl, rfl⟩⟩, hw⟩
/-- The way a day is read, as an ending. -/
def ReadE (s : ByteArray) (e : Ending) : Prop := ∃ a b, e = .returned (.tuple #[.int .i64 a, .int .i64 b]) ∧ ReadP s a b
set_option maxRecDepth 100000 in
set_option maxHeartbeats 1000000 in
theorem readDay_n1 (s : ByteArray) (w : World) (hf : formB s = false) (h10 : ¬ s.size = 10) :
    Calls Tryz.prog 8 #[.string s] w fun e w' => ReadE s e ∧ Below w.heap.size w w' := by
  have HF := Lib.hid hf; clear hf
  have hne : ((s.size : Int) == 10) = false := by simp; omega
  have hne2 : decide ((s.size : Int) = 10) = false := by simp; omega
  have hne3 : ((s.size : Int) != 10) = true := by simp; omega
  have hne4 : ¬ (s.size : Int) = 10 := by omega
  go_enter Tryz.func8, Tryz.ntmps8
  go_wp2_with fail
  go_quiet (fail)
  go_wp2_with fail
  go_ret2
  exact ⟨⟨0, 8, rfl, .inl ⟨HF.out, rfl, rfl⟩⟩, below_drewN (Below.refl _ _) nq⟩
set_option maxRecDepth 100000 in
set_option maxHeartbeats 1000000 in
theorem readDay_n2 (s : ByteArray) (w : World) (hf : formB s = false) (h10 : s.size = 10) (n4 : 4 < s.size) (e4 : ¬ s[4] = 45) :
    Calls Tryz.prog 8 #[.string s] w fun e w' => ReadE s e ∧ Below w.heap.size w w' := by
  have HF := Lib.hid hf; clear hf
  have i4 : (4 : Int) < (s.size : Int) := by omega
  obtain ⟨c, hc⟩ : ∃ c, s[4] = c := ⟨_, rfl⟩
  rw [hc] at e4
  have z4 : ((c.toNat : Int) == 45) = false := by
    simp only [beq_eq_false_iff_ne, ne_eq]
    intro h
    exact e4 (UInt8.toNat.inj (by simpa using Int.ofNat.inj h))
  have z4'' : ((c.toNat : Int) != 45) = true := by simpa using z4
  clear z4
  clear e4
  go_enter Tryz.func8, Tryz.ntmps8
  go_wp2_with fail
  go_quiet (fail)
  go_wp2_with fail
  go_ret2
  exact ⟨⟨0, 8, rfl, .inl ⟨HF.out, rfl, rfl⟩⟩, below_drewN (Below.refl _ _) nq⟩
set_option maxRecDepth 100000 in
set_option maxHeartbeats 1000000 in
theorem readDay_n3 (s : ByteArray) (w : World) (hf : formB s = false) (h10 : s.size = 10) (n4 : 4 < s.size) (n7 : 7 < s.size) (e4 : s[4] = 45) (e7 : ¬ s[7] = 45) :
    Calls Tryz.prog 8 #[.string s] w fun e w' => ReadE s e ∧ Below w.heap.size w w' := by
  have HF := Lib.hid hf; clear hf
  have i4 : (4 : Int) < (s.size : Int) := by omega
  have i7 : (7 : Int) < (s.size : Int) := by omega
  have z7 : ((s[7].toNat : Int) == 45) = false := by
    simp only [beq_eq_false_iff_ne, ne_eq]
    intro h
    exact e7 (UInt8.toNat.inj (by simpa using Int.ofNat.inj h))
  have z7' : ¬ (s[7].toNat : Int) = 45 := by simpa using z7
  have z7'' : decide ((s[7].toNat : Int) = 45) = false := by simpa using z7
  clear e7
  go_enter Tryz.func8, Tryz.ntmps8
  go_wp2_with fail
  go_quiet (fail)
  go_wp2_with fail
  go_ret2
  exact ⟨⟨0, 8, rfl, .inl ⟨HF.out, rfl, rfl⟩⟩, below_drewN (Below.refl _ _) nq⟩
set_option maxRecDepth 100000 in
set_option maxHeartbeats 1000000 in
theorem readDay_n4 (s : ByteArray) (w : World) (hf : formB s = false) (h10 : s.size = 10) (n4 : 4 < s.size) (n7 : 7 < s.size) (e4 : s[4] = 45) (e7 : s[7] = 45) :
    Calls Tryz.prog 8 #[.string s] w fun e w' => ReadE s e ∧ Below w.heap.size w w' := by
  have HF := Lib.hid hf; clear hf
  have i4 : (4 : Int) < (s.size : Int) := by omega
  have i7 : (7 : Int) < (s.size : Int) := by omega
  have hall := fun wx => allDigits_any (p1 s ++ p2 s ++ p3 s) wx (by simp [p1, p2, p3]; omega)
  have hd : allD (p1 s ++ p2 s ++ p3 s).data.toList = false := by
    have hf := HF.out
    unfold formB at hf
    rw [at_idx n4, at_idx n7, e4, e7] at hf
    simpa [h10] using hf
  rw [hd] at hall
  clear hd
  unfold p1 p2 p3 at hall
  have HA := Lib.hid hall; clear hall
  go_enter Tryz.func8, Tryz.ntmps8
  go_wp2_with fail
  go_quiet ((go_at_call 17; exact Calls.quiet_of_same ((HA.out _).mono fun _ _ h => ⟨h.1, h.2.symm⟩)))
  go_wp2_with fail
  go_ret2
  exact ⟨⟨0, 8, rfl, .inl ⟨HF.out, rfl, rfl⟩⟩, below_drewN (Below.refl _ _) nq⟩
theorem readDay_no (s : ByteArray) (w : World) (hf : formB s = false) :
    Calls Tryz.prog 8 #[.string s] w fun e w' => ReadE s e ∧ Below w.heap.size w w' := by
  by_cases h10 : s.size = 10
  · have n4 : 4 < s.size := by omega
    have n7 : 7 < s.size := by omega
    by_cases e4 : s[4] = 45
    · by_cases e7 : s[7] = 45
      · exact readDay_n4 s w hf h10 n4 n7 e4 e7
      · exact readDay_n3 s w hf h10 n4 n7 e4 e7
    · exact readDay_n2 s w hf h10 n4 e4
  · exact readDay_n1 s w hf h10

set_option maxRecDepth 100000 in
set_option maxHeartbeats 1000000 in
theorem readDay_yes (s : ByteArray) (w : World) (hf : formB s = true) :
    Calls Tryz.prog 8 #[.string s] w fun e w' => ReadE s e ∧ Below w.heap.size w w' := by
  have HF := Lib.hid hf
  obtain ⟨y, m, k, e1, e2, e3, b1, b2, b3⟩ := form_nums hf
  unfold formB at hf
  simp only [Bool.and_eq_true, decide_eq_true_eq] at hf
  obtain ⟨⟨⟨h10, q4⟩, q7⟩, hd⟩ := hf
  have i4 : (4 : Int) < (s.size : Int) := by omega
  have i7 : (7 : Int) < (s.size : Int) := by omega
  have n4 : 4 < s.size := by omega
  have n7 : 7 < s.size := by omega
  rw [at_idx n4] at q4
  rw [at_idx n7] at q7
  have e4 : s[4] = 45 := by simpa using q4
  have e7 : s[7] = 45 := by simpa using q7
  have hall := fun wx => allDigits_any (p1 s ++ p2 s ++ p3 s) wx (by simp [p1, p2, p3]; omega)
  rw [hd] at hall
  have a1 := fun wx => atoi_any (p1 s) y (by simp [p1]; omega) e1 wx
  have a2 := fun wx => atoi_any (p2 s) m (by simp [p2]; omega) e2 wx
  have a3 := fun wx => atoi_any (p3 s) k (by simp [p3]; omega) e3 wx
  have E1 := Lib.hid e1; clear e1
  have E2 := Lib.hid e2; clear e2
  have E3 := Lib.hid e3; clear e3
  clear hd q4 q7
  unfold p1 p2 p3 at hall
  unfold p1 at a1
  unfold p2 at a2
  unfold p3 at a3
  have HA := Lib.hid hall; clear hall
  have A1 := Lib.hid a1; clear a1
  have A2 := Lib.hid a2; clear a2
  have A3 := Lib.hid a3; clear a3
  go_enter Tryz.func8, Tryz.ntmps8
  go_wp2_with fail
  go_quiet ((go_at_call 17; exact Calls.quiet_of_same ((HA.out _).mono fun _ _ h => ⟨h.1, h.2.symm⟩)))
  go_wp2_with fail
  refine (A1.out _).mono ?_
  rintro e w1 ⟨rfl, hb1⟩
  go_wp2_with fail
  refine (A2.out _).mono ?_
  rintro e w2 ⟨rfl, hb2⟩
  go_wp2_with fail
  refine (A3.out _).mono ?_
  rintro e w3 ⟨rfl, hb3⟩
  go_wp2_with fail
  refine (dayOf_any y m k _).mono ?_
  rintro e w4 ⟨⟨a, b, rfl, hp⟩, rfl⟩
  have HP := Lib.hid hp; clear hp
  go_wp2_with fail
  go_ret2
  have hb1' := below_drewN (Below.refl w.heap.size w) nq |>.trans hb1
  have hb2' := hb1'.trans (hb2.mono hb1'.size)
  exact ⟨⟨a, b, rfl, .inr ⟨HF.out, y, m, k, E1.out, E2.out, E3.out, HP.out⟩⟩, hb2'.trans (hb3.mono hb2'.size)⟩
theorem readDay_any (s : ByteArray) (w : World) :
    Calls Tryz.prog 8 #[.string s] w fun e w' => ReadE s e ∧ Below w.heap.size w w' := by
  cases hf : formB s with
  | false => exact readDay_no s w hf
  | true => exact readDay_yes s w hf
end Go.Proofs.YthmggjgfbhicgaaGreatDoor
