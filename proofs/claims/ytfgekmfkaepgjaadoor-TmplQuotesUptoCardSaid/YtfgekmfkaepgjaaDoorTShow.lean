/- DERIVED. What Show and Truth of package tmpl and their references return for every value. Condition: the library's table of powers of ten is as the program's text lays it. -/
import Derived.Test.YtfgekmfkaepgjaaDoorDateR
import Derived.Test.YtfgekmfkaepgjaaDoorTop
import Derived.WalkLawsBesides
namespace Go.Proofs.YtfgekmfkaepgjaaDoor
set_option linter.unusedVariables false
open Go.RowKit
/-- What Show says of a value. -/
inductive ShowIs (a : Top) : ByteArray → Int → Prop where
  | nil : a.k = 0 → ShowIs a ⟨#[]⟩ 0
  | bool : a.k = 1 → ShowIs a ⟨(Lib.formatBool a.bo).toArray⟩ 0
  | int : a.k = 2 → ShowIs a ⟨(Lib.itoa a.i).toArray⟩ 0
  | text : a.k = 3 ∨ a.k = 7 → ShowIs a a.t 0
  | noDay : a.k = 4 → dayB a.i = false → ShowIs a ⟨#[]⟩ 2
  | day (y m k : Nat) : a.k = 4 → 0 ≤ a.i → a.i ≤ 84005 → Cal.py (a.i - 11323) = y → Cal.pm (a.i - 11323) = m → Cal.pk (a.i - 11323) = k → 1000 ≤ y → y ≤ 9999 → m ≤ 99 → k ≤ 99 → ShowIs a (dayStr y m k) 0
  | none : a.k ≠ 0 → a.k ≠ 1 → a.k ≠ 2 → a.k ≠ 3 → a.k ≠ 4 → a.k ≠ 7 → ShowIs a ⟨#[]⟩ 10
theorem showIs_any (a : Top) : ∃ s x, ShowIs a s x := by
  by_cases h0 : a.k = 0
  · exact ⟨_, _, .nil h0⟩
  by_cases h1 : a.k = 1
  · exact ⟨_, _, .bool h1⟩
  by_cases h2 : a.k = 2
  · exact ⟨_, _, .int h2⟩
  by_cases h3 : a.k = 3
  · exact ⟨_, _, .text (.inl h3)⟩
  by_cases h7 : a.k = 7
  · exact ⟨_, _, .text (.inr h7)⟩
  by_cases h4 : a.k = 4
  · cases hd : dayB a.i
    · exact ⟨_, _, .noDay h4 hd⟩
    · obtain ⟨g0, g1⟩ : 0 ≤ a.i ∧ a.i ≤ 84005 := by unfold dayB at hd; simpa using hd
      obtain ⟨y, m, k, ey, em, ek, b1, b2, b3, b4, b5, b6⟩ := date_nat a.i g0 g1
      exact ⟨_, _, .day y m k h4 g0 g1 ey em ek (by omega) (by omega) (by omega) (by omega)⟩
  exact ⟨_, _, .none h0 h1 h2 h3 h4 h7⟩
def truthB (a : Top) : Bool :=
  if a.k = 0 then false else if a.k = 1 then a.bo else if a.k = 2 then !decide (a.i = 0) else if a.k = 3 ∨ a.k = 7 then !a.t.toList.isEmpty else if a.k = 5 ∨ a.k = 6 then decide (0 < a.n1) else true
theorem ret_b {a b : Bool} (h : a = b) : Ending.returned (.bool b) = .returned (.bool a) := by rw [h]
set_option maxRecDepth 100000 in
theorem inRange_any (d : Int) (w : World) :
    Calls Tryd.prog 14 #[.int .i64 d, .int .i64 84005] w fun e w' => e = .returned (.bool (dayB d)) ∧ w = w' := by
  by_cases h : 0 ≤ d
  · by_cases h' : d ≤ 84005
    all_goals
      go_enter Tryd.func14, Tryd.ntmps14
      go_wp2
      go_ret
      exact ⟨ret_bool (by unfold dayB; simp [h, h']), rfl⟩
  · go_enter Tryd.func14, Tryd.ntmps14
    go_wp2
    go_ret
    exact ⟨ret_bool (by unfold dayB; simp; omega), rfl⟩

set_option maxRecDepth 100000 in
set_option maxHeartbeats 1000000 in
theorem show_any (a : Top) (s : ByteArray) (x : Int) (w : World) (hi : -9223372036854775808 ≤ a.i ∧ a.i ≤ 9223372036854775807) (h : ShowIs a s x) (ht : PowTab w) :
    Calls Tryd.prog 5 #[a.val] w fun e w' => e = .returned (.tuple #[.string s, .int .i64 x]) ∧ Below w.heap.size w w' := by
  have hbx : Below w.heap.size w (w.alloc a.box) := (Below.refl _ _).alloc (Nat.le_refl _) _
  have hsz : (w.alloc a.box).heap.size = w.heap.size + 1 := by simp
  have ht1 : PowTab (w.alloc a.box) := ht.on hbx
  have hb0 := Below.refl (w.heap.size + 1) (w.alloc a.box)
  have h6 := top6 hb0
  have HBT := fun (w1 : World) (g : Below (w.heap.size + 1) (w.alloc a.box) w1) => (below_top g).1
  obtain ⟨k, bo, i, t, A1, n1, c1, A2, n2, c2⟩ := a
  simp only at hi h6
  generalize hW : w.alloc (Top.box ⟨k, bo, i, t, A1, n1, c1, A2, n2, c2⟩) = W1 at hbx ht1 hb0 h6 HBT hsz
  simp only [Top.box] at hW
  simp only [Top.val]
  obtain ⟨i1, i2⟩ := hi
  obtain ⟨x0, x1, x2, x3, x4, x5⟩ := h6
  have HT := Lib.hid ht1
  have HBX := Lib.hid hbx
  have HB := Lib.hid HBT
  have HS := Lib.hid hsz
  clear ht ht1 hbx HBT hsz hb0
  cases h with
  | nil h =>
    simp only at h
    subst h
    go_enter Tryd.func5, Tryd.ntmps5
    go_wp2_with fail
    go_ret2
    exact ⟨rfl, HBX.out⟩
  | bool h =>
    simp only at h
    subst h
    go_enter Tryd.func5, Tryd.ntmps5
    go_wp2_with fail
    refine (Tryd.strconv_FormatBool bo _).mono ?_
    rintro e w1 ⟨rfl, hw⟩
    rw [hw]
    clear hw w1
    dsimp only
    go_wp2_with fail
    go_ret2
    exact ⟨rfl, HBX.out⟩
  | int h =>
    simp only at h
    subst h
    have HI := Lib.hid (Tryd.strconv_Itoa i i1 i2 W1 HT.out.here)
    go_enter Tryd.func5, Tryd.ntmps5
    go_wp2_with fail
    refine HI.out.mono ?_
    rintro e w1 ⟨rfl, kk, os, hw⟩
    have hb1 : Below w.heap.size w w1 := by rw [hw]; exact HBX.out.trans (Lib.below_grow _ _ (by have := HS.out; omega) _ _)
    clear hw
    go_wp2_with fail
    go_ret2
    exact ⟨rfl, hb1⟩
  | text h =>
    simp only at h
    rcases h with rfl | rfl
    · go_enter Tryd.func5, Tryd.ntmps5
      go_wp2_with fail
      go_ret2
      exact ⟨rfl, HBX.out⟩
    · go_enter Tryd.func5, Tryd.ntmps5
      go_wp2_with fail
      go_ret2
      exact ⟨rfl, HBX.out⟩

  | noDay h hd =>
    simp only at h hd
    subst h
    have HI := Lib.hid (fun wX => dayString_no i wX hd)
    clear hd
    go_enter Tryd.func5, Tryd.ntmps5
    go_wp2_with fail
    refine (HI.out _).mono ?_
    rintro e w1 ⟨rfl, rfl⟩
    go_wp2_with fail
    go_ret2
    exact ⟨rfl, HBX.out⟩
  | day y m k h g0 g1 ey em ek b0 b1 b2 b3 =>
    simp only at h g0 g1 ey em ek
    subst h
    have HI := Lib.hid (dayString_yes i y m k W1 g0 g1 ey em ek b0 b1 b2 b3 HT.out)
    clear ey em ek
    go_enter Tryd.func5, Tryd.ntmps5
    go_wp2_with fail
    refine HI.out.mono ?_
    rintro e w1 ⟨rfl, hb1⟩
    have hb2 := HBX.out.trans (hb1.mono (by have := HS.out; omega))
    clear hb1
    go_wp2_with fail
    go_ret2
    exact ⟨rfl, hb2⟩
  | none h0 h1 h2 h3 h4 h7 =>
    simp only at h0 h1 h2 h3 h4 h7
    have z0 : (k == 0) = false := by simpa using h0
    have z1 : (k == 1) = false := by simpa using h1
    have z2 : (k == 2) = false := by simpa using h2
    have z3 : (k == 3) = false := by simpa using h3
    have z4 : (k == 4) = false := by simpa using h4
    have z7 : (k == 7) = false := by simpa using h7
    clear h0 h1 h2 h3 h4 h7
    go_enter Tryd.func5, Tryd.ntmps5
    go_wp2_with fail
    go_ret2
    exact ⟨rfl, HBX.out⟩

set_option maxRecDepth 100000 in
set_option maxHeartbeats 1000000 in
theorem shown_any (a : Top) (s : ByteArray) (x : Int) (w : World) (hi : -9223372036854775808 ≤ a.i ∧ a.i ≤ 9223372036854775807) (h : ShowIs a s x) (ht : PowTab w) :
    Calls Tryd.prog 6 #[a.val] w fun e w' => e = .returned (.tuple #[.string s, .int .i64 x]) ∧ Below w.heap.size w w' := by
  have hbx : Below w.heap.size w (w.alloc a.box) := (Below.refl _ _).alloc (Nat.le_refl _) _
  have hsz : (w.alloc a.box).heap.size = w.heap.size + 1 := by simp
  have ht1 : PowTab (w.alloc a.box) := ht.on hbx
  have hb0 := Below.refl (w.heap.size + 1) (w.alloc a.box)
  have h6 := top6 hb0
  have HBT := fun (w1 : World) (g : Below (w.heap.size + 1) (w.alloc a.box) w1) => (below_top g).1
  obtain ⟨k, bo, i, t, A1, n1, c1, A2, n2, c2⟩ := a
  simp only at hi h6
  generalize hW : w.alloc (Top.box ⟨k, bo, i, t, A1, n1, c1, A2, n2, c2⟩) = W1 at hbx ht1 hb0 h6 HBT hsz
  simp only [Top.box] at hW
  simp only [Top.val]
  obtain ⟨i1, i2⟩ := hi
  obtain ⟨x0, x1, x2, x3, x4, x5⟩ := h6
  have HT := Lib.hid ht1
  have HBX := Lib.hid hbx
  have HB := Lib.hid HBT
  have HS := Lib.hid hsz
  clear ht ht1 hbx HBT hsz hb0
  cases h with
  | nil h =>
    simp only at h
    subst h
    go_enter Tryd.func6, Tryd.ntmps6
    go_wp2_with fail
    go_ret2
    exact ⟨rfl, HBX.out⟩
  | bool h =>
    simp only at h
    subst h
    go_enter Tryd.func6, Tryd.ntmps6
    go_wp2_with fail
    refine (Tryd.strconv_FormatBool bo _).mono ?_
    rintro e w1 ⟨rfl, hw⟩
    rw [hw]
    clear hw w1
    dsimp only
    go_wp2_with fail
    go_ret2
    exact ⟨rfl, HBX.out⟩
  | int h =>
    simp only at h
    subst h
    have HI := Lib.hid (Tryd.strconv_Itoa i i1 i2 W1 HT.out.here)
    go_enter Tryd.func6, Tryd.ntmps6
    go_wp2_with fail
    refine HI.out.mono ?_
    rintro e w1 ⟨rfl, kk, os, hw⟩
    have hb1 : Below w.heap.size w w1 := by rw [hw]; exact HBX.out.trans (Lib.below_grow _ _ (by have := HS.out; omega) _ _)
    clear hw
    go_wp2_with fail
    go_ret2
    exact ⟨rfl, hb1⟩
  | text h =>
    simp only at h
    rcases h with rfl | rfl
    · go_enter Tryd.func6, Tryd.ntmps6
      go_wp2_with fail
      go_ret2
      exact ⟨rfl, HBX.out⟩
    · go_enter Tryd.func6, Tryd.ntmps6
      go_wp2_with fail
      go_ret2
      exact ⟨rfl, HBX.out⟩

  | noDay h hd =>
    simp only at h hd
    subst h
    have HI := Lib.hid (fun wX => inRange_any i wX)
    rw [hd] at HI
    clear hd
    go_enter Tryd.func6, Tryd.ntmps6
    go_wp2_with fail
    refine (HI.out _).mono ?_
    rintro e w1 ⟨rfl, rfl⟩
    go_wp2_with fail
    go_ret2
    exact ⟨rfl, HBX.out⟩
  | day y m k h g0 g1 ey em ek b0 b1 b2 b3 =>
    simp only at h g0 g1 ey em ek
    subst h
    have hd : dayB i = true := by unfold dayB; simp; omega
    have HR := Lib.hid (fun wX => inRange_any i wX)
    rw [hd] at HR
    have HI := Lib.hid (dateOfR_any i y m k W1 g0 g1 ey em ek b0 b1 b2 b3 HT.out)
    clear ey em ek hd
    go_enter Tryd.func6, Tryd.ntmps6
    go_wp2_with fail
    refine (HR.out _).mono ?_
    rintro e w1 ⟨rfl, rfl⟩
    go_wp2_with fail
    refine HI.out.mono ?_
    rintro e w1 ⟨rfl, hb1⟩
    have hb2 := HBX.out.trans (hb1.mono (by have := HS.out; omega))
    clear hb1
    go_wp2_with fail
    go_ret2
    exact ⟨rfl, hb2⟩
  | none h0 h1 h2 h3 h4 h7 =>
    simp only at h0 h1 h2 h3 h4 h7
    have z0 : (k == 0) = false := by simpa using h0
    have z1 : (k == 1) = false := by simpa using h1
    have z2 : (k == 2) = false := by simpa using h2
    have z3 : (k == 3) = false := by simpa using h3
    have z4 : (k == 4) = false := by simpa using h4
    have z7 : (k == 7) = false := by simpa using h7
    clear h0 h1 h2 h3 h4 h7
    go_enter Tryd.func6, Tryd.ntmps6
    go_wp2_with fail
    go_ret2
    exact ⟨rfl, HBX.out⟩

set_option maxRecDepth 100000 in
set_option maxHeartbeats 1000000 in
theorem truthV_any (a : Top) (w : World) (hn : a.n1 ≤ maxLen) :
    Calls Tryd.prog 7 #[a.val] w fun e w' => e = .returned (.bool (truthB a)) ∧ Below w.heap.size w w' := by
  unfold maxLen at hn
  have hbx : Below w.heap.size w (w.alloc a.box) := (Below.refl _ _).alloc (Nat.le_refl _) _
  obtain ⟨v, hv⟩ : ∃ v, truthB a = v := ⟨_, rfl⟩
  rw [hv]
  unfold truthB at hv
  obtain ⟨k, bo, i, t, A1, n1, c1, A2, n2, c2⟩ := a
  simp only at hn hv
  simp only [Top.box] at hbx
  simp only [Top.val]
  have HBX := Lib.hid hbx
  clear hbx
  by_cases h0 : k = 0
  · subst h0
    rw [if_pos rfl] at hv
    have HV := Lib.hid hv.symm; clear hv
    go_enter Tryd.func7, Tryd.ntmps7
    go_wp2_with fail
    go_ret
    exact ⟨ret_b HV.out, HBX.out⟩
  rw [if_neg h0] at hv
  by_cases h1 : k = 1
  · subst h1
    rw [if_pos rfl] at hv
    have HV := Lib.hid hv.symm; clear hv
    go_enter Tryd.func7, Tryd.ntmps7
    go_wp2_with fail
    go_ret
    exact ⟨ret_b HV.out, HBX.out⟩
  rw [if_neg h1] at hv
  by_cases h2 : k = 2
  · subst h2
    rw [if_pos rfl] at hv
    by_cases hz : i = 0
    · subst hz
      have HV := Lib.hid hv.symm; clear hv
      go_enter Tryd.func7, Tryd.ntmps7
      go_wp2_with fail
      go_ret
      exact ⟨ret_b HV.out, HBX.out⟩
    · rw [decide_eq_false hz] at hv
      have zz : (i != 0) = true := by simpa using hz
      have HV := Lib.hid hv.symm; clear hv hz
      go_enter Tryd.func7, Tryd.ntmps7
      go_wp2_with fail
      go_ret
      exact ⟨ret_b HV.out, HBX.out⟩
  rw [if_neg h2] at hv
  by_cases h37 : k = 3 ∨ k = 7
  · rw [if_pos h37] at hv
    clear h0 h1 h2
    by_cases hz : t.toList = []
    · have hz2 : t.toList.isEmpty = true := by rw [hz]; rfl
      rw [hz2] at hv
      have HV := Lib.hid hv.symm; clear hv
      rcases h37 with rfl | rfl
      · go_enter Tryd.func7, Tryd.ntmps7
        go_wp2_with fail
        go_ret
        exact ⟨ret_b HV.out, HBX.out⟩
      · go_enter Tryd.func7, Tryd.ntmps7
        go_wp2_with fail
        go_ret
        exact ⟨ret_b HV.out, HBX.out⟩
    · have hz2 : t.toList.isEmpty = false := by simpa using hz
      have hz3 : (!t.toList.isEmpty) = true := by rw [hz2]; rfl
      rw [hz2] at hv
      have HV := Lib.hid hv.symm; clear hv
      rcases h37 with rfl | rfl
      · go_enter Tryd.func7, Tryd.ntmps7
        go_wp2_with fail
        go_ret
        exact ⟨ret_b HV.out, HBX.out⟩
      · go_enter Tryd.func7, Tryd.ntmps7
        go_wp2_with fail
        go_ret
        exact ⟨ret_b HV.out, HBX.out⟩
  rw [if_neg h37] at hv
  by_cases h56 : k = 5 ∨ k = 6
  · rw [if_pos h56] at hv
    clear h0 h1 h2 h37
    by_cases hz : 0 < n1
    · rw [decide_eq_true hz] at hv
      have HV := Lib.hid hv.symm; clear hv
      rcases h56 with rfl | rfl
      · go_enter Tryd.func7, Tryd.ntmps7
        go_wp2_with fail
        go_ret
        exact ⟨ret_b HV.out, HBX.out⟩
      · go_enter Tryd.func7, Tryd.ntmps7
        go_wp2_with fail
        go_ret
        exact ⟨ret_b HV.out, HBX.out⟩
    · obtain rfl : n1 = 0 := by omega
      have HV := Lib.hid hv.symm; clear hv hz
      rcases h56 with rfl | rfl
      · go_enter Tryd.func7, Tryd.ntmps7
        go_wp2_with fail
        go_ret
        exact ⟨ret_b HV.out, HBX.out⟩
      · go_enter Tryd.func7, Tryd.ntmps7
        go_wp2_with fail
        go_ret
        exact ⟨ret_b HV.out, HBX.out⟩
  rw [if_neg h56] at hv
  have z0 : (k == 0) = false := by simpa using h0
  have z1 : (k == 1) = false := by simpa using h1
  have z2 : (k == 2) = false := by simpa using h2
  have z3 : (k == 3) = false := by have : ¬ k = 3 := fun e => h37 (.inl e); simpa using this
  have z7 : (k == 7) = false := by have : ¬ k = 7 := fun e => h37 (.inr e); simpa using this
  have z5 : (k == 5) = false := by have : ¬ k = 5 := fun e => h56 (.inl e); simpa using this
  have z6 : (k == 6) = false := by have : ¬ k = 6 := fun e => h56 (.inr e); simpa using this
  have HV := Lib.hid hv.symm; clear hv h0 h1 h2 h37 h56
  go_enter Tryd.func7, Tryd.ntmps7
  go_wp2_with fail
  go_ret
  exact ⟨ret_b HV.out, HBX.out⟩

set_option maxRecDepth 100000 in
set_option maxHeartbeats 1000000 in
theorem isTrue_any (a : Top) (w : World) (hn : a.n1 ≤ maxLen) :
    Calls Tryd.prog 8 #[a.val] w fun e w' => e = .returned (.bool (truthB a)) ∧ Below w.heap.size w w' := by
  unfold maxLen at hn
  have hbx : Below w.heap.size w (w.alloc a.box) := (Below.refl _ _).alloc (Nat.le_refl _) _
  obtain ⟨v, hv⟩ : ∃ v, truthB a = v := ⟨_, rfl⟩
  rw [hv]
  unfold truthB at hv
  obtain ⟨k, bo, i, t, A1, n1, c1, A2, n2, c2⟩ := a
  simp only at hn hv
  simp only [Top.box] at hbx
  simp only [Top.val]
  have HBX := Lib.hid hbx
  clear hbx
  by_cases h0 : k = 0
  · subst h0
    rw [if_pos rfl] at hv
    have HV := Lib.hid hv.symm; clear hv
    go_enter Tryd.func8, Tryd.ntmps8
    go_wp2_with fail
    go_ret
    exact ⟨ret_b HV.out, HBX.out⟩
  rw [if_neg h0] at hv
  by_cases h1 : k = 1
  · subst h1
    rw [if_pos rfl] at hv
    have HV := Lib.hid hv.symm; clear hv
    go_enter Tryd.func8, Tryd.ntmps8
    go_wp2_with fail
    go_ret
    exact ⟨ret_b HV.out, HBX.out⟩
  rw [if_neg h1] at hv
  by_cases h2 : k = 2
  · subst h2
    rw [if_pos rfl] at hv
    by_cases hz : i = 0
    · subst hz
      have HV := Lib.hid hv.symm; clear hv
      go_enter Tryd.func8, Tryd.ntmps8
      go_wp2_with fail
      go_ret
      exact ⟨ret_b HV.out, HBX.out⟩
    · rw [decide_eq_false hz] at hv
      have zz : (i != 0) = true := by simpa using hz
      have HV := Lib.hid hv.symm; clear hv hz
      go_enter Tryd.func8, Tryd.ntmps8
      go_wp2_with fail
      go_ret
      exact ⟨ret_b HV.out, HBX.out⟩
  rw [if_neg h2] at hv
  by_cases h37 : k = 3 ∨ k = 7
  · rw [if_pos h37] at hv
    clear h0 h1 h2
    by_cases hz : t.toList = []
    · have hz2 : t.toList.isEmpty = true := by rw [hz]; rfl
      rw [hz2] at hv
      have HV := Lib.hid hv.symm; clear hv
      rcases h37 with rfl | rfl
      · go_enter Tryd.func8, Tryd.ntmps8
        go_wp2_with fail
        go_ret
        exact ⟨ret_b HV.out, HBX.out⟩
      · go_enter Tryd.func8, Tryd.ntmps8
        go_wp2_with fail
        go_ret
        exact ⟨ret_b HV.out, HBX.out⟩
    · have hz2 : t.toList.isEmpty = false := by simpa using hz
      have hz3 : (!t.toList.isEmpty) = true := by rw [hz2]; rfl
      rw [hz2] at hv
      have HV := Lib.hid hv.symm; clear hv
      rcases h37 with rfl | rfl
      · go_enter Tryd.func8, Tryd.ntmps8
        go_wp2_with fail
        go_ret
        exact ⟨ret_b HV.out, HBX.out⟩
      · go_enter Tryd.func8, Tryd.ntmps8
        go_wp2_with fail
        go_ret
        exact ⟨ret_b HV.out, HBX.out⟩
  rw [if_neg h37] at hv
  by_cases h56 : k = 5 ∨ k = 6
  · rw [if_pos h56] at hv
    clear h0 h1 h2 h37
    by_cases hz : 0 < n1
    · rw [decide_eq_true hz] at hv
      have HV := Lib.hid hv.symm; clear hv
      rcases h56 with rfl | rfl
      · go_enter Tryd.func8, Tryd.ntmps8
        go_wp2_with fail
        go_ret
        exact ⟨ret_b HV.out, HBX.out⟩
      · go_enter Tryd.func8, Tryd.ntmps8
        go_wp2_with fail
        go_ret
        exact ⟨ret_b HV.out, HBX.out⟩
    · obtain rfl : n1 = 0 := by omega
      have HV := Lib.hid hv.symm; clear hv hz
      rcases h56 with rfl | rfl
      · go_enter Tryd.func8, Tryd.ntmps8
        go_wp2_with fail
        go_ret
        exact ⟨ret_b HV.out, HBX.out⟩
      · go_enter Tryd.func8, Tryd.ntmps8
        go_wp2_with fail
        go_ret
        exact ⟨ret_b HV.out, HBX.out⟩
  rw [if_neg h56] at hv
  have z0 : (k == 0) = false := by simpa using h0
  have z1 : (k == 1) = false := by simpa using h1
  have z2 : (k == 2) = false := by simpa using h2
  have z3 : (k == 3) = false := by have : ¬ k = 3 := fun e => h37 (.inl e); simpa using this
  have z7 : (k == 7) = false := by have : ¬ k = 7 := fun e => h37 (.inr e); simpa using this
  have z5 : (k == 5) = false := by have : ¬ k = 5 := fun e => h56 (.inl e); simpa using this
  have z6 : (k == 6) = false := by have : ¬ k = 6 := fun e => h56 (.inr e); simpa using this
  have HV := Lib.hid hv.symm; clear hv h0 h1 h2 h37 h56
  go_enter Tryd.func8, Tryd.ntmps8
  go_wp2_with fail
  go_ret
  exact ⟨ret_b HV.out, HBX.out⟩

end Go.Proofs.YtfgekmfkaepgjaaDoor
