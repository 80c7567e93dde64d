/- DERIVED. What DayRound returns for every day: true. Condition: the library's table of powers of ten lies in memory. -/
import Derived.Test.YthmggjgfbhicgaaGreatDoorDayWord
import Derived.Test.YthmggjgfbhicgaaGreatDoorDayReadW
import Derived.Test.YthmggjgfbhicgaaGreatDoorAwake
namespace Go.Proofs.YthmggjgfbhicgaaGreatDoor
set_option linter.unusedVariables false
open Go.RowKit
theorem dayStr_list (y m k : Nat) : (dayStr y m k).data.toList = lo 4 y ++ ([45] ++ (lo 2 m ++ ([45] ++ lo 2 k))) := by
  unfold dayStr
  simp
theorem ext_list (s : ByteArray) (i j : Nat) : (s.extract i j).data.toList = (s.data.toList.drop i).take (j - i) := by
  rw [ByteArray.data_extract, Array.toList_extract]
/-- A list of digits is read as the number. -/
def chkN (i n : Nat) : Bool := match Lib.atoiAll (lo i n) with | .ok v => v == (n : Int) | _ => false
theorem chk4 : ∀ n, n < 2200 → chkN 4 n = true := by decide +kernel
theorem chk2 : ∀ n, n < 32 → chkN 2 n = true := by decide +kernel
theorem chkN_ok {i n : Nat} (h : chkN i n = true) : Lib.atoiAll (lo i n) = .ok (n : Int) := by
  unfold chkN at h
  split at h
  · rename_i v e; rw [e]; simp at h; rw [h]
  · cases h
theorem lo_nd (q : Nat) : nd (dgt q) = false := by
  have h : ∀ r, r < 10 → nd (UInt8.ofNat (48 + r)) = false := by decide
  exact h _ (Nat.mod_lt _ (by omega))
theorem lo_any : ∀ i n, (lo i n).any nd = false
  | 0, _ => rfl
  | i + 1, n => by simp only [lo, List.any_cons, lo_nd, lo_any i n, Bool.or_self]
theorem readP_day (d : Int) (y m k : Nat) (h0 : 0 ≤ d) (h1 : d ≤ 84005) (ey : Cal.py (d - 11323) = y) (em : Cal.pm (d - 11323) = m) (ek : Cal.pk (d - 11323) = k) (b2 : y ≤ 2199) (b4 : m ≤ 12) (b6 : k ≤ 31) :
    ReadP (dayStr y m k) d 0 := by
  have hl := dayStr_list y m k
  have e1 : (p1 (dayStr y m k)).data.toList = lo 4 y := by unfold p1; rw [ext_list, hl]; rfl
  have e2 : (p2 (dayStr y m k)).data.toList = lo 2 m := by unfold p2; rw [ext_list, hl]; rfl
  have e3 : (p3 (dayStr y m k)).data.toList = lo 2 k := by unfold p3; rw [ext_list, hl]; rfl
  obtain ⟨ok, hr⟩ := date_of d h0 h1
  rw [ey, em, ek] at ok hr
  refine .inr ⟨?_, y, m, k, ?_, ?_, ?_, .inl ⟨ok, by omega, rfl⟩⟩
  · have hs : (dayStr y m k).size = 10 := by
      have : (dayStr y m k).data.toList.length = 10 := by rw [hl]; rfl
      rwa [Array.length_toList] at this
    have ha : (p1 (dayStr y m k) ++ p2 (dayStr y m k) ++ p3 (dayStr y m k)).data.toList = lo 4 y ++ lo 2 m ++ lo 2 k := by simp [e1, e2, e3]
    unfold formB
    rw [ha, hs, hl]
    unfold allD
    rw [List.any_append, List.any_append, lo_any, lo_any, lo_any]
    rfl
  · rw [e1]; exact chkN_ok (chk4 y (by omega))
  · rw [e2]; exact chkN_ok (chk2 m (by omega))
  · rw [e3]; exact chkN_ok (chk2 k (by omega))
theorem dayP_day (d : Int) (y m k : Nat) (h0 : 0 ≤ d) (h1 : d ≤ 84005) (ey : Cal.py (d - 11323) = y) (em : Cal.pm (d - 11323) = m) (ek : Cal.pk (d - 11323) = k) : DayP y m k d 0 := by
  obtain ⟨ok, hr⟩ := date_of d h0 h1
  rw [ey, em, ek] at ok hr
  exact .inl ⟨ok, by omega, rfl⟩
theorem PowTab.keep {w w1 : World} (h : PowTab w) (hb : Below w.heap.size w w1) : PowTab w1 := Lib.tabBelow_of_tabIs (h w1 hb)
set_option maxRecDepth 100000 in
set_option maxHeartbeats 1000000 in
theorem dayRound_any (d : Int) (w : World) (ht : PowTab w) : Calls Tryz.prog 4 #[.int .i64 d] w fun e w' => e = .returned (.bool true) ∧ Below w.heap.size w w' := by
  cases hd : dayB d
  · have hd2 : d < 0 ∨ 84005 < d := by unfold dayB at hd; simp at hd; omega
    rcases hd2 with hd2 | hd2
    · go_enter Tryz.func4, Tryz.ntmps4
      go_wp2_with fail
      refine (awakeConf_any _).mono ?_
      rintro e w1 ⟨rfl, hb1⟩
      go_wp2_with fail
      refine (dayString_no _ _ hd).mono ?_
      rintro e w' ⟨rfl, rfl⟩
      go_wp2_with fail
      go_ret
      exact ⟨rfl, hb1⟩
    · have hd3 : ¬ d < 0 := by omega
      go_enter Tryz.func4, Tryz.ntmps4
      go_wp2_with fail
      refine (awakeConf_any _).mono ?_
      rintro e w1 ⟨rfl, hb1⟩
      go_wp2_with fail
      refine (dayString_no _ _ hd).mono ?_
      rintro e w' ⟨rfl, rfl⟩
      go_wp2_with fail
      go_ret
      exact ⟨rfl, hb1⟩
  · obtain ⟨h0, h1⟩ : 0 ≤ d ∧ d ≤ 84005 := by unfold dayB at hd; simpa using hd
    clear hd
    obtain ⟨y, m, k, ey, em, ek, b1, b2, b3, b4, b5, b6⟩ := date_nat d h0 h1
    have H1 := Lib.hid (fun wX (hX : Below w.heap.size w wX) => dayString_yes d y m k wX h0 h1 ey em ek (by omega) (by omega) (by omega) (by omega) (ht.keep hX))
    have H2 := Lib.hid (fun wX => readDay_any (dayStr y m k) wX)
    have H3 := Lib.hid (fun wX => date4_yes d y m k wX h0 h1 ey em ek)
    have H4 := Lib.hid (fun wX => dayOf_any y m k wX)
    have H5 := Lib.hid (fun wX => weekday_yes d wX h0 h1)
    have HR := Lib.hid (readP_day d y m k h0 h1 ey em ek b2 b4 b6)
    have HD := Lib.hid (dayP_day d y m k h0 h1 ey em ek)
    generalize dayStr y m k = s at H1 H2 HR
    clear ht ey em ek b1 b2 b3 b4 b5 b6
    go_enter Tryz.func4, Tryz.ntmps4
    go_wp2_with fail
    refine (awakeConf_any _).mono ?_
    rintro e w1 ⟨rfl, hb1⟩
    go_wp2_with fail
    refine (H1.out _ hb1).mono ?_
    rintro e w2 ⟨rfl, hb2⟩
    have hc2 := hb1.trans (hb2.mono hb1.size)
    clear hb1 hb2
    go_wp2_with fail
    refine (H2.out _).mono ?_
    rintro e w3 ⟨⟨a, b, rfl, hr⟩, hb3⟩
    obtain ⟨rfl, rfl⟩ := readP_fn hr HR.out
    clear hr
    have hc3 := hc2.trans (hb3.mono hc2.size)
    clear hc2 hb3
    go_wp2_with fail
    refine (H3.out _).mono ?_
    rintro e w4 ⟨rfl, rfl⟩
    go_wp2_with fail
    refine (H4.out _).mono ?_
    rintro e w5 ⟨⟨a2, b2, rfl, hr2⟩, rfl⟩
    obtain ⟨rfl, rfl⟩ := dayP_fn hr2 HD.out
    clear hr2
    go_wp2_with fail
    refine (H5.out _).mono ?_
    rintro e w6 ⟨rfl, rfl⟩
    go_wp2_with fail
    go_ret
    exact ⟨rfl, hc3⟩
end Go.Proofs.YthmggjgfbhicgaaGreatDoor
