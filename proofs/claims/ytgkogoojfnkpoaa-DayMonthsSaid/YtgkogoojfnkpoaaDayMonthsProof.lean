/- DERIVED. THE STATEMENT DayMonthsSaid: for every day and number of months DayMonths returns true, and each argument reads afterwards as it read before. No condition of ours. -/
import Derived.Test.YtgkogoojfnkpoaaDayLater
import Derived.ProofKit
import Derived.OpenShut
import Derived.ChangeOld
namespace Go.Proofs.Ytgkogoojfnkpoaa.dayMonthsDone
open Go.ChangeShapes Go.WideShapes Go.ChangeAt Go.RowKit
set_option linter.unusedVariables false
theorem addMonths_no (d n : Int) (w : World) (h : ¬ (0 ≤ d ∧ d ≤ 84005) ∨ n < -3000 ∨ 3000 < n) :
    Calls Try.prog 8 #[.int .i64 d, .int .i64 n] w fun e w' => e = two 0 2 ∧ w = w' := by
  have H := Lib.hid h; clear h
  cases hd : dayB d
  · go_enter Try.func8, Try.ntmps8
    go_wp2_with (go_at_call 16; refine (isDay_any _ _).mono ?_; rintro e w' ⟨rfl, rfl⟩)
    go_ret2
    exact ⟨rfl, rfl⟩
  · have hd' : 0 ≤ d ∧ d ≤ 84005 := by unfold dayB at hd; simpa using hd
    have hn : n < -3000 ∨ 3000 < n := H.out.resolve_left (fun h => h hd')
    clear hd' H
    by_cases h1 : n < -3000
    · clear hn
      go_enter Try.func8, Try.ntmps8
      go_wp2_with (go_at_call 16; refine (isDay_any _ _).mono ?_; rintro e w' ⟨rfl, rfl⟩)
      go_ret2
      exact ⟨rfl, rfl⟩
    · have h2 : 3000 < n := by omega
      clear hn
      go_enter Try.func8, Try.ntmps8
      go_wp2_with (go_at_call 16; refine (isDay_any _ _).mono ?_; rintro e w' ⟨rfl, rfl⟩)
      go_ret2
      exact ⟨rfl, rfl⟩
theorem laterOf_no (d n : Int) (w : World) (h : ¬ (0 ≤ d ∧ d ≤ 84005) ∨ n < -3000 ∨ 3000 < n) :
    Calls Try.prog 9 #[.int .i64 d, .int .i64 n] w fun e w' => e = two 0 2 ∧ w = w' := by
  have H := Lib.hid h; clear h
  cases hd : dayB d
  · go_enter Try.func9, Try.ntmps9
    go_wp2_with (go_at_call 18; refine (isDayR_any _ _).mono ?_; rintro e w' ⟨rfl, rfl⟩)
    go_ret2
    exact ⟨rfl, rfl⟩
  · have hd' : 0 ≤ d ∧ d ≤ 84005 := by unfold dayB at hd; simpa using hd
    have hn : n < -3000 ∨ 3000 < n := H.out.resolve_left (fun h => h hd')
    clear hd' H
    by_cases h1 : n < -3000
    · clear hn
      go_enter Try.func9, Try.ntmps9
      go_wp2_with (go_at_call 18; refine (isDayR_any _ _).mono ?_; rintro e w' ⟨rfl, rfl⟩)
      go_ret2
      exact ⟨rfl, rfl⟩
    · have h2 : 3000 < n := by omega
      clear hn
      go_enter Try.func9, Try.ntmps9
      go_wp2_with (go_at_call 18; refine (isDayR_any _ _).mono ?_; rintro e w' ⟨rfl, rfl⟩)
      go_ret2
      exact ⟨rfl, rfl⟩
set_option maxRecDepth 100000 in
set_option maxHeartbeats 1000000 in
theorem walk (d n : Int) (w : World) :
    Calls Try.prog 4 #[.int .i64 d, .int .i64 n] w fun e w' => e = .returned (.bool true) ∧ Below w.heap.size w w' := by
  by_cases h : ¬ (0 ≤ d ∧ d ≤ 84005) ∨ n < -3000 ∨ 3000 < n
  · have H1 := Lib.hid (addMonths_no d n w h)
    have H2 := Lib.hid (laterOf_no d n w h)
    clear h
    go_enter Try.func4, Try.ntmps4
    go_wp2_with (first | (go_at_call 8; refine H1.out.mono ?_; rintro e w' ⟨rfl, rfl⟩; unfold two) | (go_at_call 9; refine H2.out.mono ?_; rintro e w' ⟨rfl, rfl⟩; unfold two))
    go_ret
    exact ⟨rfl, Below.refl _ _⟩
  · have H1 := Lib.hid (addMonths_any d n w (by omega) (by omega) (by omega) (by omega))
    have H2 := Lib.hid (laterOf_any d n w (by omega) (by omega) (by omega) (by omega))
    clear h
    go_enter Try.func4, Try.ntmps4
    go_wp2_with (fail)
    refine H1.out.mono ?_
    rintro e w' ⟨⟨hok, rfl⟩ | ⟨hno, rfl⟩, rfl⟩
    · have HOK := Lib.hid hok; clear hok
      unfold two
      go_wp2_with (fail)
      refine H2.out.mono ?_
      rintro e w' ⟨⟨hok, rfl⟩ | ⟨hno, rfl⟩, hb⟩
      · clear hok
        unfold two
        go_wp2_with (fail)
        go_ret
        exact ⟨rfl, hb⟩
      · exact absurd HOK.out hno
    · have HNO := Lib.hid hno; clear hno
      unfold two
      go_wp2_with (fail)
      refine H2.out.mono ?_
      rintro e w' ⟨⟨hok, rfl⟩ | ⟨hno, rfl⟩, hb⟩
      · exact absurd hok HNO.out
      · clear hno
        unfold two
        go_wp2_with (fail)
        go_ret
        exact ⟨rfl, hb⟩
/-! ### The row's step -/
theorem own : ownKnob Try.prog.godebug = none := by kernel_rfl
set_option maxRecDepth 100000 in
theorem lifted (os : Os) (started : os.Started) (H : Type) (enc : TypeId × Value → H) :
    ReturnsInHanded {} Try.checked os 4 .any (Rows.dayMonthsSpec.pre6 enc Try.prog Try.f4 Rows.dayMonthsRow.domain false) (Rows.dayMonthsSpec.post enc Try.prog Try.f4 false true false false) := by
  refine returnsInHanded_of_change (C := Try.checked) own started (by kernel_rfl) Try.func4
    (ChangeSpec.witness6 (enc := enc) (C := Try.checked) false ⟨#[], #[.int .i64 0, .int .i64 0], []⟩ 8 (by kernel_rfl) (by kernel_rfl) (by kernel_rfl) (by kernel_rfl)) ?_
  intro W base args ds gs before hval0 hW hcnd _
  have hval : ∀ (j : Nat) t v, Try.f4.params[j]? = some t → args[j]? = some v → Value.okWide Try.prog W .any base t v := hval0
  have hW' := hW
  obtain ⟨p, q, hA0, hV, rfl, hfz, hnd⟩ := hW
  have hA : DataW.TrodAll enc Try.prog W 0 (fun _ => true) true Try.f4.params.toList args.toList ds p := hA0
  rw [Try.params4] at hA hval
  obtain ⟨v0, vs0, d0, ds0, p0, q0, hargs, rfl, rfl, h0, r0⟩ := trodAll_cons hA
  obtain ⟨v1, vs1, d1, ds1, p1, q1, rfl, rfl, rfl, h1, r1⟩ := trodAll_cons r0
  obtain ⟨rfl, rfl, rfl⟩ := trodAll_nil r1
  obtain rfl : args = #[v0, v1] := by cases args; simp_all
  obtain ⟨rfl, rfl⟩ := trodVars_none hV
  obtain ⟨a0, rfl, rfl, rfl, w0⟩ := open_int Try.underlying3 (hval 0 3 v0 rfl rfl) h0
  obtain ⟨a1, rfl, rfl, rfl, w1⟩ := open_int Try.underlying3 (hval 1 3 v1 rfl rfl) h1
  clear hA0 hval0
  simp only [List.append_nil] at hW'
  refine (walk a0 a1 W).mono fun e W' ⟨he, bel⟩ => ?_
  subst he
  exact ⟨_, rfl, _, _, _, [], _, [], hW', trodAll_mk1 (shut_bool Try.underlying4 _), (trodAll_cons_mk (shut_int Try.underlying3 w0) (trodAll_cons_mk (shut_int Try.underlying3 w1) trodAll_mk0)), rfl, bel.frame _, fun h => by cases h⟩

theorem over : Rows.dayMonthsRow.holds Try.pinned (OpenSpec.ofChange Rows.dayMonthsSpec) :=
  OpenClaim.holds_of_wide 4 Try.f4 rfl rfl rfl rfl rfl rfl rfl ⟨rfl, rfl, rfl, rfl, rfl⟩ rfl rfl rfl rfl rfl (by kernel_rfl) Try.func4 (by kernel_rfl)
    (of_decide_eq_true (by kernel_rfl)) (by unfold Func.isWrapper; first | (rw [if_pos (by decide +kernel)]; kernel_rfl) | (rw [if_neg (by decide +kernel)]; exact ⟨rfl, rfl⟩))
    (fun os started H enc _ => lifted os started H enc)
theorem proved : Rows.DayMonthsSaid := over
#print axioms proved
end Go.Proofs.Ytgkogoojfnkpoaa.dayMonthsDone
