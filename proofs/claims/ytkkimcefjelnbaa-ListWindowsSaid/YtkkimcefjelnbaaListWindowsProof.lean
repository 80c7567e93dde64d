/- DERIVED. THE STATEMENT ListWindowsSaid: for every three numbers ListWindows returns true, and each argument reads afterwards as it read before. No condition of ours. -/
import Derived.Test.YtkkimcefjelnbaaWin
import Derived.Laws.OwnMore
import Derived.BigQuiet
import Derived.Deep.QuietTactic
import Derived.Deep.Draws
import Derived.WalkSmall
import Derived.ProofKit
import Derived.OpenShut
import Derived.ChangeOld
namespace Go.Proofs.Ytkkimcefjelnbaa.listWindowsDone
open Go.ChangeShapes Go.WideShapes Go.ChangeAt Go.RowKit
set_option linter.unusedVariables false
/-- Two rows of integers in memory that read the same. -/
def TwoInts (w : World) (A A' : Option Addr) (n : Nat) : Prop :=
  ∀ i, i < n → ∃ (b b' : Nat) (x : Int), A = some ⟨b, 0, none⟩ ∧ A' = some ⟨b', 0, none⟩ ∧ w.cell? ⟨b, i, none⟩ = some (.int .i64 x) ∧ w.cell? ⟨b', i, none⟩ = some (.int .i64 x)
set_option maxRecDepth 100000 in
set_option maxHeartbeats 400000 in
theorem equal_same (A A' : Option Addr) (n c c' : Nat) (w : World) (hn : n ≤ 4002) (h : TwoInts w A A' n) :
    Calls Try.prog 11 #[.slice A n c, .slice A' n c'] w fun e w' => e = .returned (.bool true) ∧ Below w.heap.size w w' := by
  have HT := Lib.hid h; clear h
  have hne : (!((n : Int) == (n : Int))) = false := by simp
  go_enter Try.func11, Try.ntmps11
  go_wp2
  go_loopw [13] (fun i wr => ∃ k q : Nat, k ≤ n ∧ i = .int .i64 k ∧ wr = w.drewN q) (fun i _ => n - (intOf i).toNat)
  case atStart => exact ⟨0, 0, Nat.zero_le _, rfl, rfl⟩
  case round =>
    obtain ⟨k, q, hk, rfl, rfl⟩ := hrel
    by_cases hlt : k < n
    · obtain ⟨b, b', x, rfl, rfl, h1, g1⟩ := HT.out k hlt
      go_wp2
      go_quiet (fail)
      go_wp2
      go_roundw
      case rel => exact ⟨k + 1, _, by omega, by go_num, rfl⟩
      case measure => simp [intOf]; omega
    · go_wp2
      go_ret
      exact ⟨rfl, below_drewN (Below.refl _ _) _⟩
/-- Two owned rows of the same integers. -/
theorem two_of_own {w w1 : World} {xs : List Int} {n B B' : Nat} {g g' cap cap' : Nat} (hn : n = xs.length) (h : w.ownsRow B 3 1 (.slice (some ⟨g, 0, none⟩) n cap) n (xs.map (Value.int .i64))) (hb : Below B' w w1) (hg : g < B')
    (h' : w1.ownsRow B' 3 1 (.slice (some ⟨g', 0, none⟩) n cap') n (xs.map (Value.int .i64))) : TwoInts w1 (some ⟨g, 0, none⟩) (some ⟨g', 0, none⟩) n := fun i hi => by
  have e : (xs.map (Value.int .i64))[i]? = some (.int .i64 (xs[i]'(by omega))) := by
    rw [List.getElem?_map, List.getElem?_eq_getElem (by omega)]
    rfl
  exact ⟨g, g', _, rfl, rfl, ((hb.cell (p := ⟨g, i, none⟩) hg).trans (h.cellAt i (by omega))).trans e, (h'.cellAt i (by omega)).trans e⟩
set_option maxRecDepth 100000 in
set_option maxHeartbeats 1000000 in
theorem walk_bad (p c a : Int) (w : World) (h : p < 1 ∨ 2000 < p ∨ c < 1 ∨ p < c ∨ a < 0 ∨ 2000 < a) :
    Calls Try.prog 4 #[.int .i64 p, .int .i64 c, .int .i64 a] w fun e w' => e = .returned (.bool true) ∧ Below w.heap.size w w' := by
  have H1 := Lib.hid (fun wX => window_bad p c a wX h)
  by_cases b0 : p < 1
  · clear h
    go_enter Try.func4, Try.ntmps4
    go_wp2_with fail
    refine (H1.out _).mono ?_
    rintro e w' ⟨rfl, rfl⟩
    go_wp2_with fail
    go_ret
    exact ⟨rfl, Below.refl _ _⟩
  by_cases b1 : 2000 < p
  · clear h
    go_enter Try.func4, Try.ntmps4
    go_wp2_with fail
    refine (H1.out _).mono ?_
    rintro e w' ⟨rfl, rfl⟩
    go_wp2_with fail
    go_ret
    exact ⟨rfl, Below.refl _ _⟩
  by_cases b2 : c < 1
  · clear h
    go_enter Try.func4, Try.ntmps4
    go_wp2_with fail
    refine (H1.out _).mono ?_
    rintro e w' ⟨rfl, rfl⟩
    go_wp2_with fail
    go_ret
    exact ⟨rfl, Below.refl _ _⟩
  by_cases b3 : p < c
  · clear h
    go_enter Try.func4, Try.ntmps4
    go_wp2_with fail
    refine (H1.out _).mono ?_
    rintro e w' ⟨rfl, rfl⟩
    go_wp2_with fail
    go_ret
    exact ⟨rfl, Below.refl _ _⟩
  by_cases b4 : a < 0
  · clear h
    go_enter Try.func4, Try.ntmps4
    go_wp2_with fail
    refine (H1.out _).mono ?_
    rintro e w' ⟨rfl, rfl⟩
    go_wp2_with fail
    go_ret
    exact ⟨rfl, Below.refl _ _⟩
  have b5 : 2000 < a := by omega
  clear h
  go_enter Try.func4, Try.ntmps4
  go_wp2_with fail
  refine (H1.out _).mono ?_
  rintro e w' ⟨rfl, rfl⟩
  go_wp2_with fail
  go_ret
  exact ⟨rfl, Below.refl _ _⟩
set_option maxRecDepth 100000 in
set_option maxHeartbeats 1000000 in
theorem walk_any (p c a : Nat) (w : World) (h1 : 1 ≤ p) (h2 : p ≤ 2000) (h3 : 1 ≤ c) (h4 : c ≤ p) (h6 : a ≤ 2000) :
    Calls Try.prog 4 #[.int .i64 p, .int .i64 c, .int .i64 a] w fun e w' => e = .returned (.bool true) ∧ Below w.heap.size w w' := by
  obtain ⟨i0, hi, hz0, hz1, hz2⟩ := info_parts int_info
  have H1 := Lib.hid (window_any p c a w h1 h2 h3 h4 h6)
  have hpc : decide (p < c) = false := by simp; omega
  obtain ⟨f1, f2, f3⟩ := winL_facts p c a p
  obtain ⟨_, q0, f4, _⟩ := f3 (by omega)
  clear f1 f3
  obtain ⟨N, hN⟩ : ∃ N, (winL p c a p).1.length = N := ⟨_, rfl⟩
  rw [hN] at f2 f4
  have HN0 := Lib.hid hN; clear hN
  have hNpos : 0 < N := by omega
  clear f4
  go_enter Try.func4, Try.ntmps4
  go_wp2_with fail
  refine H1.out.mono ?_
  rintro e w1 ⟨v, rfl, hown0, hb01⟩
  rw [HN0.out] at hown0
  have HO0 := Lib.hid hown0; clear hown0
  go_wp2_with fail
  go_loopw [9, 10, 11] (fun u l i wr => ∃ n j len L : Nat, i = .int .i64 j ∧ l = .int .i64 L ∧ (j = n + 1 ∧ len = (winL p c a n).1.length ∧ L = (winL p c a n).2) ∧ 1 ≤ j ∧ j ≤ p + 1 ∧ wr.ownsRow w1.heap.size 3 1 u len ((winL p c a n).1.map (Value.int .i64)) ∧ Below w1.heap.size w1 wr) (fun _ _ i _ => p + 1 - (intOf i).toNat)
  case atStart =>
    exact ⟨0, 1, 0, 0, rfl, rfl, ⟨rfl, rfl, rfl⟩, by omega, by omega, World.ownsRow_nil _ _ _ _, Below.refl _ _⟩
  case round =>
    obtain ⟨n, j, len, L, rfl, rfl, ⟨hj, hlen, hL⟩, hj2, hjp, hown, hbw⟩ := hrel
    obtain ⟨f1, f5, _⟩ := winL_facts p c a n
    rw [← hlen] at f5
    rw [← hL] at f1
    have hlen2 : len ≤ 4002 := by omega
    have hLj : L < j := by omega
    have HO := Lib.hid hown; clear hown
    have HJ := Lib.hid (And.intro hj (And.intro hlen hL)); clear hlen hL f5 f1
    have hnp : ¬ j ≤ p → n = p := by omega
    have hskip : (j : Int) < p ∧ 1 < j ∧ ((j : Int) < (c : Int) - a ∨ (c : Int) + a < j) → winSkip p c a (n + 1) = true := fun hs => by rw [← hj]; exact winSkip_yes (by omega) (by omega) hs.2.2
    have hnot : j ≤ p → ¬ ((j : Int) < p ∧ 1 < j ∧ ((j : Int) < (c : Int) - a ∨ (c : Int) + a < j)) → winSkip p c a (n + 1) = false := fun hp hs => by rw [← hj]; exact winSkip_no (by omega)
    have HNP := Lib.hid hnp; clear hnp
    have HSK := Lib.hid hskip; clear hskip
    have HNO := Lib.hid hnot; clear hnot
    clear hj
    by_cases hlt : j ≤ p
    · by_cases hs : (j : Int) < p ∧ 1 < j ∧ ((j : Int) < (c : Int) - a ∨ (c : Int) + a < j)
      · have HS := Lib.hid (HSK.out hs)
        obtain ⟨hs1, hs0, hs2⟩ := hs
        have n1 : ((j : Int) != 1) = true := by simp; omega
        have n2 : ((j : Int) != (p : Int)) = true := by simp; omega
        rcases hs2 with hs2 | hs2
        · go_wp2_with fail
          go_roundw
          case rel =>
            refine ⟨n + 1, j + 1, len, L, by go_num, rfl, ⟨by rw [HJ.out.1], ?_, ?_⟩, by omega, by omega, ?_, hbw⟩
            · rw [winL_skip HS.out]; exact HJ.out.2.1
            · rw [winL_skip HS.out]; exact HJ.out.2.2
            · rw [winL_skip HS.out]; exact HO.out
          case measure => simp [intOf]; omega
        · have hs3 : ¬ (j : Int) < (c : Int) - a := by omega
          go_wp2_with fail
          go_roundw
          case rel =>
            refine ⟨n + 1, j + 1, len, L, by go_num, rfl, ⟨by rw [HJ.out.1], ?_, ?_⟩, by omega, by omega, ?_, hbw⟩
            · rw [winL_skip HS.out]; exact HJ.out.2.1
            · rw [winL_skip HS.out]; exact HJ.out.2.2
            · rw [winL_skip HS.out]; exact HO.out
          case measure => simp [intOf]; omega
      · have HS := Lib.hid (HNO.out hlt hs)
        have hkeep : (((j : Int) != 1) = false) ∨ (((j : Int) != 1) = true ∧ ((j : Int) != (p : Int)) = false) ∨ (((j : Int) != 1) = true ∧ ((j : Int) != (p : Int)) = true ∧ ¬ (j : Int) < (c : Int) - a ∧ ¬ (c : Int) + a < j) := by
          by_cases e1 : j = 1
          · left; simp; omega
          · by_cases e2 : j = p
            · right; left; exact ⟨by simp; omega, by simp; omega⟩
            · right; right; exact ⟨by simp; omega, by simp; omega, by omega⟩
        clear hs
        by_cases hLn : L + 1 = j
        · have hgt : ¬ (L : Int) + 1 < j := by omega
          have HN := Lib.hid (winL_near HS.out (by rw [← HJ.out.2.2]; have := HJ.out.1; omega))
          rcases hkeep with hk | ⟨hk, hk1⟩ | ⟨hk, hk1, hk2, hk3⟩ <;> (
            go_wp2_with (at_builtin; refine wpList_append_own _ rfl _ _ 30 rfl w1.heap.size 3 i0 (.int .i64 0) 1 8 Try.underlying30 hi hz0 hz1 hz2 rfl (by decide) _ _ _ rfl (HO.out.alloc _) ⟨wr.heap.size, 0, none⟩ 1 1 [.int .i64 j] rfl rfl ?c1 ?c2 ?c3 ?c4 ?c5 ?_)
            try (case c1 => exact cell_one_new _ _ _)
            case c2 => first | rfl | (intro u hu; simp at hu; subst hu; rfl)
            case c3 => unfold maxLen; omega
            case c4 => omega
            case c5 => have := hbw.size; simp; omega
            intro v' w2 hown' hgrow _
            have hb1 := (hbw.alloc hbw.size _).grown hgrow (by have := hbw.size; simp; omega) (fun j hj => (HO.out.lt j hj).1)
            clear hgrow
            have HO1 := Lib.hid hown'; clear hown'
            go_wp2_with fail
            go_roundw
            case rel =>
              refine ⟨n + 1, j + 1, len + 1, j, by go_num, rfl, ⟨by rw [HJ.out.1], ?_, ?_⟩, by omega, by omega, ?_, hb1⟩
              · rw [HN.out, List.length_append, ← HJ.out.2.1]; rfl
              · rw [HN.out]; exact HJ.out.1
              · have := HO1.out
                rw [HN.out, List.map_append, ← HJ.out.1]
                exact this
            case measure => simp [intOf]; omega)
        · have hgt : (L : Int) + 1 < j := by omega
          have HN := Lib.hid (winL_far HS.out (by rw [← HJ.out.2.2]; have := HJ.out.1; omega))
          rcases hkeep with hk | ⟨hk, hk1⟩ | ⟨hk, hk1, hk2, hk3⟩ <;> (
            go_wp2_with (at_builtin; refine wpList_append_own _ rfl _ _ 30 rfl w1.heap.size 3 i0 (.int .i64 0) 1 8 Try.underlying30 hi hz0 hz1 hz2 rfl (by decide) _ _ _ rfl (HO.out.alloc _) ⟨wr.heap.size, 0, none⟩ 1 1 [.int .i64 0] rfl rfl ?e1 ?e2 ?e3 ?e4 ?e5 ?_)
            try (case e1 => exact cell_one_new _ _ _)
            case e2 => first | rfl | (intro u hu; simp at hu; subst hu; rfl)
            case e3 => unfold maxLen; omega
            case e4 => omega
            case e5 => have := hbw.size; simp; omega
            intro v1 w2 hown1 hgrow1 _
            have hb1 := (hbw.alloc hbw.size _).grown hgrow1 (by have := hbw.size; simp; omega) (fun j hj => (HO.out.lt j hj).1)
            clear hgrow1
            have HO1 := Lib.hid hown1; clear hown1
            go_wp2_with (at_builtin; refine wpList_append_own _ rfl _ _ 30 rfl w1.heap.size 3 i0 (.int .i64 0) 1 8 Try.underlying30 hi hz0 hz1 hz2 rfl (by decide) _ _ _ rfl (HO1.out.alloc _) ⟨w2.heap.size, 0, none⟩ 1 1 [.int .i64 j] rfl rfl ?d1 ?d2 ?d3 ?d4 ?d5 ?_)
            try (case d1 => exact cell_one_new _ _ _)
            case d2 => first | rfl | (intro u hu; simp at hu; subst hu; rfl)
            case d3 => unfold maxLen; omega
            case d4 => omega
            case d5 => have := hb1.size; simp; omega
            intro v' w3 hown' hgrow _
            have hb2 := (hb1.alloc hb1.size _).grown hgrow (by have := hb1.size; simp; omega) (fun j hj => (HO1.out.lt j hj).1)
            clear hgrow
            have HO2 := Lib.hid hown'; clear hown'
            go_wp2_with fail
            go_roundw
            case rel =>
              refine ⟨n + 1, j + 1, len + 1 + 1, j, by go_num, rfl, ⟨by rw [HJ.out.1], ?_, ?_⟩, by omega, by omega, ?_, hb2⟩
              · rw [HN.out, List.length_append, List.length_append, ← HJ.out.2.1]; rfl
              · rw [HN.out]; exact HJ.out.1
              · have := HO2.out
                rw [HN.out, List.append_assoc, List.map_append, ← HJ.out.1]
                exact this
            case measure => simp [intOf]; omega)
    · obtain rfl := HNP.out hlt
      have hlenN : len = N := HJ.out.2.1.trans HN0.out
      subst hlenN
      obtain ⟨g, cap, rfl, hg1, hg2⟩ := HO0.out.form hNpos
      have hown := HO.out
      obtain ⟨g', cap', hu, hg1', hg2'⟩ := hown.form hNpos
      subst hu
      have H3 := Lib.hid (fun wX (hX : wX = wr) => equal_same _ _ _ cap cap' wX hlen2 (hX ▸ two_of_own HJ.out.2.1 HO0.out hbw hg2 hown))
      clear hown HO HO0
      go_wp2_with fail
      refine (H3.out _ rfl).mono ?_
      rintro e w3 ⟨rfl, hb3⟩
      go_wp2_with fail
      go_ret
      exact ⟨rfl, hb01.trans ((hbw.mono hb01.size).trans (hb3.mono (Nat.le_trans hb01.size hbw.size)))⟩
theorem walk (p c a : Int) (w : World) :
    Calls Try.prog 4 #[.int .i64 p, .int .i64 c, .int .i64 a] w fun e w' => e = .returned (.bool true) ∧ Below w.heap.size w w' := by
  by_cases h : p < 1 ∨ 2000 < p ∨ c < 1 ∨ p < c ∨ a < 0 ∨ 2000 < a
  · exact walk_bad p c a w h
  · obtain ⟨p', rfl⟩ : ∃ n : Nat, p = n := ⟨p.toNat, by omega⟩
    obtain ⟨c', rfl⟩ : ∃ n : Nat, c = n := ⟨c.toNat, by omega⟩
    obtain ⟨a', rfl⟩ : ∃ n : Nat, a = n := ⟨a.toNat, by omega⟩
    exact walk_any p' c' a' w (by omega) (by omega) (by omega) (by omega) (by omega)
/-! ### The row's step -/
theorem own : ownKnob Try.prog.godebug = none := by kernel_rfl
set_option maxRecDepth 100000 in
theorem lifted (os : Os) (started : os.Started) (H : Type) (enc : TypeId × Value → H) :
    ReturnsInHanded {} Try.checked os 4 .any (Rows.listWindowsSpec.pre6 enc Try.prog Try.f4 Rows.listWindowsRow.domain false) (Rows.listWindowsSpec.post enc Try.prog Try.f4 false true false false) := by
  refine returnsInHanded_of_change (C := Try.checked) own started (by kernel_rfl) Try.func4
    (ChangeSpec.witness6 (enc := enc) (C := Try.checked) false ⟨#[], #[.int .i64 0, .int .i64 0, .int .i64 0], []⟩ 8 (by kernel_rfl) (by kernel_rfl) (by kernel_rfl) (by kernel_rfl)) ?_
  intro W base args ds gs before hval0 hW hcnd _
  have hval : ∀ (j : Nat) t v, Try.f4.params[j]? = some t → args[j]? = some v → Value.okWide Try.prog W .any base t v := hval0
  have hW' := hW
  obtain ⟨p, q, hA0, hV, rfl, hfz, hnd⟩ := hW
  have hA : DataW.TrodAll enc Try.prog W 0 (fun _ => true) true Try.f4.params.toList args.toList ds p := hA0
  rw [Try.params4] at hA hval
  obtain ⟨v0, vs0, d0, ds0, p0, q0, hargs, rfl, rfl, h0, r0⟩ := trodAll_cons hA
  obtain ⟨v1, vs1, d1, ds1, p1, q1, rfl, rfl, rfl, h1, r1⟩ := trodAll_cons r0
  obtain ⟨v2, vs2, d2, ds2, p2, q2, rfl, rfl, rfl, h2, r2⟩ := trodAll_cons r1
  obtain ⟨rfl, rfl, rfl⟩ := trodAll_nil r2
  obtain rfl : args = #[v0, v1, v2] := by cases args; simp_all
  obtain ⟨rfl, rfl⟩ := trodVars_none hV
  obtain ⟨a0, rfl, rfl, rfl, w0⟩ := open_int Try.underlying3 (hval 0 3 v0 rfl rfl) h0
  obtain ⟨a1, rfl, rfl, rfl, w1⟩ := open_int Try.underlying3 (hval 1 3 v1 rfl rfl) h1
  obtain ⟨a2, rfl, rfl, rfl, w2⟩ := open_int Try.underlying3 (hval 2 3 v2 rfl rfl) h2
  clear hA0 hval0
  simp only [List.append_nil] at hW'
  refine (walk a0 a1 a2 W).mono fun e W' ⟨he, bel⟩ => ?_
  subst he
  exact ⟨_, rfl, _, _, _, [], _, [], hW', trodAll_mk1 (shut_bool Try.underlying4 _), (trodAll_cons_mk (shut_int Try.underlying3 w0) (trodAll_cons_mk (shut_int Try.underlying3 w1) (trodAll_cons_mk (shut_int Try.underlying3 w2) trodAll_mk0))), rfl, bel.frame _, fun h => by cases h⟩

theorem over : Rows.listWindowsRow.holds Try.pinned (OpenSpec.ofChange Rows.listWindowsSpec) :=
  OpenClaim.holds_of_wide 4 Try.f4 rfl rfl rfl rfl rfl rfl rfl ⟨rfl, rfl, rfl, rfl, rfl⟩ rfl rfl rfl rfl rfl (by kernel_rfl) Try.func4 (by kernel_rfl)
    (of_decide_eq_true (by kernel_rfl)) (by unfold Func.isWrapper; first | (rw [if_pos (by decide +kernel)]; kernel_rfl) | (rw [if_neg (by decide +kernel)]; exact ⟨rfl, rfl⟩))
    (fun os started H enc _ => lifted os started H enc)
theorem proved : Rows.ListWindowsSaid := over
#print axioms proved
end Go.Proofs.Ytkkimcefjelnbaa.listWindowsDone
