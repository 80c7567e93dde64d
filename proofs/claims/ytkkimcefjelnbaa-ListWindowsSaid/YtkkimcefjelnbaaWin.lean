/- DERIVED. What list.Window returns, for all numbers: by a walk of its text. No condition. -/
import Derived.Test.YtkkimcefjelnbaaRows
import Derived.Test.YtkkimcefjelnbaaWinPlain
import Derived.WalkKit
import Derived.WalkSpells
import Derived.WalkLawsBesides
import Derived.Lib.Hide
import Derived.Deep.AppendLies
import Derived.Maps.AppendAt
namespace Go.Proofs.Ytkkimcefjelnbaa
open Go.RowKit
set_option linter.unusedVariables false
theorem int_info : (Try.prog.info? 3).map (fun i => (i.zero, i.size, i.bytes)) = some (some (.int .i64 0), 1, 8) := by kernel_rfl
def WinPost (p c a : Nat) (w : World) (e : Ending) (w' : World) : Prop :=
  ∃ v, e = .returned (.tuple #[v, .int .i64 0]) ∧ w'.ownsRow w.heap.size 3 1 v (winL p c a p).1.length ((winL p c a p).1.map (Value.int .i64)) ∧ Below w.heap.size w w'
def WinBad (w : World) (e : Ending) (w' : World) : Prop := e = .returned (.tuple #[.slice none 0 0, .int .i64 2]) ∧ w = w'
set_option maxRecDepth 100000 in
set_option maxHeartbeats 400000 in
theorem window_bad (p c a : Int) (w : World) (h : p < 1 ∨ 2000 < p ∨ c < 1 ∨ p < c ∨ a < 0 ∨ 2000 < a) :
    Calls Try.prog 10 #[.int .i64 p, .int .i64 c, .int .i64 a] w (WinBad w) := by
  by_cases h1 : p < 1
  · clear h
    go_enter Try.func10, Try.ntmps10
    go_wp2_with fail
    go_ret2
    exact ⟨rfl, rfl⟩
  by_cases h2 : 2000 < p
  · clear h
    go_enter Try.func10, Try.ntmps10
    go_wp2_with fail
    go_ret2
    exact ⟨rfl, rfl⟩
  by_cases h3 : c < 1
  · clear h
    go_enter Try.func10, Try.ntmps10
    go_wp2_with fail
    go_ret2
    exact ⟨rfl, rfl⟩
  by_cases h4 : p < c
  · clear h
    go_enter Try.func10, Try.ntmps10
    go_wp2_with fail
    go_ret2
    exact ⟨rfl, rfl⟩
  by_cases h5 : a < 0
  · clear h
    go_enter Try.func10, Try.ntmps10
    go_wp2_with fail
    go_ret2
    exact ⟨rfl, rfl⟩
  have h6 : 2000 < a := by omega
  clear h
  go_enter Try.func10, Try.ntmps10
  go_wp2_with fail
  go_ret2
  exact ⟨rfl, rfl⟩
/-- The last cell of a row of links. -/
theorem last_cell {w : World} {B g cap p c a n : Nat} (h : w.ownsRow B 3 1 (.slice (some ⟨g, 0, none⟩) (winL p c a n).1.length cap) (winL p c a n).1.length ((winL p c a n).1.map (Value.int .i64))) {q : Nat} (hq : (winL p c a n).1.length = q + 1) (hv : (winL p c a n).1[q]? = some (((winL p c a n).2 : Nat) : Int)) :
    w.cell? ⟨g, q, none⟩ = some (.int .i64 (((winL p c a n).2 : Nat) : Int)) := by
  rw [h.cellAt q (by omega), List.getElem?_map, hv]
  rfl
set_option maxRecDepth 100000 in
set_option maxHeartbeats 1000000 in
theorem window_any (p c a : Nat) (w : World) (h1 : 1 ≤ p) (h2 : p ≤ 2000) (h3 : 1 ≤ c) (h4 : c ≤ p) (h6 : a ≤ 2000) :
    Calls Try.prog 10 #[.int .i64 p, .int .i64 c, .int .i64 a] w (WinPost p c a w) := by
  obtain ⟨i0, hi, hz0, hz1, hz2⟩ := info_parts int_info
  have hpc : decide (p < c) = false := by simp; omega
  go_enter Try.func10, Try.ntmps10
  go_wp2_with fail
  go_loopw [8, 9] (fun v i wr => ∃ n j len L : Nat, i = .int .i64 j ∧ (j = n + 1 ∧ len = (winL p c a n).1.length ∧ L = (winL p c a n).2) ∧ 2 ≤ j ∧ j ≤ p + 1 ∧ wr.ownsRow w.heap.size 3 1 v len ((winL p c a n).1.map (Value.int .i64)) ∧ Below w.heap.size w wr) (fun _ i _ => p + 1 - (intOf i).toNat)
  case atStart =>
    refine ⟨1, 2, _, _, rfl, ⟨rfl, rfl, rfl⟩, by omega, by omega, ?_, (Below.refl _ _).alloc (Nat.le_refl _) _⟩
    rw [winL_one]
    exact World.ownsRow_lit w _ 1 (Nat.le_refl _) (by unfold maxLen; omega) rfl
  case round =>
    obtain ⟨n, j, len, L, rfl, ⟨hj, hlen, hL⟩, hj2, hjp, hown, hbw⟩ := hrel
    obtain ⟨f1, f2, f3⟩ := winL_facts p c a n
    obtain ⟨f3, q, f4, f5⟩ := f3 (by omega)
    rw [← hlen] at f2 f4
    rw [← hL] at f1 f3 f5
    have hlen2 : len ≤ 4002 := by omega
    have hlen1 : 1 ≤ len := by omega
    have hLj : L < j := by omega
    obtain ⟨g, cap, rfl, hg1, hg2⟩ := hown.form (by omega)
    have hcell : wr.cell? ⟨g, len - 1, none⟩ = some (.int .i64 L) := by
      rw [hown.cellAt _ (by omega), List.getElem?_map, show len - 1 = q by omega, f5]
      rfl
    have HO := Lib.hid hown; clear hown
    have HJ := Lib.hid (And.intro hj (And.intro hlen hL)); clear hlen hL f2 f4 f5 f1 f3
    have hnp : ¬ j ≤ p → n = p := by omega
    have hskip : (j : Int) < p ∧ ((j : Int) < (c : Int) - a ∨ (c : Int) + a < j) → winSkip p c a (n + 1) = true := fun hs => by rw [← hj]; exact winSkip_yes (by omega) (by omega) hs.2
    have hnot : j ≤ p → ¬ ((j : Int) < p ∧ ((j : Int) < (c : Int) - a ∨ (c : Int) + a < j)) → winSkip p c a (n + 1) = false := fun hp hs => by rw [← hj]; exact winSkip_no (by omega)
    have HNP := Lib.hid hnp; clear hnp
    have HSK := Lib.hid hskip; clear hskip
    have HNO := Lib.hid hnot; clear hnot
    clear hj
    by_cases hlt : j ≤ p
    · by_cases hs : (j : Int) < p ∧ ((j : Int) < (c : Int) - a ∨ (c : Int) + a < j)
      · have HS := Lib.hid (HSK.out hs)
        obtain ⟨hs1, hs2⟩ := hs
        rcases hs2 with hs2 | hs2
        · go_wp2_with fail
          go_roundw
          case rel =>
            refine ⟨n + 1, j + 1, len, L, by go_num, ⟨by rw [HJ.out.1], ?_, ?_⟩, by omega, by omega, ?_, hbw⟩
            · rw [winL_skip HS.out]; exact HJ.out.2.1
            · rw [winL_skip HS.out]; exact HJ.out.2.2
            · rw [winL_skip HS.out]; exact HO.out
          case measure => simp [intOf]; omega
        · have hs3 : ¬ (j : Int) < (c : Int) - a := by omega
          go_wp2_with fail
          go_roundw
          case rel =>
            refine ⟨n + 1, j + 1, len, L, by go_num, ⟨by rw [HJ.out.1], ?_, ?_⟩, by omega, by omega, ?_, hbw⟩
            · rw [winL_skip HS.out]; exact HJ.out.2.1
            · rw [winL_skip HS.out]; exact HJ.out.2.2
            · rw [winL_skip HS.out]; exact HO.out
          case measure => simp [intOf]; omega
      · have HS := Lib.hid (HNO.out hlt hs)
        have hkeep : ¬ (j : Int) < p ∨ ((j : Int) < p ∧ ¬ (j : Int) < (c : Int) - a ∧ ¬ (c : Int) + a < j) := by omega
        clear hs
        by_cases hLn : L + 1 = j
        · have hne : ((L : Int) != (j : Int) - 1) = false := by simp; omega
          have HN := Lib.hid (winL_near HS.out (by rw [← HJ.out.2.2]; have := HJ.out.1; omega))
          rcases hkeep with hk | ⟨hk, hk1, hk2⟩ <;> (
            go_wp2_with (at_builtin; refine wpList_append_own _ rfl _ _ 30 rfl w.heap.size 3 i0 (.int .i64 0) 1 8 Try.underlying30 hi hz0 hz1 hz2 rfl (by decide) _ _ _ rfl (HO.out.alloc _) ⟨wr.heap.size, 0, none⟩ 1 1 [.int .i64 j] rfl rfl ?c1 ?c2 ?c3 ?c4 ?c5 ?_)
            try (case c1 => exact cell_one_new _ _ _)
            case c2 => first | rfl | (intro u hu; simp at hu; subst hu; rfl)
            case c3 => unfold maxLen; omega
            case c4 => omega
            case c5 => have := hbw.size; simp; omega
            intro v' w1 hown' hgrow _
            have hb1 := (hbw.alloc hbw.size _).grown hgrow (by have := hbw.size; simp; omega) (fun j hj => (HO.out.lt j hj).1)
            clear hgrow
            have HO1 := Lib.hid hown'; clear hown'
            go_wp2_with fail
            go_roundw
            case rel =>
              refine ⟨n + 1, j + 1, len + 1, j, by go_num, ⟨by rw [HJ.out.1], ?_, ?_⟩, by omega, by omega, ?_, hb1⟩
              · rw [HN.out, List.length_append, ← HJ.out.2.1]; rfl
              · rw [HN.out]; exact HJ.out.1
              · have := HO1.out
                rw [HN.out, List.map_append, ← HJ.out.1]
                exact this
            case measure => simp [intOf]; omega)
        · have hne : ((L : Int) != (j : Int) - 1) = true := by simp; omega
          have HN := Lib.hid (winL_far HS.out (by rw [← HJ.out.2.2]; have := HJ.out.1; omega))
          rcases hkeep with hk | ⟨hk, hk1, hk2⟩ <;> (
            go_wp2_with (at_builtin; refine wpList_append_own _ rfl _ _ 30 rfl w.heap.size 3 i0 (.int .i64 0) 1 8 Try.underlying30 hi hz0 hz1 hz2 rfl (by decide) _ _ _ rfl (HO.out.alloc _) ⟨wr.heap.size, 0, none⟩ 1 1 [.int .i64 0] rfl rfl ?e1 ?e2 ?e3 ?e4 ?e5 ?_)
            try (case e1 => exact cell_one_new _ _ _)
            case e2 => first | rfl | (intro u hu; simp at hu; subst hu; rfl)
            case e3 => unfold maxLen; omega
            case e4 => omega
            case e5 => have := hbw.size; simp; omega
            intro v1 w1 hown1 hgrow1 _
            have hb1 := (hbw.alloc hbw.size _).grown hgrow1 (by have := hbw.size; simp; omega) (fun j hj => (HO.out.lt j hj).1)
            clear hgrow1
            have HO1 := Lib.hid hown1; clear hown1
            go_wp2_with (at_builtin; refine wpList_append_own _ rfl _ _ 30 rfl w.heap.size 3 i0 (.int .i64 0) 1 8 Try.underlying30 hi hz0 hz1 hz2 rfl (by decide) _ _ _ rfl (HO1.out.alloc _) ⟨w1.heap.size, 0, none⟩ 1 1 [.int .i64 j] rfl rfl ?d1 ?d2 ?d3 ?d4 ?d5 ?_)
            try (case d1 => exact cell_one_new _ _ _)
            case d2 => first | rfl | (intro u hu; simp at hu; subst hu; rfl)
            case d3 => unfold maxLen; omega
            case d4 => omega
            case d5 => have := hb1.size; simp; omega
            intro v' w2 hown' hgrow _
            have hb2 := (hb1.alloc hb1.size _).grown hgrow (by have := hb1.size; simp; omega) (fun j hj => (HO1.out.lt j hj).1)
            clear hgrow
            have HO2 := Lib.hid hown'; clear hown'
            go_wp2_with fail
            go_roundw
            case rel =>
              refine ⟨n + 1, j + 1, len + 1 + 1, j, by go_num, ⟨by rw [HJ.out.1], ?_, ?_⟩, by omega, by omega, ?_, hb2⟩
              · rw [HN.out, List.length_append, List.length_append, ← HJ.out.2.1]; rfl
              · rw [HN.out]; exact HJ.out.1
              · have := HO2.out
                rw [HN.out, List.append_assoc, List.map_append, ← HJ.out.1]
                exact this
            case measure => simp [intOf]; omega)
    · obtain rfl := HNP.out hlt
      go_wp2_with fail
      go_ret2
      refine ⟨_, rfl, ?_, hbw⟩
      rw [← HJ.out.2.1]
      exact HO.out
end Go.Proofs.Ytkkimcefjelnbaa
