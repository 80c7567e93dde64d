/- DERIVED. What list.Pager and the reference's PagerOf return, for all numbers: by a walk of each text. No condition. -/
import Derived.Test.YtkkimcefjelnbaaGreatDoorRows
import Derived.Test.YtkkimcefjelnbaaGreatDoorPagesPlain
import Derived.WalkKit
import Derived.WalkSpells
import Derived.WalkLawsBesides
import Derived.Deep.AppendLies
import Derived.Lib.Hide
namespace Go.Proofs.YtkkimcefjelnbaaGreatDoor
open Go.RowKit
set_option linter.unusedVariables false
theorem part_info : (Tryz.prog.info? 28).map (fun i => (i.zero, i.size, i.bytes)) = some (some (.agg #[.int .i64 0, .int .i64 0, .int .i64 0]), 3, 24) := by kernel_rfl
/-- What a pager returns. -/
def PagePost (m s : Nat) (w : World) (e : Ending) (w' : World) : Prop :=
  ∃ k v, LastPart m s k ∧ k ≤ 4000 ∧ e = .returned (.tuple #[v, .int .i64 0]) ∧ w'.ownsRow w.heap.size 28 3 v k (pagesL m s k) ∧ Below w.heap.size w w'
theorem cells3_new (w : World) (x y z : Value) (t : TypeId) : ∀ j u, [x, y, z][j]? = some u → (w.alloc (.cells #[x, y, z] t)).cell? ((⟨w.heap.size, 0, none⟩ : Addr).add j) = some u := by
  intro j u hj
  match j, hj with
  | 0, hj => simp at hj; subst hj; simp [Addr.add]
  | 1, hj => simp at hj; subst hj; simp [Addr.add]
  | 2, hj => simp at hj; subst hj; simp [Addr.add]
  | j + 3, hj => simp at hj
def PageBad (w : World) (e : Ending) (w' : World) : Prop := e = .returned (.tuple #[.slice none 0 0, .int .i64 2]) ∧ w = w'

set_option maxRecDepth 100000 in
set_option maxHeartbeats 400000 in
theorem pager_bad (m s : Int) (w : World) (h : m < 0 ∨ 2000 < m ∨ s < 1 ∨ 2000 < s) :
    Calls Tryz.prog 5 #[.int .i64 m, .int .i64 s] w (PageBad w) := by
  by_cases h1 : m < 0
  · clear h
    go_enter Tryz.func5, Tryz.ntmps5
    go_wp2_with fail
    go_ret2
    exact ⟨rfl, rfl⟩
  · by_cases h2 : 2000 < m
    · clear h
      go_enter Tryz.func5, Tryz.ntmps5
      go_wp2_with fail
      go_ret2
      exact ⟨rfl, rfl⟩
    · by_cases h3 : s < 1
      · clear h
        go_enter Tryz.func5, Tryz.ntmps5
        go_wp2_with fail
        go_ret2
        exact ⟨rfl, rfl⟩
      · have h4 : 2000 < s := by omega
        clear h
        go_enter Tryz.func5, Tryz.ntmps5
        go_wp2_with fail
        go_ret2
        exact ⟨rfl, rfl⟩
set_option maxRecDepth 100000 in
set_option maxHeartbeats 800000 in
theorem pager_any (m s : Nat) (w : World) (hm : m ≤ 2000) (hs1 : 1 ≤ s) (hs : s ≤ 2000) :
    Calls Tryz.prog 5 #[.int .i64 m, .int .i64 s] w (PagePost m s w) := by
  obtain ⟨i0, hi, hz0, hz1, hz2⟩ := info_parts part_info
  rcases Nat.lt_or_ge m s with hms | hms <;> (
  go_enter Tryz.func5, Tryz.ntmps5
  go_wp2_with fail
  go_loopw [6, 7] (fun v i wr => ∃ k f : Nat, i = .int .i64 f ∧ f = k * s ∧ 1 ≤ k ∧ k ≤ f ∧ s ≤ f ∧ f ≤ 4000 ∧ (k = 1 ∨ f < m + s) ∧ wr.ownsRow w.heap.size 28 3 v k (pagesL m s k) ∧ Below w.heap.size w wr) (fun _ i _ => m - (intOf i).toNat)
  case atStart =>
    refine ⟨1, s, rfl, by omega, by omega, by omega, by omega, by omega, .inl rfl, ?_, (Below.refl _ _).alloc (Nat.le_refl _) _⟩
    have e : pagesL m s 1 = [.int .i64 1, .int .i64 0, .int .i64 (min s m : Nat)] := by simp [pagesL]
    rw [e]
    first | rw [Nat.min_eq_left (by omega)] | rw [Nat.min_eq_right (by omega)]
    exact World.ownsRow_lit w _ 1 (Nat.le_refl _) (by unfold maxLen; omega) rfl
  case round =>
    obtain ⟨k, f, rfl, hf, hk1, hkf, hsf, hf4, hend, hown, hbw⟩ := hrel
    obtain ⟨g, cap, rfl, hg1, hg2⟩ := hown.form (by omega)
    by_cases hlt : f < m
    · obtain ⟨t1, ht1⟩ : ∃ t1 : Nat, min (f + s) m = t1 := ⟨_, rfl⟩
      have HF := Lib.hid hf; clear hf
      have HO := Lib.hid hown; clear hown
      rcases Nat.lt_or_ge m (f + s) with hfs | hfs
      · first | (exfalso; omega) | skip
        all_goals (
          go_wp2_with (at_builtin; refine wpList_append_own _ rfl _ _ 23 rfl w.heap.size 28 i0 (.agg #[.int .i64 0, .int .i64 0, .int .i64 0]) 3 24 Tryz.underlying23 hi hz0 hz1 hz2 rfl (by decide) _ _ _ rfl (HO.out.alloc _) ⟨wr.heap.size, 0, none⟩ 1 1 [.int .i64 ((k : Int) + 1), .int .i64 f, .int .i64 m] rfl rfl ?c1 ?c2 ?c3 ?c4 ?c5 ?_)
          case c1 => exact cells3_new _ _ _ _ _
          case c2 => intro u hu; simp at hu; rcases hu with rfl | rfl | rfl <;> rfl
          case c3 => unfold maxLen; omega
          case c4 => omega
          case c5 => have := hbw.size; simp; omega
          intro v' w1 hown' hgrow _
          have hb1 := (hbw.alloc hbw.size _).grown hgrow (by have := hbw.size; simp; omega) (fun j hj => (HO.out.lt j hj).1)
          clear hgrow
          have HO1 := Lib.hid hown'; clear hown'
          go_wp2_with fail
          go_roundw
          case rel =>
            refine ⟨k + 1, f + s, by go_num, by rw [HF.out, Nat.add_mul, Nat.one_mul], by omega, by omega, by omega, by omega, .inr (by omega), ?_, hb1⟩
            have := HO1.out
            rw [pagesL_succ, ← HF.out, Nat.min_eq_right (by omega)]
            exact this
          case measure => simp [intOf]; omega)
      · first | (exfalso; omega) | skip
        all_goals (
          go_wp2_with (at_builtin; refine wpList_append_own _ rfl _ _ 23 rfl w.heap.size 28 i0 (.agg #[.int .i64 0, .int .i64 0, .int .i64 0]) 3 24 Tryz.underlying23 hi hz0 hz1 hz2 rfl (by decide) _ _ _ rfl (HO.out.alloc _) ⟨wr.heap.size, 0, none⟩ 1 1 [.int .i64 ((k : Int) + 1), .int .i64 f, .int .i64 ((f : Int) + s)] rfl rfl ?c1 ?c2 ?c3 ?c4 ?c5 ?_)
          case c1 => exact cells3_new _ _ _ _ _
          case c2 => intro u hu; simp at hu; rcases hu with rfl | rfl | rfl <;> rfl
          case c3 => unfold maxLen; omega
          case c4 => omega
          case c5 => have := hbw.size; simp; omega
          intro v' w1 hown' hgrow _
          have hb1 := (hbw.alloc hbw.size _).grown hgrow (by have := hbw.size; simp; omega) (fun j hj => (HO.out.lt j hj).1)
          clear hgrow
          have HO1 := Lib.hid hown'; clear hown'
          go_wp2_with fail
          go_roundw
          case rel =>
            refine ⟨k + 1, f + s, by go_num, by rw [HF.out, Nat.add_mul, Nat.one_mul], by omega, by omega, by omega, by omega, .inr (by omega), ?_, hb1⟩
            have := HO1.out
            rw [pagesL_succ, ← HF.out, Nat.min_eq_left (by omega)]
            exact this
          case measure => simp [intOf]; omega)
    · have HF := Lib.hid hf; clear hf
      have HO := Lib.hid hown; clear hown
      go_wp2_with fail
      go_ret2
      refine ⟨k, _, ⟨hk1, by rw [← HF.out]; omega, ?_⟩, by omega, rfl, HO.out, hbw⟩
      rcases hend with e | e
      · exact .inl e
      · refine .inr ?_
        have h2 : (k - 1) * s = f - s := by rw [Nat.sub_mul, Nat.one_mul, ← HF.out]
        omega)

end Go.Proofs.YtkkimcefjelnbaaGreatDoor
