/- DERIVED. What is asked of one test: lang.fitsOp, isInRange, countTests, levels. Condition: at most 2^40 tests. -/
import Derived.Test.YtlifjhglpflplaaDoorTstFn
import Derived.Shelf.Abstract
namespace Go.Proofs.YtlifjhglpflplaaDoor
open Go.RowKit
set_option linter.unusedVariables false
set_option linter.unusedSimpArgs false
theorem anyE_op (op : Int) : ∀ d : Tst, anyE (fun k _ _ _ _ => decide (k = op)) d = d.hasOp op
  | .nil => rfl
  | .cons k md lo hi c r => by
    unfold anyE Tst.hasOp
    rw [anyE_op op r]
theorem box5 {w : World} {b : Nat} {v0 v1 v2 v3 v4 : Value} {t : TypeId} (h : w.heap[b]? = some (.cells #[v0, v1, v2, v3, v4] t (0, 0))) : w.cell? ⟨b, 0, none⟩ = some v0 ∧ w.cell? ⟨b, 1, none⟩ = some v1 ∧ w.cell? ⟨b, 2, none⟩ = some v2 ∧ w.cell? ⟨b, 3, none⟩ = some v3 ∧ w.cell? ⟨b, 4, none⟩ = some v4 :=
  ⟨cell_of_row w b 0 _ _ _ h, cell_of_row w b 1 _ _ _ h, cell_of_row w b 2 _ _ _ h, cell_of_row w b 3 _ _ _ h, cell_of_row w b 4 _ _ _ h⟩
set_option maxRecDepth 100000 in
theorem opKid_any (k md lo hi op : Int) (A : Option Addr) (n c b : Nat) (w : World) (h : w.cell? ⟨b, 0, none⟩ = some (.int .i64 op)) :
    Calls Tryd.prog 109 #[eV k md lo hi A n c, .pointer (some ⟨b, 0, none⟩)] w fun e w' => e = .returned (.bool (decide (k = op))) ∧ Below w.heap.size w w' := by
  have hb := World.block_lt_of_cell? w _ h
  have hw0 : Below w.heap.size w (w.alloc (.cells #[.int .i64 k, .int .i64 md, .int .i64 lo, .int .i64 hi, .slice A n c] 88)) := (Below.refl _ _).alloc (Nat.le_refl _) _
  have h2 := (hw0.cell (p := ⟨b, 0, none⟩) hb).trans h
  have H0 := Lib.hid hw0
  clear hw0
  unfold eV
  go_enter Tryd.func109, Tryd.ntmps109
  go_wp2_with fail
  go_ret
  refine ⟨?_, H0.out⟩
  by_cases hk : k = op
  · subst hk; simp
  · simp [hk]
set_option maxRecDepth 100000 in
set_option maxHeartbeats 1600000 in
theorem fitsOp_any (k md lo hi : Int) (A : Option Addr) (n c : Nat) (kd : Tst) (w : World) (hbig : kd.nodes ≤ 1099511627776) (hnc : n ≤ c) (ha : kd.At w w.heap.size A n) :
    Calls Tryd.prog 76 #[eV k md lo hi A n c] w fun e w' => e = .returned (.bool (!badF k md lo hi kd)) ∧ Below w.heap.size w w' := by
  have hnl := ha.len_eq
  have hn : n ≤ 1099511627776 := Nat.le_trans (by rw [hnl]; exact Tst.len_le kd) hbig
  have hw0 : Below w.heap.size w (w.alloc (.cells #[.int .i64 k, .int .i64 md, .int .i64 lo, .int .i64 hi, .slice A n c] 88)) := (Below.refl _ _).alloc (Nat.le_refl _) _
  have ea : ∀ args w, (callFunc 109 args).run Tryd.prog w = .ok (.enter 109 args) w := enters_of Tryd.func109 (by kernel_rfl) rfl
  have hcf : Calls Tryd.prog 69 #[.slice A n c, .func (.func 109) #[] #[.pointer (some ⟨w.heap.size, 0, none⟩)]] (w.alloc (.cells #[.int .i64 k, .int .i64 md, .int .i64 lo, .int .i64 hi, .slice A n c] 88)) fun e w' => e = .returned (.bool (kd.hasOp k)) ∧ Below w.heap.size w w' := by
    have hx := containsT_any kd (fun k' _ _ _ _ => decide (k' = k)) 109 #[.pointer (some ⟨w.heap.size, 0, none⟩)] A n c _ ea hn ((ha.below hw0).more hw0.size) (fun wX i hX k1 m1 l1 h1 A1 n1 c1 kd1 r _ _ _ _ _ _ _ _ =>
      opKid_any k1 m1 l1 h1 k A1 n1 c1 w.heap.size wX ((hX.cell (p := ⟨w.heap.size, 0, none⟩) (by simp)).trans (by simp)))
    rw [anyE_op] at hx
    exact hx.mono fun e w' ⟨he, hb⟩ => ⟨he, hw0.trans (hb.mono hw0.size)⟩
  have HC := Lib.hid hcf
  have H0 := Lib.hid hw0
  have HNL := Lib.hid hnl
  clear hcf hw0 ea ha hnl
  unfold eV
  by_cases h1 : k = 1
  · subst h1
    have HR := Lib.hid (show badF 1 md lo hi kd = decide (0 < n) by unfold badF; rw [if_pos rfl, HNL.out])
    go_enter Tryd.func76, Tryd.ntmps76
    go_wp2_with fail
    go_ret
    refine ⟨?_, H0.out⟩
    rw [HR.out]
    cases n with
    | zero => rfl
    | succ n => have : ¬ ((n : Int) + 1 = 0) := by omega
                simp [this]
  · have hk1 : (k == 1) = false := by simpa using h1
    have HB := Lib.hid (show badF k md lo hi kd = if md ≠ 0 ∨ lo ≠ 0 ∨ hi ≠ 0 then true else if k = 2 ∨ k = 3 then decide (kd.len < 2) || kd.hasOp k else if k = 4 then decide (kd.len < 1) else true by unfold badF; rw [if_neg h1])
    by_cases h2 : md = 0
    · by_cases h3 : lo = 0
      · by_cases h4 : hi = 0
        · subst h2; subst h3; subst h4
          have HB2 := Lib.hid (HB.out.trans (if_neg (by simp)))
          clear HB
          by_cases h5 : k = 2 ∨ k = 3
          · have HB3 := Lib.hid (HB2.out.trans (if_pos h5))
            by_cases h6 : n < 2
            · have HB4 := Lib.hid (show badF k 0 0 0 kd = true by rw [HB3.out, ← HNL.out, decide_eq_true h6]; rfl)
              rcases h5 with rfl | rfl <;> (
                go_enter Tryd.func76, Tryd.ntmps76
                go_wp2_with fail
                go_ret
                exact ⟨by rw [HB4.out]; rfl, H0.out⟩)
            · have HB4 := Lib.hid (show badF k 0 0 0 kd = kd.hasOp k by rw [HB3.out, ← HNL.out, decide_eq_false h6]; rfl)
              have h6i : (2 : Int) ≤ (n : Int) := by omega
              rcases h5 with rfl | rfl <;> (
                go_enter Tryd.func76, Tryd.ntmps76
                go_wp2_with fail
                refine HC.out.mono ?_
                rintro e w1 ⟨rfl, hb1⟩
                go_wp2_with fail
                go_ret
                exact ⟨by rw [HB4.out]; rfl, hb1⟩)
          · have HB3 := Lib.hid (HB2.out.trans (if_neg h5))
            have h52 : (k == 2) = false := by have : ¬ k = 2 := fun e => h5 (.inl e); simpa using this
            have h53 : (k == 3) = false := by have : ¬ k = 3 := fun e => h5 (.inr e); simpa using this
            by_cases h7 : k = 4
            · subst h7
              have HB4 := Lib.hid (show badF 4 0 0 0 kd = decide (n < 1) by rw [HB3.out, if_pos rfl, HNL.out])
              go_enter Tryd.func76, Tryd.ntmps76
              go_wp2_with fail
              go_ret
              refine ⟨?_, H0.out⟩
              rw [HB4.out]
              cases n with
              | zero => rfl
              | succ n => have : (1 : Int) ≤ (n : Int) + 1 := by omega
                          simp [this]
            · have h74 : (k == 4) = false := by simpa using h7
              have HB4 := Lib.hid (HB3.out.trans (if_neg h7))
              go_enter Tryd.func76, Tryd.ntmps76
              go_wp2_with fail
              go_ret
              exact ⟨by rw [HB4.out]; rfl, H0.out⟩
        · have h4b : (hi == 0) = false := by simpa using h4
          have HB2 := Lib.hid (HB.out.trans (if_pos (.inr (.inr h4))))
          subst h2; subst h3
          go_enter Tryd.func76, Tryd.ntmps76
          go_wp2_with fail
          go_ret
          exact ⟨by rw [HB2.out]; rfl, H0.out⟩
      · have h3b : (lo == 0) = false := by simpa using h3
        have HB2 := Lib.hid (HB.out.trans (if_pos (.inr (.inl h3))))
        subst h2
        go_enter Tryd.func76, Tryd.ntmps76
        go_wp2_with fail
        go_ret
        exact ⟨by rw [HB2.out]; rfl, H0.out⟩
    · have h2b : (md == 0) = false := by simpa using h2
      have HB2 := Lib.hid (HB.out.trans (if_pos (.inl h2)))
      go_enter Tryd.func76, Tryd.ntmps76
      go_wp2_with fail
      go_ret
      exact ⟨by rw [HB2.out]; rfl, H0.out⟩
set_option maxRecDepth 100000 in
set_option maxHeartbeats 800000 in
theorem isInRange_any (k md lo hi : Int) (A : Option Addr) (n c : Nat) (w : World) :
    Calls Tryd.prog 78 #[eV k md lo hi A n c] w fun e w' => e = .returned (.bool (rangeB md lo hi)) ∧ Below w.heap.size w w' := by
  have hw0 : Below w.heap.size w (w.alloc (.cells #[.int .i64 k, .int .i64 md, .int .i64 lo, .int .i64 hi, .slice A n c] 88)) := (Below.refl _ _).alloc (Nat.le_refl _) _
  have H0 := Lib.hid hw0
  clear hw0
  obtain ⟨r, hr⟩ : ∃ r, rangeB md lo hi = r := ⟨_, rfl⟩
  have hr2 := hr
  unfold rangeB at hr2
  rw [hr]
  unfold eV
  by_cases h1 : md = 0
  · subst h1
    simp only [decide_true, Bool.true_or, Bool.true_and] at hr2
    by_cases h3 : 0 ≤ lo
    · by_cases h4 : lo ≤ hi
      · by_cases h5 : hi ≤ 1000000000
        · obtain rfl : r = true := by rw [← hr2]; simp [h3, h4, h5]
          clear hr hr2
          go_enter Tryd.func78, Tryd.ntmps78
          go_wp2_with fail
          go_ret
          exact ⟨by first | rfl | simp [h3, h4, h5], H0.out⟩
        · obtain rfl : r = false := by rw [← hr2]; simp [h3, h4, h5]
          clear hr hr2
          go_enter Tryd.func78, Tryd.ntmps78
          go_wp2_with fail
          go_ret
          exact ⟨by first | rfl | simp [h3, h4, h5], H0.out⟩
      · obtain rfl : r = false := by rw [← hr2]; simp [h3, h4]
        clear hr hr2
        go_enter Tryd.func78, Tryd.ntmps78
        go_wp2_with fail
        go_ret
        exact ⟨by first | rfl | simp [h3, h4], H0.out⟩
    · obtain rfl : r = false := by rw [← hr2]; simp [h3]
      clear hr hr2
      go_enter Tryd.func78, Tryd.ntmps78
      go_wp2_with fail
      go_ret
      exact ⟨by first | rfl | simp [h3], H0.out⟩
  · have h1b : (md == 0) = false := by simpa using h1
    by_cases h2 : 2 ≤ md
    · by_cases h2b : md ≤ 1000000
      · simp only [decide_eq_true h2, decide_eq_true h2b, Bool.and_self, Bool.or_true, Bool.true_and] at hr2
        by_cases h3 : 0 ≤ lo
        · by_cases h4 : lo ≤ hi
          · by_cases h5 : hi ≤ 1000000000
            · obtain rfl : r = true := by rw [← hr2]; simp [h3, h4, h5]
              clear hr hr2
              go_enter Tryd.func78, Tryd.ntmps78
              go_wp2_with fail
              go_ret
              exact ⟨by first | rfl | simp [h3, h4, h5], H0.out⟩
            · obtain rfl : r = false := by rw [← hr2]; simp [h3, h4, h5]
              clear hr hr2
              go_enter Tryd.func78, Tryd.ntmps78
              go_wp2_with fail
              go_ret
              exact ⟨by first | rfl | simp [h3, h4, h5], H0.out⟩
          · obtain rfl : r = false := by rw [← hr2]; simp [h3, h4]
            clear hr hr2
            go_enter Tryd.func78, Tryd.ntmps78
            go_wp2_with fail
            go_ret
            exact ⟨by first | rfl | simp [h3, h4], H0.out⟩
        · obtain rfl : r = false := by rw [← hr2]; simp [h3]
          clear hr hr2
          go_enter Tryd.func78, Tryd.ntmps78
          go_wp2_with fail
          go_ret
          exact ⟨by first | rfl | simp [h3], H0.out⟩
      · obtain rfl : r = false := by rw [← hr2]; simp [h1, h2b]
        clear hr hr2
        go_enter Tryd.func78, Tryd.ntmps78
        go_wp2_with fail
        go_ret
        exact ⟨by first | rfl | simp [h2b], H0.out⟩
    · obtain rfl : r = false := by rw [← hr2]; simp [h1, h2]
      clear hr hr2
      go_enter Tryd.func78, Tryd.ntmps78
      go_wp2_with fail
      go_ret
      exact ⟨by first | rfl | simp [h2], H0.out⟩
end Go.Proofs.YtlifjhglpflplaaDoor
