/- DERIVED. The two ways of the reference's PlanOf that are functions of its own. No condition. -/
import Derived.Test.YtkobenohijipeaaPlanP
namespace Go.Proofs.Ytkobenohijipeaa
open Go.RowKit
set_option linter.unusedVariables false
theorem lt_block {w : World} {b : Nat} {o : Obj} (h : w.heap[b]? = some o) : b < w.heap.size := (Array.getElem?_eq_some_iff.1 h).1
set_option maxRecDepth 100000 in
set_option maxHeartbeats 400000 in
theorem by1_any (n W H : Int) (b1 b2 b3 : Nat) (w : World) (hW : 1 ≤ W) (hW2 : W ≤ 64) (hH : 1 ≤ H) (hH2 : H ≤ 64) (hn : 0 ≤ n) (hn2 : n ≤ 64)
    (h1 : w.heap[b1]? = some (.cells (ints6 0 0 W H 0 0) 36 (0, 0))) (h2 : w.cell? ⟨b2, 0, none⟩ = some (.int .i64 H)) (h3 : w.cell? ⟨b3, 0, none⟩ = some (.int .i64 W)) :
    Calls Try.prog 27 #[.int .i64 n, .pointer (some ⟨b1, 0, none⟩), .pointer (some ⟨b2, 0, none⟩), .pointer (some ⟨b3, 0, none⟩)] w fun e w' => e = .returned (cutV 0 0 W H n (scl H n W)) ∧ Below w.heap.size w w' := by
  obtain ⟨p1, p2⟩ := prod_le (by omega) (by omega) hH2 hn2
  have hv : ∀ c, max 1 ((2 * (H * n) + W) / (2 * W)) = c → scl H n W = c := fun c h => h
  obtain ⟨⟨c0, f0⟩, ⟨c1, f1⟩, ⟨c2, f2⟩, ⟨c3, f3⟩, ⟨c4, f4⟩, ⟨c5, f5⟩⟩ := six h1
  have g1 := lt_block h1
  have g2 := block_lt_of_cell h2
  have g3 := block_lt_of_cell h3
  have HV := Lib.hid hv
  clear hv h1 f0 f1 f2 f3 f4 f5
  go_enter Try.func27, Try.ntmps27
  go_wp2
  all_goals (
    refine bodyPost_ret (results_cell_row rfl _ _ w.heap.size _ _ _ _ rfl (heap_last _ _ _) Try.underlying36 rfl (by kernel_rfl)) rfl ⟨?_, ((Below.refl _ w).alloc (Nat.le_refl _) _).alloc (by simp) _⟩
    rw [HV.out _ (show max 1 ((2 * (H * n) + W) / (2 * W)) = _ by first | exact Int.max_eq_right (Int.le_of_lt (by assumption)) | exact Int.max_eq_left (by assumption))]
    simp [cutV])
set_option maxRecDepth 100000 in
set_option maxHeartbeats 400000 in
theorem by2_any (n W H : Int) (b1 b2 b3 : Nat) (w : World) (hW : 1 ≤ W) (hW2 : W ≤ 64) (hH : 1 ≤ H) (hH2 : H ≤ 64) (hn : 0 ≤ n) (hn2 : n ≤ 64)
    (h1 : w.heap[b1]? = some (.cells (ints6 0 0 W H 0 0) 36 (0, 0))) (h2 : w.cell? ⟨b2, 0, none⟩ = some (.int .i64 W)) (h3 : w.cell? ⟨b3, 0, none⟩ = some (.int .i64 H)) :
    Calls Try.prog 29 #[.int .i64 n, .pointer (some ⟨b1, 0, none⟩), .pointer (some ⟨b2, 0, none⟩), .pointer (some ⟨b3, 0, none⟩)] w fun e w' => e = .returned (cutV 0 0 W H (scl W n H) n) ∧ Below w.heap.size w w' := by
  obtain ⟨p1, p2⟩ := prod_le (by omega) (by omega) hW2 hn2
  have hv : ∀ c, max 1 ((2 * (W * n) + H) / (2 * H)) = c → scl W n H = c := fun c h => h
  obtain ⟨⟨c0, f0⟩, ⟨c1, f1⟩, ⟨c2, f2⟩, ⟨c3, f3⟩, ⟨c4, f4⟩, ⟨c5, f5⟩⟩ := six h1
  have g1 := lt_block h1
  have g2 := block_lt_of_cell h2
  have g3 := block_lt_of_cell h3
  have HV := Lib.hid hv
  clear hv h1 f0 f1 f2 f3 f4 f5
  go_enter Try.func29, Try.ntmps29
  go_wp2
  all_goals (
    refine bodyPost_ret (results_cell_row rfl _ _ w.heap.size _ _ _ _ rfl (heap_last _ _ _) Try.underlying36 rfl (by kernel_rfl)) rfl ⟨?_, ((Below.refl _ w).alloc (Nat.le_refl _) _).alloc (by simp) _⟩
    rw [HV.out _ (show max 1 ((2 * (W * n) + H) / (2 * H)) = _ by first | exact Int.max_eq_right (Int.le_of_lt (by assumption)) | exact Int.max_eq_left (by assumption))]
    simp [cutV])
end Go.Proofs.Ytkobenohijipeaa
