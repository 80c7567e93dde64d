/- DERIVED. The part in the middle: asset.filled. No condition. -/
import Derived.Test.YtkobenohijipeaaPlanA
import Derived.RegionTactic
import Derived.Laws.Rows
import Derived.Laws.ResultCell
namespace Go.Proofs.Ytkobenohijipeaa
open Go.RowKit
set_option linter.unusedVariables false
def cutV (x y a b c d : Int) : Value := .agg #[.int .i64 x, .int .i64 y, .int .i64 a, .int .i64 b, .int .i64 c, .int .i64 d]
def fillW (W H w h : Int) : Int := if H * w < W * h then max 1 (H * w / h) else W
def fillH (W H w h : Int) : Int := if H * w < W * h then H else max 1 (W * h / w)
def fillV (W H w h : Int) : Value := cutV ((W - fillW W H w h) / 2) ((H - fillH W H w h) / 2) (fillW W H w h) (fillH W H w h) w h
theorem quo_le {r h W : Int} (hh : 1 ≤ h) (hr : 0 ≤ r) (h1 : r ≤ W * h) : 0 ≤ r / h ∧ r / h ≤ W := by
  refine ⟨Int.ediv_nonneg hr (by omega), ?_⟩
  have : r / h < W + 1 := Int.ediv_lt_of_lt_mul (by omega) (by rw [Int.add_mul, Int.one_mul]; omega)
  omega
theorem heap_last (w : World) (o o' : Obj) : ((w.alloc o).alloc o').heap[w.heap.size]? = some o := by
  refine (Below.heap_alloc _ _ _ (by simp)).trans ?_
  exact heap_alloc_new w o
set_option maxRecDepth 100000 in
set_option maxHeartbeats 400000 in
theorem filled_any (W H w k : Int) (wd : World) (hW : 1 ≤ W) (hW2 : W ≤ 64) (hH : 1 ≤ H) (hH2 : H ≤ 64) (hw : 1 ≤ w) (hw2 : w ≤ 64) (hh : 1 ≤ k) (hh2 : k ≤ 64) :
    Calls Try.prog 25 #[.int .i64 W, .int .i64 H, .int .i64 w, .int .i64 k] wd fun e w' => e = .returned (fillV W H w k) ∧ Below wd.heap.size wd w' := by
  obtain ⟨p1, p2⟩ := prod_le (a := W) (b := k) (by omega) (by omega) hW2 hh2
  obtain ⟨r1, r2⟩ := prod_le (a := H) (b := w) (by omega) (by omega) hH2 hw2
  by_cases hlt : H * w < W * k
  · obtain ⟨q1, q2⟩ := quo_le hh r1 (by omega : H * w ≤ W * k)
    have hv : ∀ c, max 1 (H * w / k) = c → fillV W H w k = cutV ((W - c) / 2) ((H - H) / 2) c H w k := by
      rintro c rfl
      unfold fillV fillW fillH
      rw [if_pos hlt, if_pos hlt]
    have HV := Lib.hid hv
    clear hv
    go_enter Try.func25, Try.ntmps25
    go_wp2
    all_goals (
      refine bodyPost_ret (results_cell_row rfl _ _ wd.heap.size _ _ _ _ rfl (heap_last _ _ _) Try.underlying36 rfl (by kernel_rfl)) rfl ⟨?_, ((Below.refl _ wd).alloc (Nat.le_refl _) _).alloc (by simp) _⟩
      rw [HV.out _ (show max 1 (H * w / k) = _ by first | exact Int.max_eq_right (Int.le_of_lt (by assumption)) | exact Int.max_eq_left (by assumption))]
      simp [cutV])
  · obtain ⟨q1, q2⟩ := quo_le hw p1 (by omega : W * k ≤ H * w)
    have hv : ∀ c, max 1 (W * k / w) = c → fillV W H w k = cutV ((W - W) / 2) ((H - c) / 2) W c w k := by
      rintro c rfl
      unfold fillV fillW fillH
      rw [if_neg hlt, if_neg hlt]
    have HV := Lib.hid hv
    clear hv
    go_enter Try.func25, Try.ntmps25
    go_wp2
    all_goals (
      refine bodyPost_ret (results_cell_row rfl _ _ wd.heap.size _ _ _ _ rfl (heap_last _ _ _) Try.underlying36 rfl (by kernel_rfl)) rfl ⟨?_, ((Below.refl _ wd).alloc (Nat.le_refl _) _).alloc (by simp) _⟩
      rw [HV.out _ (show max 1 (W * k / w) = _ by first | exact Int.max_eq_right (Int.le_of_lt (by assumption)) | exact Int.max_eq_left (by assumption))]
      simp [cutV])
end Go.Proofs.Ytkobenohijipeaa
