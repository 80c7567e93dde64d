/- DERIVED. asset.Plan, for all numbers. No condition. -/
import Derived.Test.YtkobenohijipeaaPlanW
namespace Go.Proofs.Ytkobenohijipeaa
open Go.RowKit
set_option linter.unusedVariables false
def planE (W H y ww wh : Int) : Int := if sideB W = false ∨ sideB H = false then 2 else wantE y ww wh (sideB ww) (sideB wh)
def planV (W H y ww wh : Int) : Value :=
  if y = 2 then fillV W H (min ww W) (min wh H)
  else if y = 4 ∨ (y = 1 ∧ min wh H < scl H (min ww W) W) then cutV 0 0 W H (scl W (min wh H) H) (min wh H)
  else cutV 0 0 W H (min ww W) (scl H (min ww W) W)
def planR (W H y ww wh : Int) : Value := if planE W H y ww wh = 0 then planV W H y ww wh else cutV 0 0 0 0 0 0
theorem wantE_in {y ww wh : Int} (h : wantE y ww wh (sideB ww) (sideB wh) = 0) : 0 ≤ ww ∧ ww ≤ 64 ∧ 0 ≤ wh ∧ wh ≤ 64 ∧ (y = 1 ∨ y = 2 ∨ y = 3 ∨ y = 4) ∧ (y ≠ 4 → 1 ≤ ww) ∧ (y ≠ 3 → 1 ≤ wh) := by
  unfold wantE at h
  split at h
  · omega
  · split at h
    · omega
    · split at h
      · omega
      · rename_i h1 h2 h3
        have a1 : y ≠ 4 → 1 ≤ ww ∧ ww ≤ 64 := fun e => sideB_inv (by cases hs : sideB ww with | true => rfl | false => exact absurd (.inl ⟨e, hs⟩) h2)
        have a2 : y ≠ 3 → 1 ≤ wh ∧ wh ≤ 64 := fun e => sideB_inv (by cases hs : sideB wh with | true => rfl | false => exact absurd (.inr ⟨e, hs⟩) h2)
        omega
theorem wantE_3 {ww wh : Int} (h : wantE 3 ww wh (sideB ww) (sideB wh) = 0) : wh = 0 := by
  unfold wantE at h
  split at h
  · omega
  · split at h
    · omega
    · split at h
      · omega
      · omega
theorem wantE_4 {ww wh : Int} (h : wantE 4 ww wh (sideB ww) (sideB wh) = 0) : ww = 0 := by
  unfold wantE at h
  split at h
  · omega
  · split at h
    · omega
    · split at h
      · omega
      · omega
theorem planRes {fn : Func} {p u : Tmp} (h : fn.results = #[.cell p 36, .tmp u]) (tmps : Array Value) (w : World) (g : Nat) (cs : Array Value) (fr : Nat × Nat) (t : TypeId) (x : Value)
    (hp : tmps.getD p undef = .pointer (some ⟨g, 0, none⟩)) (hu : tmps.getD u undef = x) (hg : w.heap[g]? = some (.cells cs t fr)) (hc : cs.size = 6) : (results fn tmps).run Try.prog w = .ok (.tuple #[.agg cs, x]) w := by
  rw [results_cell_tmp h, hp, hu]
  have e1 := run_loadVar_row (P := Try.prog) (ty := 36) w g t cs fr _ hg Try.underlying36 rfl (by rw [hc]; kernel_rfl)
  simp [asAddr, Result.andThen, e1]
def ints6 (a b c d e f : Int) : Array Value := #[.int .i64 a, .int .i64 b, .int .i64 c, .int .i64 d, .int .i64 e, .int .i64 f]
theorem six {w : World} {N : Nat} {t : TypeId} {a b c d x f : Int} (e : w.heap[N]? = some (.cells (ints6 a b c d x f) t (0, 0))) :
    (w.cell? ⟨N, 0, none⟩ = some (.int .i64 a) ∧ w.frozen? ⟨N, 0, none⟩ = false) ∧ (w.cell? ⟨N, 1, none⟩ = some (.int .i64 b) ∧ w.frozen? ⟨N, 1, none⟩ = false) ∧
    (w.cell? ⟨N, 2, none⟩ = some (.int .i64 c) ∧ w.frozen? ⟨N, 2, none⟩ = false) ∧ (w.cell? ⟨N, 3, none⟩ = some (.int .i64 d) ∧ w.frozen? ⟨N, 3, none⟩ = false) ∧
    (w.cell? ⟨N, 4, none⟩ = some (.int .i64 x) ∧ w.frozen? ⟨N, 4, none⟩ = false) ∧ (w.cell? ⟨N, 5, none⟩ = some (.int .i64 f) ∧ w.frozen? ⟨N, 5, none⟩ = false) := by
  have h : ∀ j, w.cell? ⟨N, j, none⟩ = (ints6 a b c d x f)[j]? := fun j => cell_of_row _ _ _ _ _ _ e
  exact ⟨⟨h 0, frozen_of_row w _ 0 _ _ e⟩, ⟨h 1, frozen_of_row w _ 1 _ _ e⟩, ⟨h 2, frozen_of_row w _ 2 _ _ e⟩, ⟨h 3, frozen_of_row w _ 3 _ _ e⟩, ⟨h 4, frozen_of_row w _ 4 _ _ e⟩, ⟨h 5, frozen_of_row w _ 5 _ _ e⟩⟩
theorem set6 {w : World} {N : Nat} {t : TypeId} {a b c d x f : Int} (e : w.heap[N]? = some (.cells (ints6 a b c d x f) t (0, 0))) (v0 v1 v2 v3 v4 v5 : Int) :
    ((((((w.setCell ⟨N, 0, none⟩ (.int .i64 v0)).setCell ⟨N, 1, none⟩ (.int .i64 v1)).setCell ⟨N, 2, none⟩ (.int .i64 v2)).setCell ⟨N, 3, none⟩ (.int .i64 v3)).setCell ⟨N, 4, none⟩ (.int .i64 v4)).setCell ⟨N, 5, none⟩ (.int .i64 v5)).heap[N]? = some (.cells (ints6 v0 v1 v2 v3 v4 v5) t (0, 0)) :=
  heap_setCell_same _ N 5 _ _ _ (heap_setCell_same _ N 4 _ _ _ (heap_setCell_same _ N 3 _ _ _ (heap_setCell_same _ N 2 _ _ _ (heap_setCell_same _ N 1 _ _ _ (heap_setCell_same _ N 0 _ _ _ e)))))
theorem below6 {w w1 : World} {n N : Nat} (h : Below n w w1) (hn : n ≤ N) (v0 v1 v2 v3 v4 v5 : Value) :
    Below n w ((((((w1.setCell ⟨N, 0, none⟩ v0).setCell ⟨N, 1, none⟩ v1).setCell ⟨N, 2, none⟩ v2).setCell ⟨N, 3, none⟩ v3).setCell ⟨N, 4, none⟩ v4).setCell ⟨N, 5, none⟩ v5) :=
  (((((h.setCell (p := ⟨N, 0, none⟩) hn _).setCell (p := ⟨N, 1, none⟩) hn _).setCell (p := ⟨N, 2, none⟩) hn _).setCell (p := ⟨N, 3, none⟩) hn _).setCell (p := ⟨N, 4, none⟩) hn _).setCell (p := ⟨N, 5, none⟩) hn _
end Go.Proofs.Ytkobenohijipeaa
