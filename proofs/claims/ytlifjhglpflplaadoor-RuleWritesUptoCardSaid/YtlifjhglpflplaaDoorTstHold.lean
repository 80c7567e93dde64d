/- DERIVED. lang.withoutSign, holds. Condition: at most 2^40 tests, all of them right. -/
import Derived.Test.YtlifjhglpflplaaDoorTstRule
import Derived.StillTailTactics
import Derived.Laws.EntriesVeiled
namespace Go.Proofs.YtlifjhglpflplaaDoor
open Go.RowKit
set_option linter.unusedVariables false
set_option linter.unusedSimpArgs false
theorem wrapU (n : Int) : IntKind.u64.wrap n = n % 18446744073709551616 := by simp [IntKind.wrap, IntKind.bits, IntKind.signed]
theorem wrapU_id {n : Int} (h0 : 0 ≤ n) (h1 : n < 18446744073709551616) : IntKind.u64.wrap n = n := by rw [wrapU]; omega
theorem anyE_some (x : Nat) : ∀ d : Tst, anyE (hd x) d = d.q x false
  | .nil => rfl
  | .cons k md lo hi c r => by
    rw [q_some]
    show (hd x k md lo hi c || anyE (hd x) r) = _
    rw [anyE_some x r]
theorem anyE_all (x : Nat) : ∀ d : Tst, anyE (fun k md lo hi c => !hd x k md lo hi c) d = !d.q x true
  | .nil => rfl
  | .cons k md lo hi c r => by
    rw [q_all]
    show ((!hd x k md lo hi c) || anyE (fun k md lo hi c => !hd x k md lo hi c) r) = _
    rw [anyE_all x r, Bool.not_and]
abbrev Holds (f : FuncId) (k md lo hi : Int) (A : Option Addr) (n c x : Nat) (w : World) (b : Bool) : Prop := Calls Tryd.prog f #[eV k md lo hi A n c, .int .u64 (x : Int)] w fun e w' => e = .returned (.bool b) ∧ Below w.heap.size w w'
theorem three_objs (w : World) (a b c : Obj) : (((w.alloc a).alloc b).alloc c).heap[w.heap.size + 1]? = some b ∧ (((w.alloc a).alloc b).alloc c).heap[w.heap.size + 2]? = some c := by
  have h1 : (w.alloc a).heap.size = w.heap.size + 1 := by simp
  have h2 : ((w.alloc a).alloc b).heap.size = w.heap.size + 2 := by simp
  constructor
  · have h3 := Below.heap_alloc ((w.alloc a).alloc b) c (w.heap.size + 1) (by omega)
    have h4 := heap_alloc_new (w.alloc a) b
    rw [h1] at h4
    exact h3.trans h4
  · have h4 := heap_alloc_new ((w.alloc a).alloc b) c
    rw [h2] at h4
    exact h4
/-- A test that is right, with its kids. -/
def Right (k md lo hi : Int) (kd : Tst) : Prop := badF k md lo hi kd = false ∧ rangeB md lo hi = true ∧ kd.anyT badF = false ∧ kd.anyT badR = false
theorem right_kid {k md lo hi : Int} {kd : Tst} (h : Right k md lo hi kd) {i : Nat} {k1 md1 lo1 hi1 : Int} {c r : Tst} (he : kd.drop i = .cons k1 md1 lo1 hi1 c r) : Right k1 md1 lo1 hi1 c := by
  have h1 := anyT_drop i h.2.2.1
  have h2 := anyT_drop i h.2.2.2
  rw [he] at h1 h2
  obtain ⟨a1, a2, _⟩ := anyT_cons h1
  obtain ⟨b1, b2, _⟩ := anyT_cons h2
  refine ⟨a1, ?_, a2, b2⟩
  unfold badR at b1
  cases hr : rangeB md1 lo1 hi1 with
  | true => rfl
  | false => rw [hr] at b1; cases b1
theorem hd_2 (x : Nat) (md lo hi : Int) (c : Tst) : hd x 2 md lo hi c = c.q x true := rfl
theorem hd_3 (x : Nat) (md lo hi : Int) (c : Tst) : hd x 3 md lo hi c = c.q x false := rfl
theorem hd_4 (x : Nat) (md lo hi : Int) (c : Tst) : hd x 4 md lo hi c = !c.q x false := rfl
theorem hd_1 (x : Nat) (md lo hi : Int) (c : Tst) : hd x 1 md lo hi c = withinB md lo hi x := rfl
end Go.Proofs.YtlifjhglpflplaaDoor
