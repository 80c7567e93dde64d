/- DERIVED. A value at its top: its six cells in a block of its own. No condition. -/
import Derived.Test.YtfgekmfkaepgjaaDoorProg
import Derived.ProofKit
import Derived.Below
import Derived.Lib.Hide
import Derived.WalkKit
namespace Go.Proofs.YtfgekmfkaepgjaaDoor
set_option linter.unusedVariables false
open Go.RowKit
/-- What a value in memory is, at its top. -/
structure Top where
  k : Int
  bo : Bool
  i : Int
  t : ByteArray
  A1 : Option Addr
  n1 : Nat
  c1 : Nat
  A2 : Option Addr
  n2 : Nat
  c2 : Nat
def Top.val (a : Top) : Value := .agg #[.int .i64 a.k, .bool a.bo, .int .i64 a.i, .string a.t, .slice a.A1 a.n1 a.c1, .slice a.A2 a.n2 a.c2]
def Top.box (a : Top) : Obj := .cells #[.int .i64 a.k, .bool a.bo, .int .i64 a.i, .string a.t, .slice a.A1 a.n1 a.c1, .slice a.A2 a.n2 a.c2] 25
/-- Behind the box of a value: its cells. -/
theorem top6 {w w1 : World} {a : Top} (hb : Below (w.heap.size + 1) (w.alloc a.box) w1) :
    w1.cell? ⟨w.heap.size, 0, none⟩ = some (.int .i64 a.k) ∧ w1.cell? ⟨w.heap.size, 1, none⟩ = some (.bool a.bo) ∧ w1.cell? ⟨w.heap.size, 2, none⟩ = some (.int .i64 a.i) ∧
      w1.cell? ⟨w.heap.size, 3, none⟩ = some (.string a.t) ∧ w1.cell? ⟨w.heap.size, 4, none⟩ = some (.slice a.A1 a.n1 a.c1) ∧ w1.cell? ⟨w.heap.size, 5, none⟩ = some (.slice a.A2 a.n2 a.c2) := by
  have h : ∀ j, w1.cell? ⟨w.heap.size, j, none⟩ = (w.alloc a.box).cell? ⟨w.heap.size, j, none⟩ := fun j => hb.cell (p := ⟨w.heap.size, j, none⟩) (by simp)
  refine ⟨(h 0).trans ?_, (h 1).trans ?_, (h 2).trans ?_, (h 3).trans ?_, (h 4).trans ?_, (h 5).trans ?_⟩ <;> simp [Top.box]
theorem below_top {w w1 : World} {o : Obj} (hb : Below (w.heap.size + 1) (w.alloc o) w1) : Below w.heap.size w w1 ∧ w.heap.size + 1 ≤ w1.heap.size := by
  have hs := hb.size
  simp at hs
  exact ⟨((Below.refl _ w).alloc (Nat.le_refl _) o).trans (hb.mono (by omega)), hs⟩
end Go.Proofs.YtfgekmfkaepgjaaDoor
