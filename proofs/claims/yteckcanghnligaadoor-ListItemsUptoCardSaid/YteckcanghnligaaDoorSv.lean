/- DERIVED. A value of settings in memory, under one name; blocks that hold one. No condition. -/
import Derived.Test.YteckcanghnligaaDoorRows
import Derived.Test.YteckcanghnligaaDoorPick
import Derived.Lib.Hide
import Derived.WalkKit
import Derived.Deep.MidRow
import Derived.Laws.Rows
namespace Go.Proofs.YteckcanghnligaaDoor
set_option linter.unusedVariables false
open Go.RowKit
/-- What a value in memory is. -/
structure Sv where
  k : Int
  bo : Bool
  i : Int
  t : ByteArray
  A1 : Option Addr
  n1 : Nat
  c1 : Nat
  A2 : Option Addr
  n2 : Nat
  c2 : Nat
  items : Vals
  keys : List ByteArray
namespace Sv
def cs (a : Sv) : Array Value := #[.int .i64 a.k, .bool a.bo, .int .i64 a.i, .string a.t, .slice a.A1 a.n1 a.c1, .slice a.A2 a.n2 a.c2]
def val (a : Sv) : Value := .agg #[.int .i64 a.k, .bool a.bo, .int .i64 a.i, .string a.t, .slice a.A1 a.n1 a.c1, .slice a.A2 a.n2 a.c2]
def box (a : Sv) : Obj := .cells #[.int .i64 a.k, .bool a.bo, .int .i64 a.i, .string a.t, .slice a.A1 a.n1 a.c1, .slice a.A2 a.n2 a.c2] 25
/-- What it stands for: a row of one value. -/
def row (a : Sv) : Vals := .cons a.k a.bo a.i a.t a.items a.keys .nil
def okB (a : Sv) (w : World) (B : Nat) : Prop := VOk w B a.k a.i a.t a.A1 a.n1 a.c1 a.A2 a.n2 a.c2 a.items a.keys
theorem okB.below {a : Sv} {w w' : World} {B : Nat} (h : a.okB w B) (hb : Below B w w') : a.okB w' B := VOk.below hb h
theorem okB.more {a : Sv} {w : World} {B B' : Nat} (h : a.okB w B) (hB : B ≤ B') : a.okB w B' := VOk.more hB h
theorem okB.keep {a : Sv} {w w' : World} (h : a.okB w w.heap.size) (hb : Below w.heap.size w w') : a.okB w' w'.heap.size := (h.below hb).more hb.size
/-- The value nil. -/
def zero : Sv := ⟨0, false, 0, ⟨#[]⟩, none, 0, 0, none, 0, 0, .nil, []⟩
theorem zero_ok (w : World) (B : Nat) : zero.okB w B :=
  ⟨Nat.le_refl _, Nat.zero_le _, Nat.le_refl _, Nat.zero_le _, by decide, by decide, Nat.zero_le _, rfl, rfl, (fun s hs => by cases hs), fun h => absurd h (Nat.lt_irrefl 0)⟩
theorem inj {a b : Sv} (h : a.row = b.row) : a.k = b.k ∧ a.bo = b.bo ∧ a.i = b.i ∧ a.t = b.t ∧ a.items = b.items ∧ a.keys = b.keys := by
  unfold row at h
  injection h with h1 h2 h3 h4 h5 h6
  exact ⟨h1, h2, h3, h4, h5, h6⟩
end Sv
/-- The row of a value, or that of the value nil. -/
def Vals.orZero : Vals → Vals
  | .nil => Sv.zero.row
  | .cons k bo i t it ks _ => .cons k bo i t it ks .nil
/-- The cells of a block. -/
theorem svCells {w : World} {N : Nat} {a : Sv} (h : w.heap[N]? = some a.box) : w.cell? ⟨N, 0, none⟩ = some (.int .i64 a.k) ∧ w.cell? ⟨N, 1, none⟩ = some (.bool a.bo) ∧ w.cell? ⟨N, 2, none⟩ = some (.int .i64 a.i) ∧
    w.cell? ⟨N, 3, none⟩ = some (.string a.t) ∧ w.cell? ⟨N, 4, none⟩ = some (.slice a.A1 a.n1 a.c1) ∧ w.cell? ⟨N, 5, none⟩ = some (.slice a.A2 a.n2 a.c2) := by
  have c : ∀ j, w.cell? ⟨N, j, none⟩ = (#[.int .i64 a.k, .bool a.bo, .int .i64 a.i, .string a.t, .slice a.A1 a.n1 a.c1, .slice a.A2 a.n2 a.c2] : Array Value)[j]? := fun j => cell_of_row _ _ _ _ _ _ h
  exact ⟨c 0, c 1, c 2, c 3, c 4, c 5⟩
theorem svFree {w : World} {N : Nat} {a : Sv} (h : w.heap[N]? = some a.box) (j : Nat) : w.frozen? ⟨N, j, none⟩ = false := frozen_of_row w _ j _ _ h
theorem svThere {w : World} {N : Nat} {a : Sv} (h : w.heap[N]? = some a.box) : w.there N 0 6 := fun j hj => by
  refine ⟨?_, svFree h _⟩
  rw [show w.cell? ⟨N, 0 + j, none⟩ = (#[.int .i64 a.k, .bool a.bo, .int .i64 a.i, .string a.t, .slice a.A1 a.n1 a.c1, .slice a.A2 a.n2 a.c2] : Array Value)[0 + j]? from cell_of_row _ _ _ _ _ _ h]
  simp [hj]
theorem svNew (w : World) (a : Sv) : (w.alloc a.box).heap[w.heap.size]? = some a.box := heap_alloc_new w _
theorem svNew' {w wr : World} {a : Sv} {B : Nat} (hb : Below B (w.alloc a.box) wr) (hB : w.heap.size < B) : wr.heap[w.heap.size]? = some a.box := (hb.block _ hB).trans (svNew w a)
/-- A value that is stored into a block of six cells. -/
theorem sv_set (w : World) (N : Nat) (a : Sv) (cs : List Value) (hcs : cs = a.cs.toList) (h : w.there N 0 6) : (w.setCells N 0 cs).rangeAt N 0 a.cs.toList := by
  subst hcs
  exact World.rangeAt_setCells_same w N 0 _ h
theorem sv_size : (Tryd.prog.info? 25).map (·.size) = some 6 := by kernel_rfl
theorem below_setCells' {B b : Nat} (hB : B ≤ b) : ∀ (vs : List Value) (o : Nat) {a w : World}, Below B a w → Below B a (w.setCells b o vs)
  | [], _, _, _, h => h
  | v :: r, o, _, _, h => below_setCells' hB r (o + 1) (h.setCell (p := ⟨b, o, none⟩) hB v)
theorem size_setCells' (b : Nat) : ∀ (vs : List Value) (o : Nat) (w : World), (w.setCells b o vs).heap.size = w.heap.size
  | [], _, _ => rfl
  | v :: r, o, w => by rw [World.setCells, size_setCells' b r (o + 1)]; simp
/-- What is read out of a block of six cells. -/
theorem sv_load {w : World} {N : Nat} {a : Sv} (h : w.rangeAt N 0 a.cs.toList) : (loadVar 25 ⟨N, 0, none⟩).run Tryd.prog w = .ok a.val w :=
  run_loadVar_mid w N 0 25 a.cs.toList _ h Tryd.underlying25 rfl sv_size
end Go.Proofs.YteckcanghnligaaDoor
