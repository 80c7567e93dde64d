/- DERIVED. Values of settings in blocks of their own; plain facts of their order. No condition. -/
import Derived.Test.YtfgekmfkaepgjaaConfCmpF
namespace Go.Proofs.Ytfgekmfkaepgjaa
set_option linter.unusedVariables false
open Go.RowKit
/-- A value's cells in a block of its own. -/
def boxV (k : Int) (bo : Bool) (i : Int) (t : ByteArray) (A1 : Option Addr) (n1 c1 : Nat) (A2 : Option Addr) (n2 c2 : Nat) : Obj :=
  .cells #[.int .i64 k, .bool bo, .int .i64 i, .string t, .slice A1 n1 c1, .slice A2 n2 c2] 27
/-- The six cells of a value at a place. -/
def Six (w : World) (b o : Nat) (k : Int) (bo : Bool) (i : Int) (t : ByteArray) (A1 : Option Addr) (n1 c1 : Nat) (A2 : Option Addr) (n2 c2 : Nat) : Prop :=
  w.cell? ⟨b, o, none⟩ = some (.int .i64 k) ∧ w.cell? ⟨b, o + 1, none⟩ = some (.bool bo) ∧ w.cell? ⟨b, o + 2, none⟩ = some (.int .i64 i) ∧
    w.cell? ⟨b, o + 3, none⟩ = some (.string t) ∧ w.cell? ⟨b, o + 4, none⟩ = some (.slice A1 n1 c1) ∧ w.cell? ⟨b, o + 5, none⟩ = some (.slice A2 n2 c2)
theorem boxV6 {w w1 : World} {B : Nat} {k : Int} {bo : Bool} {i : Int} {t : ByteArray} {A1 : Option Addr} {n1 c1 : Nat} {A2 : Option Addr} {n2 c2 : Nat}
    (hb : Below B (w.alloc (boxV k bo i t A1 n1 c1 A2 n2 c2)) w1) (hB : w.heap.size < B) : Six w1 w.heap.size 0 k bo i t A1 n1 c1 A2 n2 c2 := by
  have h : ∀ j, w1.cell? ⟨w.heap.size, j, none⟩ = (w.alloc (boxV k bo i t A1 n1 c1 A2 n2 c2)).cell? ⟨w.heap.size, j, none⟩ := fun j => hb.cell (p := ⟨w.heap.size, j, none⟩) hB
  refine ⟨(h 0).trans ?_, (h (0 + 1)).trans ?_, (h (0 + 2)).trans ?_, (h (0 + 3)).trans ?_, (h (0 + 4)).trans ?_, (h (0 + 5)).trans ?_⟩ <;> simp [boxV]
/-- Two values' cells in two blocks of their own, whatever comes behind them. -/
theorem boxV12 {w w1 : World} {k : Int} {bo : Bool} {i : Int} {t : ByteArray} {A1 : Option Addr} {n1 c1 : Nat} {A2 : Option Addr} {n2 c2 : Nat}
    {k' : Int} {bo' : Bool} {i' : Int} {t' : ByteArray} {A1' : Option Addr} {n1' c1' : Nat} {A2' : Option Addr} {n2' c2' : Nat}
    (hb : Below (w.heap.size + 2) ((w.alloc (boxV k bo i t A1 n1 c1 A2 n2 c2)).alloc (boxV k' bo' i' t' A1' n1' c1' A2' n2' c2')) w1) :
    Six w1 w.heap.size 0 k bo i t A1 n1 c1 A2 n2 c2 ∧ Six w1 (w.heap.size + 1) 0 k' bo' i' t' A1' n1' c1' A2' n2' c2' := by
  refine ⟨boxV6 (B := w.heap.size + 1) (((Below.refl _ _).alloc (by simp) _).trans (hb.mono (by omega))) (by omega), ?_⟩
  have h := boxV6 (B := w.heap.size + 2) hb (by simp)
  have e : (w.alloc (boxV k bo i t A1 n1 c1 A2 n2 c2)).heap.size = w.heap.size + 1 := by simp
  rw [e] at h
  exact h
theorem below_box2 {w wr : World} {o o' : Obj} (hb : Below (w.heap.size + 2) ((w.alloc o).alloc o') wr) : Below w.heap.size w wr ∧ w.heap.size + 2 ≤ wr.heap.size := by
  have hs := hb.size
  simp at hs
  exact ⟨(((Below.refl _ w).alloc (Nat.le_refl _) o).alloc (by simp) o').trans (hb.mono (by omega)), hs⟩
theorem cmp_at {d d' : Vals} {j : Nat} {k : Int} {bo : Bool} {i : Int} {t : ByteArray} {it : Vals} {ks : List ByteArray} {r : Vals} {k' : Int} {bo' : Bool} {i' : Int} {t' : ByteArray} {it' : Vals} {ks' : List ByteArray} {r' : Vals} {x : Int}
    (h : d.drop j = .cons k bo i t it ks r) (h1 : d.drop (j + 1) = r) (g : d'.drop j = .cons k' bo' i' t' it' ks' r') (g1 : d'.drop (j + 1) = r') (hx : cOne k bo i t it ks k' bo' i' t' it' ks' = x) :
    (d.drop j).cmp (d'.drop j) = if x ≠ 0 then x else (d.drop (j + 1)).cmp (d'.drop (j + 1)) := by
  subst h1 g1 hx
  rw [h, g]
  unfold cOne
  simp only [Vals.cmp]
  by_cases h1 : cF k bo i t ks k' bo' i' t' ks' ≠ 0
  · rw [if_pos h1, if_pos h1, if_pos h1]
  · rw [if_neg h1, if_neg h1]
theorem compareInt_lt {a b : Int} (h : a < b) : Lib.compareInt a b = -1 := by unfold Lib.compareInt; rw [if_pos h]
theorem compareInt_gt {a b : Int} (h : b < a) : Lib.compareInt a b = 1 := by unfold Lib.compareInt; rw [if_neg (by omega), if_pos h]
theorem cmp_end : ∀ {d d' : Vals}, d.len = 0 ∨ d'.len = 0 → d.cmp d' = Lib.compareInt d.len d'.len
  | .nil, .nil, _ => rfl
  | .nil, .cons .., _ => (compareInt_lt (by simp only [Vals.len]; omega)).symm
  | .cons .., .nil, _ => (compareInt_gt (by simp only [Vals.len]; omega)).symm
  | .cons .., .cons .., h => by simp [Vals.len] at h
theorem compareInt_sub (a b c : Int) : Lib.compareInt (a - c) (b - c) = Lib.compareInt a b := by
  rcases Int.lt_trichotomy a b with h | h | h
  · rw [compareInt_lt h, compareInt_lt (by omega)]
  · rw [compareInt_zero.2 h, compareInt_zero.2 (by omega)]
  · rw [compareInt_gt h, compareInt_gt (by omega)]
theorem cmp_done {d d' : Vals} {j : Nat} (h : j ≤ d.len) (h' : j ≤ d'.len) (hj : j = d.len ∨ j = d'.len) : (d.drop j).cmp (d'.drop j) = Lib.compareInt d.len d'.len := by
  rw [cmp_end (by rw [Vals.len_drop, Vals.len_drop]; omega), Vals.len_drop, Vals.len_drop, Int.ofNat_sub h, Int.ofNat_sub h', compareInt_sub]
theorem cmp_zero (d d' : Vals) : d.cmp d' = (d.drop 0).cmp (d'.drop 0) := by rw [Vals.drop_zero, Vals.drop_zero]
theorem cOne_nz {k : Int} {bo : Bool} {i : Int} {t : ByteArray} {it : Vals} {ks : List ByteArray} {k' : Int} {bo' : Bool} {i' : Int} {t' : ByteArray} {it' : Vals} {ks' : List ByteArray} {x : Int}
    (h : cF k bo i t ks k' bo' i' t' ks' = x) (hx : ¬ x = 0) : cOne k bo i t it ks k' bo' i' t' it' ks' = x := by
  unfold cOne
  rw [h, if_pos hx]
theorem cOne_z {k : Int} {bo : Bool} {i : Int} {t : ByteArray} {it : Vals} {ks : List ByteArray} {k' : Int} {bo' : Bool} {i' : Int} {t' : ByteArray} {it' : Vals} {ks' : List ByteArray}
    (h : cF k bo i t ks k' bo' i' t' ks' = 0) : cOne k bo i t it ks k' bo' i' t' it' ks' = it.cmp it' := by
  unfold cOne
  rw [h, if_neg (by simp)]
theorem Vals.below_at {j : Nat} {d : Vals} {k : Int} {bo : Bool} {i : Int} {t : ByteArray} {it : Vals} {ks : List ByteArray} {r : Vals} (e : d.drop j = .cons k bo i t it ks r) : it.letters ≤ d.letters ∧ ks.length ≤ d.letters ∧ it.nodes + 1 ≤ d.nodes := by
  have h1 := Vals.letters_drop j d
  have h2 := Vals.nodes_drop j d
  have h3 := kz_len ks
  rw [e] at h1 h2
  simp only [Vals.letters] at h1
  simp only [Vals.nodes] at h2
  omega
end Go.Proofs.Ytfgekmfkaepgjaa
