/- DERIVED. Rules of plural forms: plain mathematics of tests. No condition. -/
import Derived.Test.YtlifjhglpflplaaDoorTst
namespace Go.Proofs.YtlifjhglpflplaaDoor
set_option linter.unusedVariables false
open Go.RowKit
namespace Tst
def depth : Tst → Nat
  | .nil => 0
  | .cons _ _ _ _ c r => max (c.depth + 1) r.depth
/-- Some test, or one of its kids, is so. -/
def anyT (p : Int → Int → Int → Int → Tst → Bool) : Tst → Bool
  | .nil => false
  | .cons k md lo hi c r => (p k md lo hi c || anyT p c) || anyT p r
/-- One of these, without their kids. -/
def anyK (p : Tst → Bool) : Tst → Bool
  | .nil => false
  | .cons _ _ _ _ c r => p c || anyK p r
def hasOp (op : Int) : Tst → Bool
  | .nil => false
  | .cons k _ _ _ _ r => decide (k = op) || hasOp op r
end Tst
/-- The fields and kids do not fit the operation. -/
def badF (k md lo hi : Int) (c : Tst) : Bool :=
  if k = 1 then decide (0 < c.len)
  else if md ≠ 0 ∨ lo ≠ 0 ∨ hi ≠ 0 then true
  else if k = 2 ∨ k = 3 then decide (c.len < 2) || c.hasOp k
  else if k = 4 then decide (c.len < 1) else true
def rangeB (md lo hi : Int) : Bool := (decide (md = 0) || (decide (2 ≤ md) && decide (md ≤ 1000000))) && (decide (0 ≤ lo) && (decide (lo ≤ hi) && decide (hi ≤ 1000000000)))
def badR (k md lo hi : Int) (c : Tst) : Bool := !rangeB md lo hi
def anyC (d : Tst) : Bool := d.anyK fun c => decide (20 < c.nodes + 1)
def anyL (d : Tst) : Bool := d.anyK fun c => decide (12 < c.depth + 1)
def ruleErr (d : Tst) : Int := if 6 < d.len then 4 else if anyC d = true then 4 else if anyL d = true then 13 else if d.anyT badF = true then 1 else if d.anyT badR = true then 2 else 0
def withinB (md lo hi : Int) (n : Nat) : Bool := let m : Int := if md = 0 then (n : Int) else (n : Int) % md; decide (lo ≤ m) && decide (m ≤ hi)
/-- All of them hold, or some of them. -/
def Tst.q (n : Nat) : Bool → Tst → Bool
  | all, .nil => all
  | all, .cons k md lo hi c r => if all = true then (if k = 2 then c.q n true else if k = 3 then c.q n false else if k = 4 then !c.q n false else withinB md lo hi n) && r.q n true
    else (if k = 2 then c.q n true else if k = 3 then c.q n false else if k = 4 then !c.q n false else withinB md lo hi n) || r.q n false
def hd (n : Nat) (k md lo hi : Int) (c : Tst) : Bool := if k = 2 then c.q n true else if k = 3 then c.q n false else if k = 4 then !c.q n false else withinB md lo hi n
theorem q_all (n : Nat) (k md lo hi : Int) (c r : Tst) : (Tst.cons k md lo hi c r).q n true = (hd n k md lo hi c && r.q n true) := rfl
theorem q_some (n : Nat) (k md lo hi : Int) (c r : Tst) : (Tst.cons k md lo hi c r).q n false = (hd n k md lo hi c || r.q n false) := rfl
/-- The first that holds. -/
def fIdx (n : Nat) : Tst → Nat → Nat
  | .nil, i => i
  | .cons k md lo hi c r, i => if hd n k md lo hi c = true then i else fIdx n r (i + 1)
theorem fIdx_le (n : Nat) : ∀ (d : Tst) (i : Nat), fIdx n d i ≤ i + d.len
  | .nil, i => by simp [fIdx, Tst.len]
  | .cons k md lo hi c r, i => by
    unfold fIdx
    split
    · simp [Tst.len]
    · have := fIdx_le n r (i + 1)
      simp only [Tst.len]; omega
theorem anyT_cons {p : Int → Int → Int → Int → Tst → Bool} {k md lo hi : Int} {c r : Tst} (h : (Tst.cons k md lo hi c r).anyT p = false) : p k md lo hi c = false ∧ c.anyT p = false ∧ r.anyT p = false := by
  unfold Tst.anyT at h
  rw [Bool.or_eq_false_iff, Bool.or_eq_false_iff] at h
  exact ⟨h.1.1, h.1.2, h.2⟩
theorem anyT_drop {p : Int → Int → Int → Int → Tst → Bool} : ∀ {d : Tst} (i : Nat), d.anyT p = false → (d.drop i).anyT p = false
  | d, 0, h => by cases d <;> exact h
  | .nil, i + 1, h => h
  | .cons k md lo hi c r, i + 1, h => anyT_drop (d := r) i (anyT_cons h).2.2
theorem rangeB_inv {md lo hi : Int} (h : rangeB md lo hi = true) : (md = 0 ∨ 2 ≤ md ∧ md ≤ 1000000) ∧ 0 ≤ lo ∧ lo ≤ hi ∧ hi ≤ 1000000000 := by
  unfold rangeB at h
  simp only [Bool.and_eq_true, Bool.or_eq_true, decide_eq_true_eq] at h
  omega
theorem badF_ops {k md lo hi : Int} {c : Tst} (h : badF k md lo hi c = false) : k = 1 ∧ c.len = 0 ∨ k = 2 ∨ k = 3 ∨ k = 4 := by
  unfold badF at h
  split at h
  · next h1 => left; exact ⟨h1, by have := of_decide_eq_false h; omega⟩
  · split at h
    · cases h
    · split at h
      · next h1 => omega
      · split at h
        · next h1 => omega
        · cases h
theorem depth_drop : ∀ (i : Nat) (d : Tst), (d.drop i).depth ≤ d.depth
  | 0, d => by cases d <;> exact Nat.le_refl _
  | i + 1, .nil => Nat.le_refl _
  | i + 1, .cons _ _ _ _ c r => by
    have := depth_drop i r
    show (r.drop i).depth ≤ max (c.depth + 1) r.depth
    omega
theorem depth_le : ∀ d : Tst, d.depth ≤ d.nodes
  | .nil => Nat.le_refl _
  | .cons _ _ _ _ c r => by
    have := depth_le c
    have := depth_le r
    simp only [Tst.depth, Tst.nodes]; omega
end Go.Proofs.YtlifjhglpflplaaDoor
