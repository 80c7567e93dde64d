/- DERIVED. Plain facts for the check of a value of settings: bytes, keys, the error of a value, of values. No condition. -/
import Derived.Test.YtjghindfnjfdcaaGreatDoorVal
import Derived.Test.YtjghindfnjfdcaaGreatDoorAnyB
namespace Go.Proofs.YtjghindfnjfdcaaGreatDoor
def smallB (c : UInt8) : Bool := decide (97 ≤ c.toNat) && decide (c.toNat ≤ 122)
/-- A byte that cannot be in a key. -/
def nkB (c : UInt8) : Bool := !smallB c && nd c && !(c == 45) && !(c == 95)
/-- A byte that cannot be in a string. -/
def ctB (c : UInt8) : Bool := decide (c.toNat < 32) && !(c == 9) && !(c == 10)
def keyB (s : ByteArray) : Bool := match s.data.toList with
  | [] => false
  | c :: _ => decide (s.size ≤ 40) && smallB c && !(s.data.toList.any nkB)
def textErr (t : ByteArray) : Int := if 5000 < t.size then 4 else if t.data.toList.any ctB = true then 9 else 0
/-- The error of the keys, the one before them given. -/
def keysErr (le : ByteArray → ByteArray → Bool) : Option ByteArray → List ByteArray → Int
  | _, [] => 0
  | p, s :: r => if keyB s = false then 12 else if (match p with | none => false | some q => le s q) = true then 5 else keysErr le (some s) r
/-- A field that the kind does not use is set. -/
def unB (k : Int) (bo : Bool) (i : Int) (te : Bool) (n m : Nat) : Bool :=
  (bo && decide (k ≠ 1)) || decide (i ≠ 0 ∧ k ≠ 2 ∧ k ≠ 4) || (!te && decide (k ≠ 3)) || decide (0 < n ∧ k ≠ 5 ∧ k ≠ 6) || decide (0 < m ∧ k ≠ 6) || decide (k = 6 ∧ m ≠ n)
def valErr (le : ByteArray → ByteArray → Bool) (k : Int) (bo : Bool) (i : Int) (t : ByteArray) (n : Nat) (keys : List ByteArray) : Int :=
  if k < 0 ∨ 6 < k then 10 else if unB k bo i t.toList.isEmpty n keys.length = true then 1 else if k = 4 ∧ (i < 0 ∨ 84005 < i) then 2 else if textErr t ≠ 0 then textErr t else keysErr le none keys
namespace Vals
def err (le : ByteArray → ByteArray → Bool) : Vals → Int
  | .nil => 0
  | .cons k bo i t items keys r => if valErr le k bo i t items.len keys ≠ 0 then valErr le k bo i t items.len keys else if items.err le ≠ 0 then items.err le else r.err le
def levels : Vals → Nat
  | .nil => 0
  | .cons _ _ _ _ items _ r => max (items.levels + 1) r.levels
theorem levels_le : ∀ d : Vals, d.levels ≤ d.nodes
  | .nil => Nat.le_refl _
  | .cons _ _ _ _ c _ r => by
    have h1 := levels_le c
    have h2 := levels_le r
    simp only [levels, nodes]
    omega
end Vals
/-- The error of a value and its items. -/
def oneErr (le : ByteArray → ByteArray → Bool) (k : Int) (bo : Bool) (i : Int) (t : ByteArray) (items : Vals) (keys : List ByteArray) : Int :=
  if valErr le k bo i t items.len keys ≠ 0 then valErr le k bo i t items.len keys else items.err le
/-- The error of a value. -/
def confErr (le : ByteArray → ByteArray → Bool) (k : Int) (bo : Bool) (i : Int) (t : ByteArray) (items : Vals) (keys : List ByteArray) : Int :=
  if 1000 < items.nodes + 1 then 4 else if 8 < items.levels + 1 then 13 else oneErr le k bo i t items keys
theorem at_idx {s : ByteArray} {i : Nat} (h : i < s.size) : s.data.toList[i]? = some s[i] := by
  have h' : i < s.data.toList.length := by simpa using h
  rw [List.getElem?_eq_getElem h']
  rfl
theorem toList_ne {s : ByteArray} (h : 0 < s.size) : ¬ s.toList = [] := by
  intro e
  rw [ByteArray.toList_eq] at e
  have h1 : s.data.toList.length = 0 := by rw [e]; rfl
  rw [Array.length_toList] at h1
  have h2 : s.size = s.data.size := rfl
  omega
theorem toList_nil {s : ByteArray} (h : s.size = 0) : s.toList = [] := by
  rw [ByteArray.toList_eq]
  exact List.eq_nil_of_length_eq_zero (by rw [Array.length_toList]; exact h)
theorem isEmpty_ne {s : ByteArray} (h : 0 < s.size) : s.toList.isEmpty = false := by
  cases hz : s.toList with
  | nil => exact absurd hz (toList_ne h)
  | cons => rfl
theorem isEmpty_nil {s : ByteArray} (h : s.size = 0) : s.toList.isEmpty = true := by rw [toList_nil h]; rfl
theorem keyB_nil {s : ByteArray} (h : s.size = 0) : keyB s = false := by
  unfold keyB
  rw [List.eq_nil_of_length_eq_zero (l := s.data.toList) (by rw [Array.length_toList]; exact h)]
theorem keyB_cons {s : ByteArray} (h : 0 < s.size) : keyB s = (decide (s.size ≤ 40) && smallB s[0] && !(s.data.toList.any nkB)) := by
  have e := at_idx h
  cases hl : s.data.toList with
  | nil => rw [hl] at e; cases e
  | cons c r =>
    rw [hl] at e
    simp only [List.getElem?_cons_zero, Option.some.injEq] at e
    unfold keyB
    rw [hl, ← e]
end Go.Proofs.YtjghindfnjfdcaaGreatDoor
