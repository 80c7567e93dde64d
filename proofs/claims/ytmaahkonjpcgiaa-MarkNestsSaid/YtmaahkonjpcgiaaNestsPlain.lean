/- DERIVED. Plain facts for MarkNests: the last entry of a lesser level before an entry, and the table that holds it by level. No condition. -/
namespace Go.Proofs.Ytmaahkonjpcgiaa.NestsPlain
/-- The last entry before number i whose level is less than v, or -1. -/
def prev (lv : Nat → Int) (v : Int) : Nat → Int
  | 0 => -1
  | i + 1 => if lv i < v then (i : Int) else prev lv v i
theorem prev_range (lv : Nat → Int) (v : Int) : ∀ i, -1 ≤ prev lv v i ∧ prev lv v i < i
  | 0 => by simp [prev]
  | i + 1 => by
    have h := prev_range lv v i
    unfold prev
    split <;> omega
/-- What Nested gives for the first n entries. -/
def outs (lv : Nat → Int) (n : Nat) : List Int := (List.range n).map fun i => prev lv (lv i) i
theorem outs_succ (lv : Nat → Int) (n : Nat) : outs lv (n + 1) = outs lv n ++ [prev lv (lv n) n] := by
  simp [outs, List.range_succ]
theorem outs_length (lv : Nat → Int) (n : Nat) : (outs lv n).length = n := by simp [outs]
/-- The table 'last' in the midst of round i: the places from the entry's level up to 'u' have been written. -/
def tab (lv : Nat → Int) (i : Nat) (u : Int) (j : Int) : Int := if lv i ≤ j ∧ j < u then (i : Int) else prev lv (j + 1) i
theorem tab_start (lv : Nat → Int) (i : Nat) (j : Int) : tab lv i (lv i) j = prev lv (j + 1) i := by
  unfold tab; rw [if_neg (by omega)]
theorem tab_end (lv : Nat → Int) (i : Nat) (u j : Int) (h : j < u) : tab lv i u j = prev lv (j + 1) (i + 1) := by
  have e : prev lv (j + 1) (i + 1) = if lv i < j + 1 then (i : Int) else prev lv (j + 1) i := rfl
  rw [e]
  unfold tab
  by_cases hj : lv i ≤ j
  · rw [if_pos ⟨hj, h⟩, if_pos (by omega)]
  · rw [if_neg (by omega), if_neg (by omega)]
theorem tab_step_same (lv : Nat → Int) (i : Nat) (u : Int) (h : lv i ≤ u) : tab lv i (u + 1) u = i := by
  unfold tab; rw [if_pos (by omega)]
theorem tab_step_other (lv : Nat → Int) (i : Nat) (u j : Int) (h : j ≠ u) : tab lv i (u + 1) j = tab lv i u j := by
  unfold tab
  by_cases hj : lv i ≤ j ∧ j < u
  · rw [if_pos hj, if_pos (by omega)]
  · rw [if_neg hj, if_neg (by omega)]
/-- The search backward: at k = m - 1. -/
theorem prev_back (lv : Nat → Int) (v : Int) (m : Nat) (h : v ≤ lv m) : prev lv v (m + 1) = prev lv v m := by
  rw [prev, if_neg (by omega)]
theorem prev_found (lv : Nat → Int) (v : Int) (m : Nat) (h : lv m < v) : prev lv v (m + 1) = m := by
  rw [prev, if_pos h]
end Go.Proofs.Ytmaahkonjpcgiaa.NestsPlain
