/- DERIVED. The parts of a pager, as the cells of a row: plain facts. No condition. -/
import Derived.Below
import Derived.Laws.OwnMore
namespace Go.Proofs.YtkkimcefjelnbaaGreatDoor
/-- The cells of the first k parts: number, from, to. -/
def pagesL (m s k : Nat) : List Value := (List.range k).flatMap fun j => [.int .i64 (j + 1 : Nat), .int .i64 (j * s : Nat), .int .i64 (min (j * s + s) m : Nat)]
theorem pagesL_succ (m s k : Nat) : pagesL m s (k + 1) = pagesL m s k ++ [.int .i64 (k + 1 : Nat), .int .i64 (k * s : Nat), .int .i64 (min (k * s + s) m : Nat)] := by
  simp [pagesL, List.range_succ]
theorem pagesL_length (m s : Nat) : ∀ k, (pagesL m s k).length = k * 3
  | 0 => rfl
  | k + 1 => by rw [pagesL_succ, List.length_append, pagesL_length m s k]; simp; omega
theorem pagesL_get (m s : Nat) : ∀ (k j : Nat), j < k → (pagesL m s k)[j * 3]? = some (.int .i64 (j + 1 : Nat)) ∧ (pagesL m s k)[j * 3 + 1]? = some (.int .i64 (j * s : Nat)) ∧ (pagesL m s k)[j * 3 + 2]? = some (.int .i64 (min (j * s + s) m : Nat))
  | 0, j, h => absurd h (by omega)
  | k + 1, j, h => by
    have hl := pagesL_length m s k
    rw [pagesL_succ]
    by_cases e : j = k
    · subst e
      refine ⟨?_, ?_, ?_⟩ <;> rw [List.getElem?_append_right (by omega)]
      · rw [show j * 3 - (pagesL m s j).length = 0 by omega]; rfl
      · rw [show j * 3 + 1 - (pagesL m s j).length = 1 by omega]; rfl
      · rw [show j * 3 + 2 - (pagesL m s j).length = 2 by omega]; rfl
    · have ih := pagesL_get m s k j (by omega)
      refine ⟨?_, ?_, ?_⟩ <;> rw [List.getElem?_append_left (by omega)]
      · exact ih.1
      · exact ih.2.1
      · exact ih.2.2
/-- The number of parts. -/
def LastPart (m s k : Nat) : Prop := 1 ≤ k ∧ m ≤ k * s ∧ (k = 1 ∨ (k - 1) * s < m)
theorem LastPart.le {m s k k' : Nat} (h : LastPart m s k) (h' : LastPart m s k') : k ≤ k' := by
  rcases h.2.2 with e | e
  · have := h'.1; omega
  · have h1 : (k - 1) * s < k' * s := Nat.lt_of_lt_of_le e h'.2.1
    have h2 : k - 1 < k' := Nat.lt_of_mul_lt_mul_right h1
    omega
theorem LastPart.eq {m s k k' : Nat} (h : LastPart m s k) (h' : LastPart m s k') : k = k' := Nat.le_antisymm (h.le h') (h'.le h)
end Go.Proofs.YtkkimcefjelnbaaGreatDoor
