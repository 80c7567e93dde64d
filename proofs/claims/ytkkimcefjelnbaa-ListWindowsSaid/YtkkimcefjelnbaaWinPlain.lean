/- DERIVED. The links of a pager: plain facts. No condition. -/
import Derived.Below
import Derived.Laws.OwnMore
namespace Go.Proofs.Ytkkimcefjelnbaa
/-- A part that is not shown. -/
def winSkip (p c a : Nat) (n : Nat) : Bool := decide (n ≠ 1) && decide (n ≠ p) && (decide ((n : Int) < (c : Int) - a) || decide ((c : Int) + a < n))
/-- What is written for the parts up to n, and the last one that is shown. -/
def winL (p c a : Nat) : Nat → List Int × Nat
  | 0 => ([], 0)
  | n + 1 => if winSkip p c a (n + 1) = true then winL p c a n else ((winL p c a n).1 ++ (if n ≤ (winL p c a n).2 then [] else [0]) ++ [((n + 1 : Nat) : Int)], n + 1)
theorem winL_skip {p c a n : Nat} (h : winSkip p c a (n + 1) = true) : winL p c a (n + 1) = winL p c a n := by rw [winL, if_pos h]
theorem winL_near {p c a n : Nat} (h : winSkip p c a (n + 1) = false) (hn : (winL p c a n).2 = n) : winL p c a (n + 1) = ((winL p c a n).1 ++ [((n + 1 : Nat) : Int)], n + 1) := by
  rw [winL, if_neg (by rw [h]; simp), if_pos (by omega), List.append_nil]
theorem winL_far {p c a n : Nat} (h : winSkip p c a (n + 1) = false) (hn : (winL p c a n).2 < n) : winL p c a (n + 1) = ((winL p c a n).1 ++ [0] ++ [((n + 1 : Nat) : Int)], n + 1) := by
  rw [winL, if_neg (by rw [h]; simp), if_neg (by omega)]
theorem winL_one (p c a : Nat) : winL p c a 1 = ([1], 1) := by
  have h : winSkip p c a 1 = false := by simp [winSkip]
  exact winL_near h rfl
/-- How many are written, which is the last one. -/
theorem winL_facts (p c a : Nat) : ∀ n, (winL p c a n).2 ≤ n ∧ (winL p c a n).1.length ≤ 2 * n ∧ (1 ≤ n → 1 ≤ (winL p c a n).2 ∧ ∃ q, (winL p c a n).1.length = q + 1 ∧ (winL p c a n).1[q]? = some (((winL p c a n).2 : Nat) : Int))
  | 0 => ⟨Nat.le_refl _, Nat.le_refl _, fun h => absurd h (by omega)⟩
  | n + 1 => by
    obtain ⟨h1, h2, h3⟩ := winL_facts p c a n
    cases hs : winSkip p c a (n + 1) with
    | true =>
      rw [winL_skip hs]
      refine ⟨by omega, by omega, fun _ => ?_⟩
      by_cases h0 : n = 0
      · subst h0
        simp [winSkip] at hs
      · exact h3 (by omega)
    | false =>
      by_cases hn : (winL p c a n).2 = n
      · rw [winL_near hs hn]
        refine ⟨Nat.le_refl _, by simp; omega, fun _ => ⟨by omega, (winL p c a n).1.length, by simp, by simp⟩⟩
      · rw [winL_far hs (by omega)]
        refine ⟨Nat.le_refl _, by simp; omega, fun _ => ⟨by omega, (winL p c a n).1.length + 1, by simp, ?_⟩⟩
        rw [List.getElem?_append_right (by simp)]
        simp
theorem winSkip_yes {p c a n : Nat} (h1 : n ≠ 1) (hp : n ≠ p) (h : (n : Int) < (c : Int) - a ∨ (c : Int) + a < n) : winSkip p c a n = true := by
  unfold winSkip
  simp only [ne_eq, Bool.and_eq_true, decide_eq_true_eq, Bool.or_eq_true]
  exact ⟨⟨h1, hp⟩, h⟩
theorem winSkip_no {p c a n : Nat} (h : n = 1 ∨ n = p ∨ (¬ (n : Int) < (c : Int) - a ∧ ¬ (c : Int) + a < n)) : winSkip p c a n = false := by
  unfold winSkip
  simp only [ne_eq, Bool.and_eq_false_iff, decide_eq_false_iff_not, Bool.or_eq_false_iff]
  rcases h with h | h | h
  · exact .inl (.inl (fun h' => h' h))
  · exact .inl (.inr (fun h' => h' h))
  · exact .inr h
end Go.Proofs.Ytkkimcefjelnbaa
