/- DERIVED. lang.formOf, Form. Condition: at most 2^40 - 1 tests. -/
import Derived.Test.YtlifjhglpflplaaDoorTstHold
import Derived.RegionTactic
import Derived.BigRegion
import Derived.Deep.RegionHeld3
import Derived.Deep.Cut
namespace Go.Proofs.YtlifjhglpflplaaDoor
open Go.RowKit
set_option linter.unusedVariables false
set_option linter.unusedSimpArgs false
def formN (x : Nat) (d : Tst) : Int := if fst (hd x) d 0 < 0 then (d.len : Int) else fst (hd x) d 0
theorem fst_lt (p : TP) : ∀ (d : Tst) (i : Nat), fst p d i < 0 ∨ ∃ j : Nat, fst p d i = (j : Int) ∧ j < i + d.len
  | .nil, i => .inl (by unfold fst; omega)
  | .cons k md lo hi c r, i => by
    unfold fst
    split
    · exact .inr ⟨i, rfl, by simp [Tst.len]⟩
    · rcases fst_lt p r (i + 1) with h | ⟨j, h1, h2⟩
      · exact .inl h
      · exact .inr ⟨j, h1, by simp only [Tst.len]; omega⟩
theorem right_el {d : Tst} (h1 : d.anyT badF = false) (h2 : d.anyT badR = false) {i : Nat} {k md lo hi : Int} {c r : Tst} (he : d.drop i = .cons k md lo hi c r) : Right k md lo hi c := by
  have h1 := anyT_drop i h1
  have h2 := anyT_drop i h2
  rw [he] at h1 h2
  obtain ⟨a1, a2, _⟩ := anyT_cons h1
  obtain ⟨b1, b2, _⟩ := anyT_cons h2
  refine ⟨a1, ?_, a2, b2⟩
  unfold badR at b1
  cases hr : rangeB md lo hi with
  | true => rfl
  | false => rw [hr] at b1; cases b1
def formV (d : Tst) (y : Int) : Value := if ruleErr d = 0 then .tuple #[.int .i64 (formN y.natAbs d), .int .i64 0] else .tuple #[.int .i64 0, .int .i64 (ruleErr d)]
theorem ruleErr_ok {d : Tst} (h : ruleErr d = 0) : d.anyT badF = false ∧ d.anyT badR = false ∧ anyL d = false ∧ anyC d = false ∧ d.len ≤ 6 := by
  unfold ruleErr at h
  split at h
  · omega
  · split at h
    · omega
    · split at h
      · omega
      · split at h
        · omega
        · split at h
          · omega
          · next a1 a2 a3 a4 a5 => exact ⟨by simpa using a4, by simpa using a5, by simpa using a3, by simpa using a2, by omega⟩
end Go.Proofs.YtlifjhglpflplaaDoor
