/- DERIVED. Slugs of strings, as the program and as the reference build them: the same. No condition. -/
import Derived.Lib.SlTrimSet
import Derived.Lib.Strings
namespace Go.Proofs.YtdigifhejhgeiaaDoor
/-- A byte that stays. -/
def okc (c : UInt8) : Bool := (decide (97 ≤ c.toNat) && decide (c.toNat ≤ 122)) || (decide (48 ≤ c.toNat) && decide (c.toNat ≤ 57)) || decide (128 ≤ c.toNat)
/-- A capital becomes small. -/
def upc (c : UInt8) : UInt8 := if 65 ≤ c.toNat ∧ c.toNat ≤ 90 then UInt8.ofNat (c.toNat + 32) else c
def endsD (b : List UInt8) : Bool := b.getLast? == some 45
def pstepS (b : List UInt8) (c : UInt8) : List UInt8 := if okc (upc c) = true then b ++ [upc c] else if b = [] ∨ endsD b = true then b else b ++ [45]
def rstepS (o : List UInt8) (c : UInt8) : List UInt8 := if okc (upc c) = true then o ++ [upc c] else if endsD o = true then o else o ++ [45]
structure SInv (o b : List UInt8) : Prop where
  form : o = b ∨ o = 45 :: b
  head : b.head? ≠ some 45
  dbl : ∀ r, b = r ++ [45] → r.getLast? ≠ some 45
theorem snocU : ∀ {l : List UInt8}, l ≠ [] → ∃ r x, l = r ++ [x] := fun {l} h => ⟨l.dropLast, l.getLast h, (List.dropLast_concat_getLast h).symm⟩
theorem endsD_cons {b : List UInt8} (h : b ≠ []) : endsD (45 :: b) = endsD b := by
  unfold endsD
  rw [List.getLast?_cons_of_ne_nil h]
theorem endsD_form {o b : List UInt8} (h : o = b ∨ o = 45 :: b) (hb : b ≠ []) : endsD o = endsD b := by
  rcases h with rfl | rfl
  · rfl
  · exact endsD_cons hb
theorem okc_45 {x : UInt8} (h : okc x = true) : x ≠ 45 := by rintro rfl; revert h; decide
theorem SInv.step {o b : List UInt8} (h : SInv o b) (c : UInt8) : SInv (rstepS o c) (pstepS b c) := by
  unfold rstepS pstepS
  by_cases h1 : okc (upc c) = true
  · rw [if_pos h1, if_pos h1]
    have hx := okc_45 h1
    refine ⟨?_, ?_, fun r e => ?_⟩
    · rcases h.form with rfl | rfl
      · exact .inl rfl
      · exact .inr rfl
    · cases b with
      | nil => simpa using hx
      | cons y t => simpa using h.head
    · have := (List.append_inj' e rfl).2
      simp at this
      exact absurd this hx
  · rw [if_neg h1, if_neg h1]
    by_cases h2 : b = []
    · subst h2
      rcases h.form with rfl | rfl
      · rw [if_neg (show ¬ endsD [] = true by decide), if_pos (Or.inl rfl)]
        exact ⟨.inr rfl, by simp, fun r e => by simp at e⟩
      · rw [if_pos (show endsD [45] = true by decide), if_pos (Or.inl rfl)]
        exact ⟨.inr rfl, by simp, fun r e => by simp at e⟩
    · rw [endsD_form h.form h2]
      by_cases h3 : endsD b = true
      · rw [if_pos h3, if_pos (.inr h3)]
        exact h
      · rw [if_neg h3, if_neg (by simp [h2, h3])]
        refine ⟨?_, ?_, fun r e => ?_⟩
        · rcases h.form with rfl | rfl
          · exact .inl rfl
          · exact .inr rfl
        · cases b with
          | nil => exact absurd rfl h2
          | cons y t => simpa using h.head
        · have := (List.append_inj' e rfl).1
          subst this
          intro e2
          exact h3 (by unfold endsD; rw [e2]; rfl)
theorem sinv_fold : ∀ (l o b : List UInt8), SInv o b → SInv (l.foldl rstepS o) (l.foldl pstepS b)
  | [], _, _, h => h
  | c :: l, _, _, h => sinv_fold l _ _ (h.step c)
theorem left45 {l : List UInt8} (h : l.head? ≠ some 45) : Lib.trimLeftS l [45] = l := by
  cases l with
  | nil => rfl
  | cons x t =>
    have hx : x ≠ 45 := by simpa using h
    have e : ([45] : List UInt8).contains x = false := by simp [hx]
    unfold Lib.trimLeftS
    rw [List.dropWhile_cons, e]
    rfl
theorem left45' {l : List UInt8} (h : l.head? ≠ some 45) : Lib.trimLeftS (45 :: l) [45] = l := by
  have := left45 h
  unfold Lib.trimLeftS at this ⊢
  rw [List.dropWhile_cons]
  exact this
theorem right45 {r : List UInt8} {x : UInt8} (hx : x ≠ 45) : Lib.trimRightS (r ++ [x]) [45] = r ++ [x] := by
  have e : ([45] : List UInt8).contains x = false := by simp [hx]
  unfold Lib.trimRightS
  rw [List.reverse_append, List.reverse_singleton, List.singleton_append, List.dropWhile_cons, e]
  simp
theorem right45' {r : List UInt8} : Lib.trimRightS (r ++ [45]) [45] = Lib.trimRightS r [45] := by
  unfold Lib.trimRightS
  rw [List.reverse_append, List.reverse_singleton, List.singleton_append, List.dropWhile_cons]
  rfl
theorem slug_end {o b : List UInt8} (h : SInv o b) : Lib.trimS o [45] = Lib.trimSuffix b [45] := by
  by_cases hb : b = []
  · subst hb
    rcases h.form with rfl | rfl <;> rfl
  · obtain ⟨r, x, rfl⟩ := snocU hb
    by_cases hx : x = 45
    · subst hx
      have hr : r ≠ [] := by
        rintro rfl
        exact h.head rfl
      obtain ⟨r', y, rfl⟩ := snocU hr
      have hy : y ≠ 45 := fun e => h.dbl _ rfl (by simp [e])
      have hh : (r' ++ [y]).head? ≠ some 45 := by
        have := h.head
        cases r' with
        | nil => simpa using this
        | cons z t => simpa using this
      have e2 : Lib.trimSuffix (r' ++ [y] ++ [45]) [45] = r' ++ [y] := by
        unfold Lib.trimSuffix
        rw [if_pos (by unfold Lib.hasSuffix; exact List.isSuffixOf_iff_suffix.2 ⟨_, rfl⟩)]
        have hl : (r' ++ [y] ++ [45]).length - List.length [(45 : UInt8)] = (r' ++ [y]).length := by simp
        exact (congrArg (fun n => List.take n (r' ++ [y] ++ [45])) hl).trans List.take_left
      rw [e2]
      unfold Lib.trimS
      rcases h.form with rfl | rfl
      · rw [right45', right45 hy, left45 hh]
      · rw [← List.cons_append, right45', ← List.cons_append, right45 hy, List.cons_append, left45' hh]
    · have e2 : Lib.trimSuffix (r ++ [x]) [45] = r ++ [x] := by
        unfold Lib.trimSuffix
        have : Lib.hasSuffix (r ++ [x]) [45] = false := by
          unfold Lib.hasSuffix
          cases hs : ([45] : List UInt8).isSuffixOf (r ++ [x]) with
          | false => rfl
          | true =>
            obtain ⟨t, ht⟩ := List.isSuffixOf_iff_suffix.1 hs
            have := (List.append_inj' ht rfl).2
            simp at this
            exact absurd this.symm hx
        rw [this]
        rfl
      rw [e2]
      unfold Lib.trimS
      rcases h.form with rfl | rfl
      · rw [right45 hx, left45 h.head]
      · rw [← List.cons_append, right45 hx, List.cons_append, left45' h.head]
theorem slug_same (l : List UInt8) : Lib.trimS (l.foldl rstepS []) [45] = Lib.trimSuffix (l.foldl pstepS []) [45] :=
  slug_end (sinv_fold l [] [] ⟨.inl rfl, by simp, fun r e => by simp at e⟩)
end Go.Proofs.YtdigifhejhgeiaaDoor
