/- DERIVED. Terms in memory, of which only the numbers of items matter; the least and the greatest of numbers. No condition. -/
import Derived.Below
import Derived.ProofKit
import Derived.Laws.OwnMore
import Derived.Lib.Slices
namespace Go.Proofs.Ytkkimcefjelnbaa
open Go.RowKit
/-- Terms in memory, below block B. -/
def TermsAt (w : World) (B : Nat) (A : Option Addr) (n : Nat) (ln : Nat → Nat) : Prop :=
  ∀ i, i < n → ∃ (b off c : Nat) (s t : ByteArray) (A1 : Option Addr), A = some ⟨b, off, none⟩ ∧ b < B ∧ ln i ≤ maxLen ∧ w.cell? ⟨b, off + i * 3, none⟩ = some (.string s) ∧
    w.cell? ⟨b, off + i * 3 + 1, none⟩ = some (.string t) ∧ w.cell? ⟨b, off + i * 3 + 2, none⟩ = some (.slice A1 (ln i) c)
theorem TermsAt.below {w w' : World} {B : Nat} {A : Option Addr} {n : Nat} {ln : Nat → Nat} (h : TermsAt w B A n ln) (hb : Below B w w') : TermsAt w' B A n ln := by
  intro i hi
  obtain ⟨b, off, c, s, t, A1, h1, h2, h0, h3, h4, h5⟩ := h i hi
  exact ⟨b, off, c, s, t, A1, h1, h2, h0, (hb.cell h2).trans h3, (hb.cell h2).trans h4, (hb.cell h2).trans h5⟩
theorem TermsAt.more {w : World} {B B' : Nat} {A : Option Addr} {n : Nat} {ln : Nat → Nat} (h : TermsAt w B A n ln) (hb : B ≤ B') : TermsAt w B' A n ln := by
  intro i hi
  obtain ⟨b, off, c, s, t, A1, h1, h2, h0, h3, h4, h5⟩ := h i hi
  exact ⟨b, off, c, s, t, A1, h1, Nat.lt_of_lt_of_le h2 hb, h0, h3, h4, h5⟩
/-- The numbers of items. -/
def lensI (ln : Nat → Nat) (n : Nat) : List Int := (List.range n).map fun i => ((ln i : Nat) : Int)
theorem lensI_length (ln : Nat → Nat) (n : Nat) : (lensI ln n).length = n := by simp [lensI]
theorem lensI_succ (ln : Nat → Nat) (n : Nat) : lensI ln (n + 1) = lensI ln n ++ [((ln n : Nat) : Int)] := by simp [lensI, List.range_succ]
theorem lensI_get (ln : Nat → Nat) {n i : Nat} (h : i < n) : (lensI ln n)[i]? = some ((ln i : Nat) : Int) := by simp [lensI, h]
theorem lensI_getD (ln : Nat → Nat) {n i : Nat} (h : i < n) : (lensI ln n).getD i 0 = ((ln i : Nat) : Int) := by rw [List.getD_eq_getElem?_getD, lensI_get ln h]; rfl
theorem foldl_min_le : ∀ (l : List Int) (a : Int), l.foldl min a ≤ a ∧ ∀ x, x ∈ l → l.foldl min a ≤ x
  | [], a => ⟨Int.le_refl _, fun x h => by cases h⟩
  | y :: r, a => by
    obtain ⟨h1, h2⟩ := foldl_min_le r (min a y)
    refine ⟨by simp only [List.foldl_cons]; omega, fun x hx => ?_⟩
    simp only [List.foldl_cons]
    rcases List.mem_cons.1 hx with rfl | hx
    · omega
    · exact h2 x hx
theorem foldl_max_ge : ∀ (l : List Int) (a : Int), a ≤ l.foldl max a ∧ ∀ x, x ∈ l → x ≤ l.foldl max a
  | [], a => ⟨Int.le_refl _, fun x h => by cases h⟩
  | y :: r, a => by
    obtain ⟨h1, h2⟩ := foldl_max_ge r (max a y)
    refine ⟨by simp only [List.foldl_cons]; omega, fun x hx => ?_⟩
    simp only [List.foldl_cons]
    rcases List.mem_cons.1 hx with rfl | hx
    · omega
    · exact h2 x hx
theorem foldl_min_nn : ∀ (l : List Int) (a : Int), 0 ≤ a → (∀ x, x ∈ l → 0 ≤ x) → 0 ≤ l.foldl min a
  | [], a, h, _ => h
  | y :: r, a, h, hx => by
    simp only [List.foldl_cons]
    have := hx y (List.mem_cons_self ..)
    exact foldl_min_nn r _ (by omega) fun x h' => hx x (List.mem_cons_of_mem _ h')
theorem foldl_max_le {M : Int} : ∀ (l : List Int) (a : Int), a ≤ M → (∀ x, x ∈ l → x ≤ M) → l.foldl max a ≤ M
  | [], a, h, _ => h
  | y :: r, a, h, hx => by
    simp only [List.foldl_cons]
    have := hx y (List.mem_cons_self ..)
    exact foldl_max_le r _ (by omega) fun x h' => hx x (List.mem_cons_of_mem _ h')
theorem lens_bounds (ln : Nat → Nat) (n : Nat) (hn : 0 < n) (hm : ∀ i, i < n → ln i ≤ maxLen) :
    0 ≤ Lib.minOf (lensI ln n) ∧ Lib.maxOf (lensI ln n) ≤ 9223372036854775807 ∧ ∀ i, i < n → Lib.minOf (lensI ln n) ≤ ((ln i : Nat) : Int) ∧ ((ln i : Nat) : Int) ≤ Lib.maxOf (lensI ln n) := by
  have hmem : ∀ x, x ∈ lensI ln n → 0 ≤ x ∧ x ≤ 9223372036854775807 := fun x hx => by
    unfold lensI at hx
    obtain ⟨i, hi, rfl⟩ := List.mem_map.1 hx
    have := hm i (List.mem_range.1 hi)
    unfold maxLen at this
    omega
  have hh : (lensI ln n).headD 0 = ((ln 0 : Nat) : Int) := by
    obtain ⟨m, rfl⟩ : ∃ m, n = m + 1 := ⟨n - 1, by omega⟩
    unfold lensI
    rw [List.range_succ_eq_map]
    rfl
  have h0 := hm 0 hn
  unfold maxLen at h0
  unfold Lib.minOf Lib.maxOf
  rw [hh]
  refine ⟨foldl_min_nn _ _ (by omega) fun x hx => (hmem x hx).1, foldl_max_le _ _ (by omega) fun x hx => (hmem x hx).2, fun i hi => ?_⟩
  have hin : ((ln i : Nat) : Int) ∈ lensI ln n := List.mem_map.2 ⟨i, List.mem_range.2 hi, rfl⟩
  exact ⟨(foldl_min_le _ _).2 _ hin, (foldl_max_ge _ _).2 _ hin⟩
/-- The row in the midst of the second loop: the first j numbers have been turned. -/
def cloudRow (q : Int → Int) (ln : Nat → Nat) (n j : Nat) : List Value := (List.range n).map fun i => if i < j then Value.int .i64 (q ((ln i : Nat) : Int)) else Value.int .i64 ((ln i : Nat) : Int)
theorem cloudRow_zero (q : Int → Int) (ln : Nat → Nat) (n : Nat) : cloudRow q ln n 0 = (lensI ln n).map (Value.int .i64) := by
  unfold cloudRow lensI
  rw [List.map_map]
  rfl
theorem cloudRow_get (q : Int → Int) (ln : Nat → Nat) {n j i : Nat} (h : i < n) : (cloudRow q ln n j)[i]? = some (if i < j then Value.int .i64 (q ((ln i : Nat) : Int)) else Value.int .i64 ((ln i : Nat) : Int)) := by
  simp [cloudRow, h]
theorem cloudRow_set (q : Int → Int) (ln : Nat → Nat) {n j : Nat} (h : j < n) : (cloudRow q ln n j).set j (Value.int .i64 (q ((ln j : Nat) : Int))) = cloudRow q ln n (j + 1) := by
  apply List.ext_getElem?
  intro i
  rw [List.getElem?_set]
  by_cases hi : i < n
  · by_cases e : j = i
    · subst e
      rw [if_pos rfl, if_pos (by simp [cloudRow]; exact h), cloudRow_get q ln hi, if_pos (by omega)]
    · rw [if_neg e, cloudRow_get q ln hi, cloudRow_get q ln hi]
      by_cases h2 : i < j
      · rw [if_pos h2, if_pos (by omega)]
      · rw [if_neg h2, if_neg (by omega)]
  · have hl : ∀ m, (cloudRow q ln n m)[i]? = none := fun m => List.getElem?_eq_none (by simp [cloudRow]; omega)
    rw [if_neg (by omega), hl, hl]
/-- All turned. -/
def lensQ (q : Int → Int) (ln : Nat → Nat) (n : Nat) : List Int := (List.range n).map fun i => q ((ln i : Nat) : Int)
theorem cloudRow_end (q : Int → Int) (ln : Nat → Nat) (n : Nat) : cloudRow q ln n n = (lensQ q ln n).map (Value.int .i64) := by
  unfold cloudRow lensQ
  rw [List.map_map]
  apply List.map_congr_left
  intro i hi
  rw [if_pos (List.mem_range.1 hi)]
  rfl
theorem lensQ_length (q : Int → Int) (ln : Nat → Nat) (n : Nat) : (lensQ q ln n).length = n := by simp [lensQ]
theorem lensQ_succ (q : Int → Int) (ln : Nat → Nat) (n : Nat) : lensQ q ln (n + 1) = lensQ q ln n ++ [q ((ln n : Nat) : Int)] := by simp [lensQ, List.range_succ]
end Go.Proofs.Ytkkimcefjelnbaa
