/- DERIVED. Plain facts on items of lists: their kinds as settings have them, and the error of one value. No condition. -/
import Derived.Test.YteckcanghnligaaDoorConfPlain
namespace Go.Proofs.YteckcanghnligaaDoor
/-- The kind, where markup and facts are strings. -/
def sk (k : Int) : Int := if k = 7 ∨ k = 8 then 3 else k
namespace Vals
def settle : Vals → Vals
  | .nil => .nil
  | .cons k b i t items keys rest => .cons (sk k) b i t items.settle keys rest.settle
theorem settle_len : ∀ d : Vals, d.settle.len = d.len
  | .nil => rfl
  | .cons _ _ _ _ _ _ r => by simp only [settle, len]; rw [settle_len r]
theorem settle_nodes : ∀ d : Vals, d.settle.nodes = d.nodes
  | .nil => rfl
  | .cons _ _ _ _ c _ r => by simp only [settle, nodes]; rw [settle_nodes c, settle_nodes r]
theorem settle_letters : ∀ d : Vals, d.settle.letters = d.letters
  | .nil => rfl
  | .cons _ _ _ _ c _ r => by simp only [settle, letters]; rw [settle_letters c, settle_letters r]
theorem settle_levels : ∀ d : Vals, d.settle.levels = d.levels
  | .nil => rfl
  | .cons _ _ _ _ c _ r => by simp only [settle, levels]; rw [settle_levels c, settle_levels r]
theorem settle_drop : ∀ (j : Nat) (d : Vals), (d.drop j).settle = d.settle.drop j
  | 0, d => by rw [drop_zero, drop_zero]
  | j + 1, .nil => rfl
  | j + 1, .cons _ _ _ _ _ _ r => settle_drop j r
end Vals
/-- Keys and items are as many as the kind uses. -/
def fitB (k : Int) (n m : Nat) : Bool := if k = 5 then decide (m = 0) else if k = 6 then decide (m = n) else decide (m = 0) && decide (n = 0)
theorem unB_fit {k : Int} {bo : Bool} {i : Int} {te : Bool} {n m : Nat} (h : fitB k n m = true) : unB k bo i te n m = unB k bo i te 0 0 := by
  unfold fitB at h
  unfold unB
  by_cases h5 : k = 5
  · subst h5
    simp at h
    subst h
    simp
  · rw [if_neg h5] at h
    by_cases h6 : k = 6
    · subst h6
      simp at h
      subst h
      simp
    · rw [if_neg h6] at h
      simp at h
      obtain ⟨rfl, rfl⟩ := h
      simp
theorem unB_unfit {k : Int} {bo : Bool} {i : Int} {te : Bool} {n m : Nat} (h : fitB k n m = false) : unB k bo i te n m = true := by
  unfold fitB at h
  unfold unB
  by_cases h5 : k = 5
  · subst h5
    simp at h
    simp; omega
  · rw [if_neg h5] at h
    by_cases h6 : k = 6
    · subst h6
      simp at h
      simp; omega
    · rw [if_neg h6] at h
      simp at h
      by_cases hm : m = 0
      · have := h hm
        simp; omega
      · simp; omega
theorem unB_one {k : Int} {bo : Bool} {i : Int} {te : Bool} : unB k bo i te 0 1 = true := by
  unfold unB
  by_cases h6 : k = 6
  · subst h6; simp
  · simp [h6]
/-- The keys with which a value without its items is checked. -/
def fitKeys (f : Bool) : List ByteArray := if f = true then [] else [⟨#[]⟩]
/-- The error of a value: that of its fields without keys and items, then that of its keys. -/
theorem valErr_parts (le : ByteArray → ByteArray → Bool) (k : Int) (bo : Bool) (i : Int) (t : ByteArray) (n : Nat) (keys : List ByteArray) :
    valErr le k bo i t n keys = if valErr le k bo i t 0 (fitKeys (fitB k n keys.length)) ≠ 0 then valErr le k bo i t 0 (fitKeys (fitB k n keys.length)) else keysErr le none keys := by
  unfold valErr
  by_cases hk : k < 0 ∨ 6 < k
  · simp only [if_pos hk]; simp
  · simp only [if_neg hk]
    cases hf : fitB k n keys.length with
    | true =>
      rw [unB_fit hf]
      simp only [fitKeys, if_true, List.length_nil]
      by_cases hu : unB k bo i t.toList.isEmpty 0 0 = true
      · simp only [if_pos hu]; simp
      · simp only [if_neg hu]
        by_cases h4 : k = 4 ∧ (i < 0 ∨ 84005 < i)
        · simp only [if_pos h4]; simp
        · simp only [if_neg h4]
          by_cases ht : textErr t ≠ 0
          · simp only [if_pos ht]
          · simp only [if_neg ht]; rfl
    | false =>
      rw [unB_unfit hf]
      have hl : (fitKeys false).length = 1 := rfl
      rw [hl, unB_one]
      simp
theorem nzSelf (x : Int) : (if x ≠ 0 then x else 0) = x := by split <;> omega
/-- The error of a value without items is that of its fields. -/
theorem confErr_nil (le : ByteArray → ByteArray → Bool) (k : Int) (bo : Bool) (i : Int) (t : ByteArray) (keys : List ByteArray) : confErr le k bo i t .nil keys = valErr le k bo i t 0 keys := by
  unfold confErr oneErr
  rw [if_neg (by simp [Vals.nodes]), if_neg (by simp [Vals.levels])]
  exact nzSelf _
/-- A table with one key and a nil item is right if the key is one. -/
theorem confErr_key (le : ByteArray → ByteArray → Bool) (s : ByteArray) : confErr le 6 false 0 ⟨#[]⟩ (.cons 0 false 0 ⟨#[]⟩ .nil [] .nil) [s] = if keyB s = true then 0 else 12 := by
  have hte : textErr ⟨#[]⟩ = 0 := by decide
  have he : (⟨#[]⟩ : ByteArray).toList.isEmpty = true := isEmpty_nil rfl
  unfold confErr oneErr
  rw [if_neg (by simp [Vals.nodes]), if_neg (by simp [Vals.levels])]
  have h1 : valErr le 6 false 0 ⟨#[]⟩ (Vals.cons 0 false 0 ⟨#[]⟩ .nil [] .nil).len [s] = if keyB s = true then 0 else 12 := by
    unfold valErr
    rw [if_neg (by omega), he]
    rw [if_neg (by simp [unB, Vals.len]), if_neg (by omega), hte]
    unfold keysErr
    cases keyB s <;> rfl
  have h3 : valErr le 0 false 0 ⟨#[]⟩ 0 [] = 0 := by
    unfold valErr
    rw [if_neg (by omega), he]
    rw [if_neg (by simp [unB]), if_neg (by omega), hte]
    rfl
  have h2 : (Vals.cons 0 false 0 ⟨#[]⟩ .nil [] .nil).err le = 0 := by
    show (if valErr le 0 false 0 ⟨#[]⟩ 0 [] ≠ 0 then valErr le 0 false 0 ⟨#[]⟩ 0 [] else if (0 : Int) ≠ 0 then 0 else 0) = 0
    rw [h3]; rfl
  rw [h1, h2]
  cases keyB s <;> simp
end Go.Proofs.YteckcanghnligaaDoor
