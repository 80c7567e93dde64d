/- DERIVED. The plain string of a document, and how many words a string has: plain facts. No condition. -/
import Derived.Test.YtmaahkonjpcgiaaChkPlain
import Derived.Test.YtmaahkonjpcgiaaElem
import Derived.Lib.Strings
set_option linter.unusedSimpArgs false
set_option linter.unusedVariables false
namespace Go.Proofs.Ytmaahkonjpcgiaa

def pre (k : Int) (first : Bool) : List UInt8 := if k = 12 ∨ k = 13 then [32] else if k = 10 ∧ first = false then [9] else []
def post (k : Int) : List UInt8 := if k = 1 ∨ k = 2 ∨ k = 3 ∨ k = 9 ∨ k = 7 then [10] else []
theorem pre_len (k : Int) (f : Bool) : (pre k f).length ≤ 1 := by unfold pre; split <;> (try split) <;> simp
theorem post_len (k : Int) : (post k).length ≤ 1 := by unfold post; split <;> simp
namespace Doc
def plain : Doc → Bool → List UInt8
  | .nil, _ => []
  | .cons k _ t _ _ c r, f => pre k f ++ (t.data.toList ++ (c.plain true ++ (post k ++ r.plain false)))
theorem plain_len : ∀ (a : Doc) (f : Bool), (a.plain f).length ≤ a.letters + 2 * a.nodes
  | .nil, _ => Nat.zero_le _
  | .cons k lv t d ti c r, f => by
    have h1 := plain_len c true
    have h2 := plain_len r false
    have h3 := pre_len k f
    have h4 := post_len k
    have h5 : t.data.toList.length = t.size := by simp
    simp only [plain, List.length_append, letters, nodes]
    omega
theorem letters_drop : ∀ (i : Nat) (d : Doc), (d.drop i).letters + 2 * (d.drop i).nodes ≤ d.letters + 2 * d.nodes
  | 0, d => by cases d <;> exact Nat.le_refl _
  | i + 1, .nil => Nat.le_refl _
  | i + 1, .cons _ _ t dd ti c r => by
    have := letters_drop i r
    show (r.drop i).letters + 2 * (r.drop i).nodes ≤ (t.size + dd.size + ti.size + c.letters + r.letters) + 2 * (c.nodes + r.nodes + 1)
    omega
theorem err_cons {k lv : Int} {t d ti : ByteArray} {c r : Doc} {p : Int} (h : (Doc.cons k lv t d ti c r).err p = 0) : nodeErr k lv t d ti c.len p = 0 ∧ c.err k = 0 ∧ r.err p = 0 := by
  unfold err at h
  by_cases h1 : nodeErr k lv t d ti c.len p = 0
  · by_cases h2 : c.err k = 0
    · simp [h1, h2] at h; exact ⟨h1, h2, h⟩
    · simp [h1, h2] at h
  · simp [h1] at h
theorem len_nil {c : Doc} (h : c.len = 0) : c = .nil := by
  cases c with
  | nil => rfl
  | cons => simp [len] at h
theorem drop_err : ∀ (i : Nat) (d : Doc) (p : Int), d.err p = 0 → (d.drop i).err p = 0
  | 0, d, p, h => by cases d <;> exact h
  | i + 1, .nil, p, h => h
  | i + 1, .cons _ _ _ _ _ _ r, p, h => drop_err i r p (err_cons h).2.2
end Doc
theorem bytes_nil {t : ByteArray} (h : t.toList.isEmpty = true) : t.data.toList = [] := by
  rw [Lib.toList_data, List.isEmpty_iff] at h
  exact h
/-- What a node without error has. -/
theorem node_ok {k lv p : Int} {t d ti : ByteArray} {n : Nat} (h : nodeErr k lv t d ti n p = 0) :
    (1 ≤ k ∧ k ≤ 18) ∧ (hasText k = false → t.data.toList = []) ∧ (hasKids k = false → n = 0) := by
  unfold nodeErr at h
  by_cases h1 : fitB k p = false
  · rw [if_pos h1] at h; simp at h
  · rw [if_neg h1] at h
    have hf : fitB k p = true := by simpa using h1
    by_cases h2 : rngB k lv = true
    · rw [if_pos h2] at h; simp at h
    · rw [if_neg h2] at h
      by_cases h3 : unB k lv t.toList.isEmpty d.toList.isEmpty ti.toList.isEmpty n = true
      · rw [if_pos h3] at h; simp at h
      · refine ⟨fitB_range hf, fun ht => ?_, fun hk => ?_⟩
        · unfold unB at h3
          cases he : t.toList.isEmpty with
          | true => exact bytes_nil he
          | false => exfalso; apply h3; rw [ht, he]; simp
        · unfold unB at h3
          cases n with
          | zero => rfl
          | succ n => exfalso; apply h3; rw [hk]; simp

def gapB (b : UInt8) : Bool := b == 32 || b == 9 || b == 10
/-- How many words begin in a string, where one is inside a word or not. -/
def words : List UInt8 → Bool → Nat
  | [], _ => 0
  | b :: r, inw => (if gapB b = false ∧ inw = false then 1 else 0) + words r (!gapB b)
theorem words_len : ∀ (l : List UInt8) (i : Bool), words l i ≤ l.length
  | [], _ => Nat.le_refl _
  | b :: r, i => by
    have := words_len r (!gapB b)
    unfold words
    simp only [List.length_cons]
    split <;> omega
theorem words_drop (s : ByteArray) (k : Nat) (h : k < s.size) (i : Bool) : words (s.data.toList.drop k) i = (if gapB s[k] = false ∧ i = false then 1 else 0) + words (s.data.toList.drop (k + 1)) (!gapB s[k]) := by
  have e := List.drop_eq_getElem_cons (l := s.data.toList) (i := k) (by simpa using h)
  rw [e]
  rfl
theorem gap_32 {c : UInt8} (h : (c.toNat : Int) = 32) : gapB c = true := by
  have : c = 32 := by apply UInt8.toNat.inj; show c.toNat = 32; omega
  simp [gapB, this]
theorem gap_9 {c : UInt8} (h : (c.toNat : Int) = 9) : gapB c = true := by
  have : c = 9 := by apply UInt8.toNat.inj; show c.toNat = 9; omega
  simp [gapB, this]
theorem gap_10 {c : UInt8} (h : (c.toNat : Int) = 10) : gapB c = true := by
  have : c = 10 := by apply UInt8.toNat.inj; show c.toNat = 10; omega
  simp [gapB, this]
theorem gap_no {c : UInt8} (h1 : (c.toNat : Int) ≠ 32) (h2 : (c.toNat : Int) ≠ 9) (h3 : (c.toNat : Int) ≠ 10) : gapB c = false := by
  have e1 : c ≠ 32 := by rintro rfl; exact h1 rfl
  have e2 : c ≠ 9 := by rintro rfl; exact h2 rfl
  have e3 : c ≠ 10 := by rintro rfl; exact h3 rfl
  simp [gapB, e1, e2, e3]
end Go.Proofs.Ytmaahkonjpcgiaa
