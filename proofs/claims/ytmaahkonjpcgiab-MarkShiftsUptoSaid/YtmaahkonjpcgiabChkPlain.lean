/- DERIVED. Plain facts for the check of a document: bytes that cannot be there, which kind fits in which, the error of a node, of nodes, of a document. No condition. -/
import Derived.Test.YtmaahkonjpcgiabDoc
namespace Go.Proofs.Ytmaahkonjpcgiab
/-- A byte below 32 that is not one of those permitted. -/
def ctlB (al : List UInt8) (b : UInt8) : Bool := decide (b.toNat < 32) && !al.contains b
def ctl (al l : List UInt8) : Bool := l.any (ctlB al)
def al1 (tab feed : Bool) : List UInt8 := (if tab then [9] else []) ++ (if feed then [10] else [])
theorem any_hit {p : UInt8 → Bool} {s : ByteArray} {k : Nat} (h : k < s.size) (hp : p s[k] = true) : s.data.toList.any p = true := by
  refine List.any_eq_true.2 ⟨s[k], ?_, hp⟩
  have : s[k] = s.data.toList[k]'(by simpa using h) := rfl
  rw [this]
  exact List.getElem_mem _
theorem any_snoc {p : UInt8 → Bool} {s : ByteArray} {k : Nat} (h : k < s.size) (h0 : (s.data.toList.take k).any p = false) (hp : p s[k] = false) : (s.data.toList.take (k + 1)).any p = false := by
  have e : s.data.toList.take (k + 1) = s.data.toList.take k ++ [s[k]] := by rw [List.take_succ_eq_append_getElem (by simpa using h)]; rfl
  rw [e, List.any_append, h0]
  simp [hp]
theorem any_all {p : UInt8 → Bool} {s : ByteArray} {k : Nat} (h : k = s.size) (h0 : (s.data.toList.take k).any p = false) : s.data.toList.any p = false := by
  rw [h, List.take_of_length_le (by simp)] at h0
  exact h0

/-- Whether a kind can be among the Kids of another one (0: at the top). -/
def fitB (k p : Int) : Bool :=
  if p = 0 ∨ p = 4 ∨ p = 6 then decide (1 ≤ k ∧ k ≤ 8 ∧ k ≠ 6) else if p = 5 then decide (k = 6) else if p = 8 then decide (k = 9) else if p = 9 then decide (k = 10)
  else if p = 1 ∨ p = 2 ∨ p = 10 ∨ p = 14 ∨ p = 15 ∨ p = 17 then decide (11 ≤ k ∧ k ≤ 18) else false
def rngB (k lv : Int) : Bool := decide (k = 1 ∧ (lv < 1 ∨ 6 < lv) ∨ k = 5 ∧ (lv < -1 ∨ 9999 < lv))
def hasText (k : Int) : Bool := decide (k = 3 ∨ k = 11 ∨ k = 16 ∨ k = 18)
def hasDest (k : Int) : Bool := decide (k = 3 ∨ k = 17 ∨ k = 18)
def hasTitle (k : Int) : Bool := decide (k = 17 ∨ k = 18)
def hasKids (k : Int) : Bool := decide (k ≠ 3 ∧ k ≠ 7 ∧ k ≠ 11 ∧ k ≠ 12 ∧ k ≠ 13 ∧ k ≠ 16 ∧ k ≠ 18)
def unB (k lv : Int) (te de tie : Bool) (kl : Nat) : Bool :=
  (decide (k ≠ 1 ∧ k ≠ 5) && decide (lv ≠ 0)) || (!hasText k && !te) || (!hasDest k && !de) || (!hasTitle k && !tie) || (!hasKids k && decide (0 < kl))
def byB (k : Int) (t d ti : ByteArray) : Bool := ctl (al1 true (decide (k = 3))) t.data.toList || ctl (al1 (decide (k = 3)) false) d.data.toList || ctl (al1 true false) ti.data.toList
def nodeErr (k lv : Int) (t d ti : ByteArray) (kl : Nat) (p : Int) : Int :=
  if fitB k p = false then 10 else if rngB k lv = true then 2 else if unB k lv t.toList.isEmpty d.toList.isEmpty ti.toList.isEmpty kl = true then 1 else if byB k t d ti = true then 9 else 0
namespace Doc
def err : Doc → Int → Int
  | .nil, _ => 0
  | .cons k lv t d ti c r, p => if nodeErr k lv t d ti c.len p ≠ 0 then nodeErr k lv t d ti c.len p else if c.err k ≠ 0 then c.err k else r.err p
def deep : Doc → Int → Int → Bool
  | .nil, _, _ => false
  | .cons k _ _ _ _ c r, b, i =>
    (if 11 ≤ k ∧ k ≤ 18 then decide (12 < b) || decide (12 < i + 1) || c.deep b (i + 1) else decide (12 < b + 1) || decide (12 < i) || c.deep (b + 1) i) || r.deep b i
def docErr (d : Doc) : Int := if 4000 < d.nodes then 4 else if d.deep 0 0 = true then 13 else d.err 0
end Doc
theorem kinds {k : Int} (h : 1 ≤ k ∧ k ≤ 18) : k = 1 ∨ k = 2 ∨ k = 3 ∨ k = 4 ∨ k = 5 ∨ k = 6 ∨ k = 7 ∨ k = 8 ∨ k = 9 ∨ k = 10 ∨ k = 11 ∨ k = 12 ∨ k = 13 ∨ k = 14 ∨ k = 15 ∨ k = 16 ∨ k = 17 ∨ k = 18 := by omega
theorem fitB_range {k p : Int} (h : fitB k p = true) : 1 ≤ k ∧ k ≤ 18 := by
  unfold fitB at h
  repeat' split at h
  all_goals simp at h
  all_goals omega
end Go.Proofs.Ytmaahkonjpcgiab
