/- DERIVED. Plain facts for MarkEscapes: what is written for a byte, what is read at the head of a string. No condition. -/
import Derived.Lib.Strings
namespace Go.Proofs.Ytfgekmfkaepgjaa.EscPlain
open Go
def amp : List UInt8 := [38, 97, 109, 112, 59]
def lt : List UInt8 := [38, 108, 116, 59]
def gt : List UInt8 := [38, 103, 116, 59]
def quot : List UInt8 := [38, 113, 117, 111, 116, 59]
def apos : List UInt8 := [38, 35, 51, 57, 59]
theorem hp_le {s p : List UInt8} (h : Lib.hasPrefix s p = true) : p.length ≤ s.length := by
  unfold Lib.hasPrefix at h
  exact (List.isPrefixOf_iff_prefix.1 h).length_le
/-- What Escape writes for one byte. -/
def escB (c : UInt8) : List UInt8 := if c = 38 then amp else if c = 60 then lt else if c = 62 then gt else if c = 34 then quot else [c]
def esc (l : List UInt8) : List UInt8 := l.flatMap escB
theorem escB_len (c : UInt8) : (escB c).length ≤ 6 := by
  unfold escB; repeat' split
  all_goals (simp [amp, lt, gt, quot])
theorem esc_nil : esc [] = [] := rfl
theorem esc_snoc (l : List UInt8) (c : UInt8) : esc (l ++ [c]) = esc l ++ escB c := by simp [esc]
theorem esc_len (l : List UInt8) : (esc l).length ≤ 6 * l.length := by
  induction l with
  | nil => simp [esc]
  | cons a r ih =>
    have := escB_len a
    have e : esc (a :: r) = escB a ++ esc r := by simp [esc]
    rw [e, List.length_append, List.length_cons]
    omega
/-- What Unescape reads at the head of what is left: the byte, and how many it takes. -/
def ustep (l : List UInt8) : UInt8 × Nat :=
  if Lib.hasPrefix l amp = true then (38, 5) else if Lib.hasPrefix l lt = true then (60, 4) else if Lib.hasPrefix l gt = true then (62, 4)
  else if Lib.hasPrefix l quot = true then (34, 6) else if Lib.hasPrefix l apos = true then (39, 5) else (l.headD 0, 1)
theorem ustep_pos (l : List UInt8) : 1 ≤ (ustep l).2 := by
  unfold ustep; repeat' split
  all_goals simp
theorem ustep_le (l : List UInt8) (h : l ≠ []) : (ustep l).2 ≤ l.length := by
  have h1 : 1 ≤ l.length := by cases l with | nil => exact absurd rfl h | cons a r => simp
  unfold ustep; repeat' split
  · exact hp_le (p := amp) ‹_›
  · exact hp_le (p := lt) ‹_›
  · exact hp_le (p := gt) ‹_›
  · exact hp_le (p := quot) ‹_›
  · exact hp_le (p := apos) ‹_›
  · exact h1
def unesc : Nat → List UInt8 → List UInt8
  | 0, _ => []
  | f + 1, l => if l = [] then [] else (ustep l).1 :: unesc f (l.drop (ustep l).2)
theorem unesc_nil (f : Nat) : unesc f [] = [] := by cases f <;> simp [unesc]
theorem unesc_cons (f : Nat) (l : List UInt8) (h : l ≠ []) : unesc (f + 1) l = (ustep l).1 :: unesc f (l.drop (ustep l).2) := by simp [unesc, h]
theorem excl {l p q : List UInt8} (hp : Lib.hasPrefix l p = true) (hq : Lib.hasPrefix l q = true) (h : (p.isPrefixOf q || q.isPrefixOf p) = false) : False := by
  unfold Lib.hasPrefix at hp hq
  rw [List.isPrefixOf_iff_prefix] at hp hq
  rcases List.prefix_or_prefix_of_prefix hp hq with h1 | h1
  · rw [List.isPrefixOf_iff_prefix.2 h1] at h; simp at h
  · rw [List.isPrefixOf_iff_prefix.2 h1] at h; simp at h
/-- The reference's way: the last of the five that fits. -/
def rstep : Nat → List UInt8 → UInt8 × Nat
  | 0, l => (l.headD 0, 1)
  | 1, l => if Lib.hasPrefix l amp = true then (38, 5) else rstep 0 l
  | 2, l => if Lib.hasPrefix l lt = true then (60, 4) else rstep 1 l
  | 3, l => if Lib.hasPrefix l gt = true then (62, 4) else rstep 2 l
  | 4, l => if Lib.hasPrefix l quot = true then (34, 6) else rstep 3 l
  | _ + 5, l => if Lib.hasPrefix l apos = true then (39, 5) else rstep 4 l
theorem rstep_eq (l : List UInt8) : rstep 5 l = ustep l := by
  unfold ustep
  simp only [rstep]
  by_cases h1 : Lib.hasPrefix l amp = true
  · rw [if_pos h1, if_neg (fun h => excl h1 h (by decide)), if_neg (fun h => excl h1 h (by decide)), if_neg (fun h => excl h1 h (by decide)), if_neg (fun h => excl h1 h (by decide)), if_pos h1]
  · rw [if_neg h1, if_neg h1]
    by_cases h2 : Lib.hasPrefix l lt = true
    · rw [if_pos h2, if_neg (fun h => excl h2 h (by decide)), if_neg (fun h => excl h2 h (by decide)), if_neg (fun h => excl h2 h (by decide)), if_pos h2]
    · rw [if_neg h2, if_neg h2]
      by_cases h3 : Lib.hasPrefix l gt = true
      · rw [if_pos h3, if_neg (fun h => excl h3 h (by decide)), if_neg (fun h => excl h3 h (by decide)), if_pos h3]
      · rw [if_neg h3, if_neg h3]
        by_cases h4 : Lib.hasPrefix l quot = true
        · rw [if_pos h4, if_neg (fun h => excl h4 h (by decide)), if_pos h4]
        · rw [if_neg h4, if_neg h4]
end Go.Proofs.Ytfgekmfkaepgjaa.EscPlain
