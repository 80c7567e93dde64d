/- DERIVED. What ReadDay returns: a day, or an error. No condition. -/
import Derived.Test.YthmggjgfbhicgaaGreatDoorDigits
import Derived.Test.YthmggjgfbhicgaaGreatDoorDayConf
import Derived.Lib.AtoiAll
import Derived.StillTailTactics
import Derived.BigQuiet
import Derived.Deep.QuietTactic
namespace Go.Proofs.YthmggjgfbhicgaaGreatDoor
open Go.RowKit
def p1 (s : ByteArray) : ByteArray := s.extract 0 4
def p2 (s : ByteArray) : ByteArray := s.extract 5 7
def p3 (s : ByteArray) : ByteArray := s.extract 8 10
/-- The form of a day. -/
def formB (s : ByteArray) : Bool := decide (s.size = 10) && (s.data.toList[4]? == some 45) && (s.data.toList[7]? == some 45) && allD (p1 s ++ p2 s ++ p3 s).data.toList
theorem at_idx {s : ByteArray} {i : Nat} (h : i < s.size) : s.data.toList[i]? = some s[i] := by
  have h' : i < s.data.toList.length := by simpa using h
  rw [List.getElem?_eq_getElem h']
  rfl
/-- The day of a date, or the error; so many days, and so many. -/
def DayP (y m k a b : Int) : Prop := (okDay y m k ∧ a = Cal.rd y m k + 11323 ∧ b = 0) ∨ (¬ okDay y m k ∧ a = 0 ∧ b = 2)
def ReadP (s : ByteArray) (a b : Int) : Prop :=
  (formB s = false ∧ a = 0 ∧ b = 8) ∨ (formB s = true ∧ ∃ y m k : Int, Lib.atoiAll (p1 s).data.toList = .ok y ∧ Lib.atoiAll (p2 s).data.toList = .ok m ∧ Lib.atoiAll (p3 s).data.toList = .ok k ∧ DayP y m k a b)
theorem dayP_fn {y m k a b a' b' : Int} (h : DayP y m k a b) (h' : DayP y m k a' b') : a = a' ∧ b = b' := by
  rcases h with ⟨h1, rfl, rfl⟩ | ⟨h1, rfl, rfl⟩ <;> rcases h' with ⟨h2, rfl, rfl⟩ | ⟨h2, rfl, rfl⟩ <;> first | exact ⟨rfl, rfl⟩ | exact absurd h1 h2 | exact absurd h2 h1
theorem readP_fn {s : ByteArray} {a b a' b' : Int} (h : ReadP s a b) (h' : ReadP s a' b') : a = a' ∧ b = b' := by
  rcases h with ⟨h1, rfl, rfl⟩ | ⟨h1, y, m, k, e1, e2, e3, hd⟩ <;> rcases h' with ⟨h2, rfl, rfl⟩ | ⟨h2, y', m', k', e1', e2', e3', hd'⟩
  · exact ⟨rfl, rfl⟩
  · rw [h1] at h2; cases h2
  · rw [h1] at h2; cases h2
  · rw [e1] at e1'; rw [e2] at e2'; rw [e3] at e3'
    cases e1'; cases e2'; cases e3'
    exact dayP_fn hd hd'

theorem digits_parse : ∀ (l : List UInt8) (acc : Nat), l.any nd = false → (acc + 1) * 10 ^ l.length ≤ 1000000000000 → ∃ u, Lib.parseUint10 acc l = .ok u ∧ u < (acc + 1) * 10 ^ l.length
  | [], acc, _, _ => ⟨acc, rfl, by simp⟩
  | c :: r, acc, h, ha => by
    simp only [List.any_cons, Bool.or_eq_false_iff] at h
    obtain ⟨h1, h2⟩ := h
    have h3 : 48 ≤ c.toNat ∧ c.toNat ≤ 57 := by unfold nd at h1; simp at h1; omega
    have hp : 0 < 10 ^ r.length := Nat.pow_pos (by omega)
    have e : (acc + 1) * 10 ^ (c :: r).length = ((acc + 1) * 10) * 10 ^ r.length := by rw [List.length_cons, Nat.pow_succ, Nat.mul_comm (10 ^ r.length) 10, ← Nat.mul_assoc]
    rw [e] at ha ⊢
    have hb : (acc + 1) * 10 ≤ 1000000000000 := Nat.le_trans (Nat.le_mul_of_pos_right _ hp) ha
    have hm : (acc * 10 + (c.toNat - 48) + 1) * 10 ^ r.length ≤ (acc + 1) * 10 * 10 ^ r.length := Nat.mul_le_mul_right _ (by omega)
    obtain ⟨u, e1, hu⟩ := digits_parse r (acc * 10 + (c.toNat - 48)) h2 (Nat.le_trans hm ha)
    refine ⟨u, ?_, Nat.lt_of_lt_of_le hu hm⟩
    simp only [Lib.parseUint10, if_pos h3]
    rw [if_neg (by omega), if_neg (by omega)]
    exact e1
theorem digits_atoi (l : List UInt8) (h0 : 0 < l.length) (h : l.any nd = false) (h4 : l.length ≤ 4) : ∃ v : Nat, Lib.atoiAll l = .ok (v : Int) ∧ v ≤ 9999 := by
  have hp : 10 ^ l.length ≤ 10 ^ 4 := Nat.pow_le_pow_right (by omega) h4
  obtain ⟨u, e, hu⟩ := digits_parse l 0 h (by simp at hp ⊢; omega)
  have hu' : u < 10000 := by simp at hp hu; omega
  refine ⟨u, ?_, by omega⟩
  match l, h0, h, e with
  | c :: r, _, h, e =>
    simp only [List.any_cons, Bool.or_eq_false_iff] at h
    have h3 : 48 ≤ c.toNat ∧ c.toNat ≤ 57 := by have h1 := h.1; unfold nd at h1; simp at h1; omega
    have n1 : ¬ c.toNat = 43 := by omega
    have n2 : ¬ c.toNat = 45 := by omega
    have e' : Lib.parseMag (c :: r) = .ok u := by unfold Lib.parseMag; rw [if_neg (List.cons_ne_nil c r)]; exact e
    unfold Lib.atoiAll
    simp only [n1, n2, or_self, if_false, e', not_false_eq_true, true_and, false_and]
    rw [if_neg (by omega)]
theorem any_app3 {a b c : ByteArray} (h : allD (a ++ b ++ c).data.toList = true) : a.data.toList.any nd = false ∧ b.data.toList.any nd = false ∧ c.data.toList.any nd = false := by
  unfold allD at h
  simp only [Bool.not_eq_true'] at h
  simp only [ByteArray.data_append, Array.toList_append, List.any_append, Bool.or_eq_false_iff] at h
  exact ⟨h.1.1, h.1.2, h.2⟩
/-- The three numbers of a day of the right form. -/
theorem form_nums {s : ByteArray} (h : formB s = true) : ∃ y m k : Nat, Lib.atoiAll (p1 s).data.toList = .ok (y : Int) ∧ Lib.atoiAll (p2 s).data.toList = .ok (m : Int) ∧ Lib.atoiAll (p3 s).data.toList = .ok (k : Int) ∧ y ≤ 9999 ∧ m ≤ 9999 ∧ k ≤ 9999 := by
  unfold formB at h
  simp only [Bool.and_eq_true, decide_eq_true_eq] at h
  obtain ⟨⟨⟨hs, _⟩, _⟩, hd⟩ := h
  obtain ⟨d1, d2, d3⟩ := any_app3 hd
  have l1 : (p1 s).data.toList.length = 4 := by simp [p1]; omega
  have l2 : (p2 s).data.toList.length = 2 := by simp [p2]; omega
  have l3 : (p3 s).data.toList.length = 2 := by simp [p3]; omega
  obtain ⟨y, e1, b1⟩ := digits_atoi _ (by omega) d1 (by omega)
  obtain ⟨m, e2, b2⟩ := digits_atoi _ (by omega) d2 (by omega)
  obtain ⟨k, e3, b3⟩ := digits_atoi _ (by omega) d3 (by omega)
  exact ⟨y, m, k, e1, e2, e3, b1, b2, b3⟩
end Go.Proofs.YthmggjgfbhicgaaGreatDoor
