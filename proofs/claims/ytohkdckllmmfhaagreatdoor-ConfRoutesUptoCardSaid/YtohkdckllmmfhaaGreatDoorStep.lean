/- DERIVED. What find and the reference's Step return: where a part leads. Condition: the part is one; the library's variable ErrSyntax holds an error. -/
import Derived.Test.YtohkdckllmmfhaaGreatDoorHas
import Derived.Test.YtohkdckllmmfhaaGreatDoorRouteR
import Derived.Shelf.Strconv.AtoiAll
import Derived.Lib.AtoiAll
namespace Go.Proofs.YtohkdckllmmfhaaGreatDoor
open Go.RowKit
set_option linter.unusedVariables false
/-- The library's variable ErrSyntax holds an error. -/
def ErrV (w : World) : Prop := 1 < w.heap.size ∧ ∃ ev, w.cell? ⟨1, 0, none⟩ = some ev ∧ (ev = .nilIface ∨ ∃ te pe, ev = .iface te pe)
theorem ErrV.below {w w' : World} (h : ErrV w) (hb : Below w.heap.size w w') : ErrV w' :=
  ⟨Nat.lt_of_lt_of_le h.1 hb.size, let ⟨ev, hc, he⟩ := h.2; ⟨ev, (hb.cell (p := ⟨1, 0, none⟩) h.1).trans hc, he⟩⟩
def numI (s : ByteArray) : Int := match Lib.atoiAll s.data.toList with
  | .ok n => n
  | _ => 0
theorem uint_digits : ∀ (l : List UInt8) (acc B : Nat), l.any nd = false → acc * 10 ^ l.length + 10 ^ l.length ≤ B → B ≤ 10000000 → ∃ u, Lib.parseUint10 acc l = .ok u ∧ u < B
  | [], acc, B, _, hB, _ => ⟨acc, rfl, by simp at hB; omega⟩
  | c :: r, acc, B, h, hB, hM => by
    simp only [List.any_cons, Bool.or_eq_false_iff] at h
    have hc : 48 ≤ c.toNat ∧ c.toNat ≤ 57 := by
      have := h.1
      unfold nd at this
      simp at this
      omega
    have hp : 1 ≤ 10 ^ r.length := Nat.one_le_pow _ _ (by decide)
    simp only [List.length_cons, Nat.pow_succ] at hB
    have h1 : acc * 1 ≤ acc * (10 ^ r.length * 10) := Nat.mul_le_mul_left _ (by omega)
    have h2 : (acc * 10 + (c.toNat - 48)) * 10 ^ r.length ≤ (acc * 10 + 9) * 10 ^ r.length := Nat.mul_le_mul_right _ (by omega)
    have h3 : (acc * 10 + 9) * 10 ^ r.length = acc * (10 ^ r.length * 10) + 9 * 10 ^ r.length := by rw [Nat.add_mul, Nat.mul_assoc, Nat.mul_comm 10]
    unfold Lib.parseUint10
    rw [if_pos hc, if_neg (by omega), if_neg (by omega)]
    exact uint_digits r _ B h.2 (by omega) hM
theorem atoi_idx {s : ByteArray} (h : idxB s = true) : Lib.atoiAll s.data.toList = .ok (numI s) ∧ 0 ≤ numI s := by
  unfold idxB at h
  simp only [Bool.and_eq_true, decide_eq_true_eq] at h
  obtain ⟨h4, hn⟩ := h
  have h0 : ¬ s.size = 0 := fun h0 => by unfold numB at hn; rw [if_pos h0] at hn; cases hn
  rw [numB_alt s (by omega)] at hn
  simp only [Bool.and_eq_true] at hn
  have hd : s.data.toList.any nd = false := by
    have := hn.1
    unfold allD at this
    simpa using this
  have hl : s.data.toList.length = s.size := by rw [Array.length_toList]; rfl
  have key : ∃ n : Int, Lib.atoiAll s.data.toList = .ok n ∧ 0 ≤ n := by
    generalize s.data.toList = l at hd hl
    cases l with
    | nil => simp at hl; omega
    | cons c r =>
      have hc : 48 ≤ c.toNat ∧ c.toNat ≤ 57 := by
        simp only [List.any_cons, Bool.or_eq_false_iff] at hd
        have := hd.1
        unfold nd at this
        simp at this
        omega
      have hlen : (c :: r).length ≤ 4 := by omega
      have hpow : 10 ^ (c :: r).length ≤ 10 ^ 4 := Nat.pow_le_pow_right (by decide) hlen
      obtain ⟨u, hu, hub⟩ := uint_digits (c :: r) 0 10000 hd (by simpa using hpow) (by decide)
      refine ⟨u, ?_, by omega⟩
      unfold Lib.atoiAll
      simp only [show ¬ (c.toNat = 43 ∨ c.toNat = 45) by omega, if_false]
      have hm : Lib.parseMag (c :: r) = .ok u := by unfold Lib.parseMag; rw [if_neg (by simp), hu]
      rw [hm]
      simp only [show ¬ c.toNat = 45 by omega, not_false_eq_true, true_and, false_and, if_false]
      rw [if_neg (by omega)]
  obtain ⟨n, hn1, hn2⟩ := key
  have e : numI s = n := by unfold numI; rw [hn1]
  rw [e]
  exact ⟨hn1, hn2⟩
theorem key_first {s : ByteArray} (h : keyB s = true) : ∃ (c : UInt8) (r : List UInt8), s.data.toList = c :: r ∧ 97 ≤ c.toNat ∧ c.toNat ≤ 122 := by
  unfold keyB at h
  cases hl : s.data.toList with
  | nil => rw [hl] at h; cases h
  | cons c r =>
    rw [hl] at h
    simp only [Bool.and_eq_true] at h
    have := h.1.2
    unfold smallB at this
    simp at this
    exact ⟨c, r, rfl, this⟩
theorem atoi_key {s : ByteArray} (h : keyB s = true) : (∀ n, Lib.atoiAll s.data.toList ≠ .ok n) ∧ Lib.atoiAll s.data.toList ≠ .range := by
  obtain ⟨c, r, hl, h1, h2⟩ := key_first h
  rw [hl]
  have hm : ∀ z, Lib.parseMag (c :: r) = z → (∀ u, z ≠ .ok u) ∧ z ≠ .range := by
    rintro z rfl
    unfold Lib.parseMag
    rw [if_neg (by simp)]
    unfold Lib.parseUint10
    rw [if_neg (by omega)]
    exact ⟨(fun u hu => by cases hu), (fun hu => by cases hu)⟩
  obtain ⟨g1, g2⟩ := hm _ rfl
  unfold Lib.atoiAll
  simp only [show ¬ (c.toNat = 43 ∨ c.toNat = 45) by omega, if_false]
  cases hz : Lib.parseMag (c :: r) with
  | ok u => exact absurd hz (g1 u)
  | range => exact absurd hz g2
  | _ => exact ⟨(fun n hn => by cases hn), (fun hn => by cases hn)⟩
theorem not_both {s : ByteArray} (h : keyB s = true) : idxB s = false := by
  cases hi : idxB s with
  | false => rfl
  | true => exact absurd (atoi_idx hi).1 ((atoi_key h).1 _)
/-- Where a part leads, or -1. -/
def stepI (k : Int) (items : Vals) (keys : List ByteArray) (p : ByteArray) : Int :=
  if k = 6 then idxI keys p else if k = 5 ∧ idxB p = true ∧ numI p < items.len then numI p else -1
/-- What Atoi returns for a part: its number; or an error. -/
theorem atoi_part (s : ByteArray) (w : World) (hp : partB s = true) (hs : s.size ≤ 400) (hv : ErrV w) :
    Calls Tryz.prog 103 #[.string s] w fun e w' => (∃ (x : Int) (er : Value), e = .returned (.tuple #[.int .i64 x, er]) ∧ (idxB s = true → x = numI s ∧ er = .nilIface) ∧ (idxB s = false → x = 0 ∧ ∃ t N, er = .iface t (.pointer (some ⟨N, 0, none⟩)))) ∧ Below w.heap.size w w' := by
  cases hi : idxB s with
  | true =>
    refine (Tryz.strconv_Atoi_ok s (by omega) (numI s) (atoi_idx hi).1 w).mono ?_
    rintro e w' ⟨rfl, hb⟩
    refine ⟨⟨_, _, rfl, fun _ => ⟨rfl, rfl⟩, (fun h => by cases h)⟩, ?_⟩
    rcases hb with rfl | ⟨t, rfl⟩
    · exact Below.refl _ _
    · exact Lib.bytesWorld_below _ _ _
  | false =>
    have hk : keyB s = true := by
      unfold partB at hp
      rw [hi] at hp
      simpa using hp
    obtain ⟨hg, ev, hc, he⟩ := hv
    cases hA : Lib.atoiAll s.data.toList with
    | ok n => exact absurd hA ((atoi_key hk).1 n)
    | range => exact absurd hA (atoi_key hk).2
    | _ =>
      refine (Any.strconv_Atoi_syntax Tryz.laysC172 s (by omega) hA ev w hc he).mono ?_
      rintro e w' ⟨N, rfl, -, -, hb⟩
      exact ⟨⟨_, _, rfl, (fun h => by cases h), fun _ => ⟨rfl, _, N, rfl⟩⟩, hb⟩
end Go.Proofs.YtohkdckllmmfhaaGreatDoor
