/- DERIVED. The reference's Encode64Of. No condition. -/
import Derived.Test.YtainjogdgoogfaaCodesP
namespace Go.Proofs.Ytainjogdgoogfaa
open Go.RowKit
set_option linter.unusedVariables false
set_option linter.unusedSimpArgs false
def nbs (l : List Nat) : List Value := l.map fun (n : Nat) => Value.int .u8 (n : Int)
theorem nbs_app (a b : List Nat) : nbs (a ++ b) = nbs a ++ nbs b := by unfold nbs; rw [List.map_append]
theorem bitU (X : Nat) (hX : X < 256) : bits .and .u8 (X : Int) 1 = ((X % 2 : Nat) : Int) := by
  have h := bits_mask .u8 8 (by decide) wraps_u8 1 (by decide) (X : Int) (Int.natCast_nonneg _) (by exact_mod_cast hX)
  have e : ((2 : Int) ^ 1 - 1) = 1 := by decide
  rw [e] at h
  rw [h]
  simp
theorem bitU_div (c d b : Nat) (hc : c < 256) (hb : c / d % 2 = b) : bits .and .u8 ((c : Int) / (d : Int)) 1 = (b : Int) := by
  have e : (c : Int) / (d : Int) = ((c / d : Nat) : Int) := by simp
  have hl : c / d < 256 := Nat.lt_of_le_of_lt (Nat.div_le_self _ _) hc
  rw [e, bitU _ hl, hb]
theorem bitsK8 (c : Nat) : bitsK 8 c = [c / 128 % 2, c / 64 % 2, c / 32 % 2, c / 16 % 2, c / 8 % 2, c / 4 % 2, c / 2 % 2, c % 2] := by
  simp [bitsK, Nat.div_div_eq_div_mul]
/-- The bits, filled up. -/
def padL (s : List UInt8) : List Nat := bitsOf s ++ List.replicate ((6 - 8 * s.length % 6) % 6) 0
theorem padL_len (s : List UInt8) : (padL s).length = 8 * s.length + (6 - 8 * s.length % 6) % 6 := by
  unfold padL
  rw [List.length_append, bitsOf_len, List.length_replicate]
theorem padL_bits (s : List UInt8) : Bits (padL s) := (bitsOf_bits s).app fun x hx => by rw [(List.mem_replicate.1 hx).2]; omega
theorem encO_pad (s : List UInt8) : (chs 6 (padL s)).map dig = encO s := by
  have h := chs_pad (n := 6) (bitsOf_bits s) (by decide)
  rw [bitsOf_len] at h
  unfold padL encO encL
  rw [h, List.map_append]
  congr 1
  by_cases h0 : 8 * s.length % 6 = 0
  · rw [if_pos h0, if_pos h0]; rfl
  · rw [if_neg h0, if_neg h0]; rfl
/-- The digits of the pieces before some one. -/
def outQ (n : Nat) (P : List Nat) (q : Nat) : List Nat := (List.range q).map (chv n P)
theorem outQ_succ (n : Nat) (P : List Nat) (q : Nat) : outQ n P (q + 1) = outQ n P q ++ [chv n P q] := by
  unfold outQ
  rw [List.range_succ, List.map_append]
  rfl
theorem outQ_len (n : Nat) (P : List Nat) (q : Nat) : (outQ n P q).length = q := by unfold outQ; rw [List.length_map, List.length_range]
theorem outQ_all (n : Nat) (P : List Nat) (q : Nat) (h : P.length / n = q) : outQ n P q = chs n P := by unfold outQ chs; rw [h]
theorem take_step {L : List Nat} {t b : Nat} (h : L[t]? = some b) : valB (L.take (t + 1)) = 2 * valB (L.take t) + b := by
  rw [List.take_add_one, h]
  show valB (L.take t ++ [b]) = _
  rw [valB_app, valB_one, List.length_singleton, Nat.pow_one]
  omega
theorem chv_lt {n : Nat} {P : List Nat} (hb : Bits P) (q : Nat) : chv n P q < 2 ^ n := by
  unfold chv
  have h := valB_lt ((hb.drop (n * q)).take n)
  exact Nat.lt_of_lt_of_le h (Nat.pow_le_pow_right (by decide) (by rw [List.length_take]; omega))
theorem nbs_at {w : World} {base n : Nat} {A : Option Addr} {c : Nat} {L : List Nat} (h : w.ownsRow base 5 1 (.slice A n c) n (nbs L)) (hl : L.length = n) (h0 : 0 < n) : ∃ g, A = some ⟨g, 0, none⟩ ∧ base ≤ g ∧ g < w.heap.size ∧ n ≤ c ∧ ∀ (j b : Nat), L[j]? = some b → w.cell? ⟨g, j, none⟩ = some (.int .u8 (b : Int)) := by
  obtain ⟨g, cap, hv, hg1, hg2⟩ := h.form h0
  cases hv
  refine ⟨g, rfl, hg1, hg2, ?_, fun j b hj => ?_⟩
  · rcases h.2 with ⟨hv, _⟩ | ⟨g', cap', cur, hv, _, _, _, hh, _⟩
    · cases hv
    · cases hv; first | exact hh | omega
  · rw [h.cellAt j (by have := (List.getElem?_eq_some_iff.1 hj).1; omega)]
    unfold nbs
    rw [List.getElem?_map, hj]
    rfl
end Go.Proofs.Ytainjogdgoogfaa
