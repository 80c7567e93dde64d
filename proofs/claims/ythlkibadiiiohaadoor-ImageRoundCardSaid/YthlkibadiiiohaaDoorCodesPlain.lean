/- DERIVED. Bits and pieces of bits: plain mathematics of base 64. No condition. -/
import Derived.Lib.Hide
namespace Go.Proofs.YthlkibadiiiohaaDoor
set_option linter.unusedVariables false
/-- Bits, the highest first, as a number. -/
def valB (l : List Nat) : Nat := l.foldl (fun n b => 2 * n + b) 0
def Bits (l : List Nat) : Prop := ∀ b ∈ l, b < 2
def bitsK : Nat → Nat → List Nat
  | 0, _ => []
  | k + 1, b => bitsK k (b / 2) ++ [b % 2]
theorem bitsK_len : ∀ k b, (bitsK k b).length = k
  | 0, _ => rfl
  | k + 1, b => by simp [bitsK, bitsK_len k]
theorem bitsK_bits : ∀ k b, Bits (bitsK k b)
  | 0, _ => fun x h => by simp [bitsK] at h
  | k + 1, b => fun x h => by
    rcases List.mem_append.1 h with h | h
    · exact bitsK_bits k _ x h
    · rw [List.mem_singleton] at h; omega
theorem valB_acc (q : List Nat) : ∀ n, q.foldl (fun n b => 2 * n + b) n = n * 2 ^ q.length + valB q := by
  unfold valB
  induction q with
  | nil => intro n; simp
  | cons b q ih =>
    intro n
    rw [List.foldl_cons, List.foldl_cons, ih, ih (2 * 0 + b), List.length_cons, Nat.pow_succ]
    have h1 : (2 * n + b) * 2 ^ q.length = n * (2 ^ q.length * 2) + b * 2 ^ q.length := by
      rw [Nat.add_mul, Nat.mul_comm 2 n, Nat.mul_assoc, Nat.mul_comm 2 (2 ^ q.length)]
    rw [h1, Nat.mul_zero, Nat.zero_add]
    omega
theorem valB_app (p q : List Nat) : valB (p ++ q) = valB p * 2 ^ q.length + valB q := by
  unfold valB
  rw [List.foldl_append, valB_acc q]
  rfl
theorem valB_one (b : Nat) : valB [b] = b := by simp [valB]
theorem valB_bitsK : ∀ k b, valB (bitsK k b) = b % 2 ^ k
  | 0, b => by simp [bitsK, valB, Nat.mod_one]
  | k + 1, b => by
    rw [bitsK, valB_app, valB_bitsK k, valB_one, List.length_singleton, Nat.pow_one, Nat.pow_succ, Nat.mul_comm (2 ^ k) 2, Nat.mod_mul]
    omega
theorem valB_lt : ∀ {l : List Nat}, Bits l → valB l < 2 ^ l.length
  | [], _ => by simp [valB]
  | b :: l, h => by
    have h1 := valB_lt (l := l) fun x hx => h x (List.mem_cons_of_mem _ hx)
    have hb := h b List.mem_cons_self
    have e := valB_app [b] l
    rw [List.singleton_append, valB_one] at e
    rw [e, List.length_cons, Nat.pow_succ]
    have : b * 2 ^ l.length ≤ 1 * 2 ^ l.length := Nat.mul_le_mul_right _ (by omega)
    omega
theorem Bits.app {p q : List Nat} (hp : Bits p) (hq : Bits q) : Bits (p ++ q) := fun x h => (List.mem_append.1 h).elim (hp x) (hq x)
theorem Bits.drop {p : List Nat} (hp : Bits p) (n : Nat) : Bits (p.drop n) := fun x h => hp x (List.mem_of_mem_drop h)
theorem Bits.take {p : List Nat} (hp : Bits p) (n : Nat) : Bits (p.take n) := fun x h => hp x (List.mem_of_mem_take h)
theorem valB_cut {l : List Nat} (h : Bits l) (n : Nat) : valB (l.take n) = valB l / 2 ^ (l.length - n) ∧ valB (l.drop n) = valB l % 2 ^ (l.length - n) := by
  have e := valB_app (l.take n) (l.drop n)
  rw [List.take_append_drop, List.length_drop] at e
  have hl := valB_lt (h.drop n)
  rw [List.length_drop] at hl
  have hp : 0 < 2 ^ (l.length - n) := Nat.two_pow_pos _
  constructor
  · rw [e, Nat.mul_comm, Nat.mul_add_div hp, Nat.div_eq_of_lt hl, Nat.add_zero]
  · rw [e, Nat.mul_comm, Nat.mul_add_mod, Nat.mod_eq_of_lt hl]
def chv (n : Nat) (l : List Nat) (i : Nat) : Nat := valB ((l.drop (n * i)).take n)
def chs (n : Nat) (l : List Nat) : List Nat := (List.range (l.length / n)).map (chv n l)
def rst (n : Nat) (l : List Nat) : List Nat := l.drop (n * (l.length / n))
theorem rst_len (n : Nat) (l : List Nat) : (rst n l).length = l.length % n := by
  unfold rst
  rw [List.length_drop]
  have := Nat.div_add_mod l.length n
  omega
theorem mul_le_len (n : Nat) (l : List Nat) : n * (l.length / n) ≤ l.length := Nat.mul_div_le _ _
theorem len_app {n : Nat} (hn : 0 < n) (l m : List Nat) : (l ++ m).length / n = l.length / n + (rst n l ++ m).length / n := by
  rw [List.length_append, List.length_append, rst_len]
  have h := Nat.div_add_mod l.length n
  conv => lhs; rw [← h, Nat.add_assoc, Nat.mul_add_div hn]
theorem drop_rst (n : Nat) (l m : List Nat) (i : Nat) : (l ++ m).drop (n * (l.length / n + i)) = (rst n l ++ m).drop (n * i) := by
  unfold rst
  rw [Nat.mul_add, ← List.drop_drop, List.drop_append_of_le_length (mul_le_len n l)]
theorem chs_app {n : Nat} (hn : 0 < n) (l m : List Nat) : chs n (l ++ m) = chs n l ++ chs n (rst n l ++ m) := by
  unfold chs
  rw [len_app hn, List.range_add, List.map_append, List.map_map]
  congr 1
  · refine List.map_congr_left fun i hi => ?_
    rw [List.mem_range] at hi
    have h1 : n * (i + 1) ≤ n * (l.length / n) := Nat.mul_le_mul_left _ hi
    have h2 := mul_le_len n l
    rw [Nat.mul_add, Nat.mul_one] at h1
    unfold chv
    rw [List.drop_append_of_le_length (by omega), List.take_append_of_le_length (by rw [List.length_drop]; omega)]
  · refine List.map_congr_left fun i _ => ?_
    show chv n (l ++ m) (l.length / n + i) = chv n (rst n l ++ m) i
    unfold chv
    rw [drop_rst]
theorem rst_app {n : Nat} (hn : 0 < n) (l m : List Nat) : rst n (l ++ m) = rst n (rst n l ++ m) := by
  have h := drop_rst n l m ((rst n l ++ m).length / n)
  rw [← len_app hn] at h
  exact h
theorem chs_small {n : Nat} {l : List Nat} (h : l.length < n) : chs n l = [] ∧ rst n l = l := by
  have e : l.length / n = 0 := Nat.div_eq_of_lt h
  unfold chs rst
  rw [e]
  exact ⟨rfl, by rw [Nat.mul_zero, List.drop_zero]⟩
/-- One piece of n bits, and less than n behind it. -/
theorem chs_one {n : Nat} {l : List Nat} (hb : Bits l) (h1 : n ≤ l.length) (h2 : l.length < 2 * n) : chs n l = [valB l / 2 ^ (l.length - n)] ∧ valB (rst n l) = valB l % 2 ^ (l.length - n) := by
  have hn : 0 < n := by omega
  have e : l.length / n = 1 := by
    rw [Nat.div_eq_iff hn]
    omega
  unfold chs rst
  rw [e]
  refine ⟨?_, ?_⟩
  · show [chv n l 0] = _
    unfold chv
    rw [Nat.mul_zero, List.drop_zero, (valB_cut hb n).1]
  · rw [Nat.mul_one, (valB_cut hb n).2]
/-- Two of them. -/
theorem chs_two {n : Nat} {l : List Nat} (hb : Bits l) (hn : 0 < n) (h1 : l.length = n + n) : chs n l = [valB l / 2 ^ n, valB l % 2 ^ n] ∧ rst n l = [] := by
  have e : l.length / n = 2 := by
    rw [h1, ← Nat.two_mul, Nat.mul_div_cancel _ hn]
  unfold chs rst
  rw [e]
  refine ⟨?_, ?_⟩
  · show [chv n l 0, chv n l 1] = _
    unfold chv
    rw [Nat.mul_zero, List.drop_zero, Nat.mul_one, (valB_cut hb n).1, h1, Nat.add_sub_cancel, List.take_of_length_le (by rw [List.length_drop]; omega), (valB_cut hb n).2, h1, Nat.add_sub_cancel]
  · exact List.drop_eq_nil_of_le (by omega)
theorem valB_zero : ∀ {l : List Nat}, Bits l → (valB l = 0 ↔ (1 : Nat) ∉ l)
  | [], _ => by simp [valB]
  | b :: l, h => by
    have ih := valB_zero (l := l) fun x hx => h x (List.mem_cons_of_mem _ hx)
    have hb := h b List.mem_cons_self
    have e := valB_app [b] l
    rw [List.singleton_append, valB_one] at e
    have hp : 0 < 2 ^ l.length := Nat.two_pow_pos _
    rw [e, List.mem_cons]
    by_cases h0 : b = 0
    · subst h0
      rw [Nat.zero_mul, Nat.zero_add, ih]
      simp
    · have : b = 1 := by omega
      subst this
      constructor
      · intro h; omega
      · intro h; exact absurd (.inl rfl) h
theorem valB_zeros : ∀ k, valB (List.replicate k 0) = 0 := fun k => (valB_zero fun x hx => by rw [(List.mem_replicate.1 hx).2]; omega).2 fun hx => by have := (List.mem_replicate.1 hx).2; omega
/-- Filled up with zeros. -/
theorem chs_pad {n : Nat} {l : List Nat} (hb : Bits l) (hn : 0 < n) : chs n (l ++ List.replicate ((n - l.length % n) % n) 0) = chs n l ++ if l.length % n = 0 then [] else [valB (rst n l) * 2 ^ (n - l.length % n)] := by
  rw [chs_app hn]
  congr 1
  have hr := rst_len n l
  have hlt := Nat.mod_lt l.length hn
  by_cases h : l.length % n = 0
  · rw [if_pos h, h, Nat.sub_zero, Nat.mod_self]
    rw [h] at hr
    have h0 : rst n l = [] := List.eq_nil_of_length_eq_zero hr
    rw [h0]
    exact (chs_small hn).1
  · rw [if_neg h, Nat.mod_eq_of_lt (by omega)]
    have hl : (rst n l ++ List.replicate (n - l.length % n) 0).length = n := by rw [List.length_append, List.length_replicate, hr]; omega
    have hbb : Bits (rst n l ++ List.replicate (n - l.length % n) 0) := (hb.drop _).app fun x hx => by rw [(List.mem_replicate.1 hx).2]; omega
    rw [(chs_one hbb (by omega) (by omega)).1, hl, Nat.sub_self, Nat.pow_zero, Nat.div_one, valB_app, List.length_replicate, valB_zeros, Nat.add_zero]
def d64L : List UInt8 := [65, 66, 67, 68, 69, 70, 71, 72, 73, 74, 75, 76, 77, 78, 79, 80, 81, 82, 83, 84, 85, 86, 87, 88, 89, 90, 97, 98, 99, 100, 101, 102, 103, 104, 105, 106, 107, 108, 109, 110, 111, 112, 113, 114, 115, 116, 117, 118, 119, 120, 121, 122, 48, 49, 50, 51, 52, 53, 54, 55, 56, 57, 45, 95]
def dig (n : Nat) : UInt8 := d64L.getD n 0
theorem dig_at : ∀ k (h : k < 64), (ByteArray.mk #[65, 66, 67, 68, 69, 70, 71, 72, 73, 74, 75, 76, 77, 78, 79, 80, 81, 82, 83, 84, 85, 86, 87, 88, 89, 90, 97, 98, 99, 100, 101, 102, 103, 104, 105, 106, 107, 108, 109, 110, 111, 112, 113, 114, 115, 116, 117, 118, 119, 120, 121, 122, 48, 49, 50, 51, 52, 53, 54, 55, 56, 57, 45, 95])[k]'(Nat.lt_of_lt_of_le h (by decide)) = dig k := by decide +kernel
/-- The bits of a string. -/
def bitsOf (s : List UInt8) : List Nat := s.flatMap fun c => bitsK 8 c.toNat
theorem bitsOf_bits (s : List UInt8) : Bits (bitsOf s) := fun x hx => by
  obtain ⟨c, _, hc⟩ := List.mem_flatMap.1 hx
  exact bitsK_bits 8 _ x hc
theorem bitsOf_len (s : List UInt8) : (bitsOf s).length = 8 * s.length := by
  induction s with
  | nil => rfl
  | cons c r ih =>
    unfold bitsOf at ih ⊢
    rw [List.flatMap_cons, List.length_append, ih, bitsK_len, List.length_cons]
    omega
theorem bitsOf_snoc (s : List UInt8) (c : UInt8) : bitsOf (s ++ [c]) = bitsOf s ++ bitsK 8 c.toNat := by
  unfold bitsOf
  rw [List.flatMap_append]
  simp
/-- The digits of what is whole, and of what is left. -/
def encL (s : List UInt8) : List UInt8 := (chs 6 (bitsOf s)).map dig
def encO (s : List UInt8) : List UInt8 := encL s ++ if 8 * s.length % 6 = 0 then [] else [dig (valB (rst 6 (bitsOf s)) * 2 ^ (6 - 8 * s.length % 6))]
theorem encL_len (s : List UInt8) : (encL s).length = 8 * s.length / 6 := by
  unfold encL chs
  rw [List.length_map, List.length_map, List.length_range, bitsOf_len]
theorem enc_step (s : List UInt8) (c : UInt8) : encL (s ++ [c]) = encL s ++ (chs 6 (rst 6 (bitsOf s) ++ bitsK 8 c.toNat)).map dig ∧ rst 6 (bitsOf (s ++ [c])) = rst 6 (rst 6 (bitsOf s) ++ bitsK 8 c.toNat) := by
  unfold encL
  rw [bitsOf_snoc, chs_app (by decide), List.map_append]
  exact ⟨rfl, rst_app (by decide) _ _⟩
theorem rst_bits (s : List UInt8) : Bits (rst 6 (bitsOf s)) := (bitsOf_bits s).drop _
theorem rst_len8 (s : List UInt8) : (rst 6 (bitsOf s)).length = 8 * s.length % 6 := by rw [rst_len, bitsOf_len]
/-- One more byte: V is what is pending, with it. -/
theorem enc_val (s : List UInt8) (c : UInt8) : valB (rst 6 (bitsOf s) ++ bitsK 8 c.toNat) = valB (rst 6 (bitsOf s)) * 256 + c.toNat := by
  rw [valB_app, bitsK_len, valB_bitsK, Nat.mod_eq_of_lt c.toNat_lt]
theorem enc_one {s : List UInt8} {c : UInt8} {m : Nat} (hm : 8 * s.length % 6 = m) (h4 : m < 4) : encL (s ++ [c]) = encL s ++ [dig ((valB (rst 6 (bitsOf s)) * 256 + c.toNat) / 2 ^ (m + 2))] ∧ valB (rst 6 (bitsOf (s ++ [c]))) = (valB (rst 6 (bitsOf s)) * 256 + c.toNat) % 2 ^ (m + 2) := by
  obtain ⟨h1, h2⟩ := enc_step s c
  have hl : (rst 6 (bitsOf s) ++ bitsK 8 c.toNat).length = m + 8 := by rw [List.length_append, rst_len8, bitsK_len, hm]
  obtain ⟨h3, h5⟩ := chs_one (n := 6) ((rst_bits s).app (bitsK_bits 8 c.toNat)) (by omega) (by omega)
  rw [hl, enc_val, show m + 8 - 6 = m + 2 by omega] at h3 h5
  rw [h1, h2, h3, h5]
  exact ⟨rfl, rfl⟩
theorem enc_two {s : List UInt8} {c : UInt8} (hm : 8 * s.length % 6 = 4) : encL (s ++ [c]) = encL s ++ [dig ((valB (rst 6 (bitsOf s)) * 256 + c.toNat) / 64), dig ((valB (rst 6 (bitsOf s)) * 256 + c.toNat) % 64)] ∧ valB (rst 6 (bitsOf (s ++ [c]))) = 0 := by
  obtain ⟨h1, h2⟩ := enc_step s c
  have hl : (rst 6 (bitsOf s) ++ bitsK 8 c.toNat).length = 6 + 6 := by rw [List.length_append, rst_len8, bitsK_len, hm]
  obtain ⟨h3, h5⟩ := chs_two (n := 6) ((rst_bits s).app (bitsK_bits 8 c.toNat)) (by decide) hl
  rw [enc_val] at h3
  rw [h1, h2, h3, h5]
  exact ⟨rfl, rfl⟩
theorem rst_lt (s : List UInt8) : valB (rst 6 (bitsOf s)) < 2 ^ (8 * s.length % 6) := by
  have h := valB_lt (rst_bits s)
  rw [rst_len8] at h
  exact h
end Go.Proofs.YthlkibadiiiohaaDoor
