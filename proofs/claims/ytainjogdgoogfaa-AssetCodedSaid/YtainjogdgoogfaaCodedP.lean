/- DERIVED. What is encoded in base 64 decodes to itself: plain mathematics. No condition. -/
import Derived.Test.YtainjogdgoogfaaCodesD
namespace Go.Proofs.Ytainjogdgoogfaa
set_option linter.unusedVariables false
theorem chs_front {n : Nat} (hn : 0 < n) {a : List Nat} (q : List Nat) (hb : Bits a) (ha : a.length = n) : chs n (a ++ q) = valB a :: chs n q ∧ rst n (a ++ q) = rst n q := by
  have hr : rst n a = [] := List.eq_nil_of_length_eq_zero (by rw [rst_len, ha, Nat.mod_self])
  have h1 := (chs_one (n := n) hb (by omega) (by omega)).1
  rw [ha, Nat.sub_self, Nat.pow_zero, Nat.div_one] at h1
  constructor
  · rw [chs_app hn, h1, hr]; rfl
  · rw [rst_app hn, hr]; rfl
theorem bitsK_valB : ∀ (k : Nat) (l : List Nat), Bits l → l.length = k → bitsK k (valB l) = l
  | 0, l, _, h => by rw [List.eq_nil_of_length_eq_zero h]; rfl
  | k + 1, l, hb, h => by
    rcases List.eq_nil_or_concat l with rfl | ⟨m, x, rfl⟩
    · simp at h
    · have hx : x < 2 := hb x (by simp)
      have hm : Bits m := fun y hy => hb y (by simp [hy])
      rw [List.concat_eq_append] at h ⊢
      rw [List.length_append, List.length_singleton] at h
      rw [valB_app, valB_one, List.length_singleton, Nat.pow_one, bitsK, show (valB m * 2 + x) / 2 = valB m by omega, show (valB m * 2 + x) % 2 = x by omega, bitsK_valB k m hm (by omega)]
theorem chs_flat {n : Nat} (hn : 0 < n) : ∀ (m : Nat) (p : List Nat), Bits p → p.length = n * m → (chs n p).flatMap (bitsK n) = p
  | 0, p, _, h => by
    rw [Nat.mul_zero] at h
    rw [List.eq_nil_of_length_eq_zero h, (chs_small (n := n) (l := []) hn).1]; rfl
  | m + 1, p, hb, h => by
    have hl : n ≤ p.length := by rw [h, Nat.mul_add]; omega
    have ha : (p.take n).length = n := by rw [List.length_take]; omega
    have h1 := (chs_front hn (p.drop n) (hb.take n) ha).1
    rw [List.take_append_drop] at h1
    rw [h1, List.flatMap_cons, bitsK_valB n _ (hb.take n) ha, chs_flat hn m (p.drop n) (hb.drop n) (by rw [List.length_drop, h, Nat.mul_add]; omega), List.take_append_drop]
theorem chs_bytes : ∀ (s : List UInt8) (z : List Nat), chs 8 (bitsOf s ++ z) = s.map (·.toNat) ++ chs 8 z ∧ rst 8 (bitsOf s ++ z) = rst 8 z
  | [], z => ⟨rfl, rfl⟩
  | c :: s, z => by
    have e : bitsOf (c :: s) = bitsK 8 c.toNat ++ bitsOf s := by unfold bitsOf; rw [List.flatMap_cons]
    obtain ⟨h1, h2⟩ := chs_front (n := 8) (by decide) (bitsOf s ++ z) (bitsK_bits 8 c.toNat) (bitsK_len 8 _)
    obtain ⟨h3, h4⟩ := chs_bytes s z
    rw [e, List.append_assoc, h1, h2, h3, h4, valB_bitsK, Nat.mod_eq_of_lt c.toNat_lt]
    exact ⟨rfl, rfl⟩
theorem dgt_dig : ∀ v, v < 64 → dgt (dig v) = v ∧ badD (dig v) = false := by decide +kernel
theorem chs_lt {n : Nat} {p : List Nat} (hb : Bits p) {v : Nat} (hv : v ∈ chs n p) : v < 2 ^ n := by
  unfold chs at hv
  obtain ⟨i, _, rfl⟩ := List.mem_map.1 hv
  unfold chv
  have h1 := valB_lt (Bits.take (Bits.drop hb (n * i)) n)
  exact Nat.lt_of_lt_of_le h1 (Nat.pow_le_pow_right (by decide) (by rw [List.length_take]; omega))
theorem bits6_digs : ∀ (l : List Nat), (∀ v ∈ l, v < 64) → bits6 (l.map dig) = l.flatMap (bitsK 6) ∧ (l.map dig).any badD = false
  | [], _ => ⟨rfl, rfl⟩
  | v :: l, h => by
    obtain ⟨h1, h2⟩ := bits6_digs l fun x hx => h x (List.mem_cons_of_mem _ hx)
    obtain ⟨h3, h4⟩ := dgt_dig v (h v List.mem_cons_self)
    refine ⟨?_, by rw [List.map_cons, List.any_cons, h2, h4]; rfl⟩
    show (bits6 (dig v :: l.map dig)) = _
    unfold bits6 at h1 ⊢
    rw [List.flatMap_cons, List.flatMap_cons, h1, h3]
def padB6 (s : List UInt8) : List Nat := bitsOf s ++ List.replicate ((6 - (bitsOf s).length % 6) % 6) 0
theorem encO_padB (s : List UInt8) : encO s = (chs 6 (padB6 s)).map dig := by
  unfold padB6 encO encL
  rw [chs_pad (bitsOf_bits s) (by decide), List.map_append, bitsOf_len]
  congr 1
  split <;> rfl
theorem padB6_bits (s : List UInt8) : Bits (padB6 s) := (bitsOf_bits s).app fun x hx => by rw [(List.mem_replicate.1 hx).2]; omega
theorem padB6_len (s : List UInt8) : (padB6 s).length = 6 * ((4 * s.length + 2) / 3) := by
  unfold padB6
  rw [List.length_append, List.length_replicate, bitsOf_len]
  omega
theorem encO_len (s : List UInt8) : (encO s).length = (4 * s.length + 2) / 3 := by
  rw [encO_padB]
  unfold chs
  rw [List.length_map, List.length_map, List.length_range, padB6_len]
  omega
theorem bits6_enc (s : List UInt8) : bits6 (encO s) = padB6 s ∧ (encO s).any badD = false := by
  rw [encO_padB]
  obtain ⟨h1, h2⟩ := bits6_digs (chs 6 (padB6 s)) fun v hv => chs_lt (padB6_bits s) hv
  exact ⟨h1.trans (chs_flat (by decide) _ _ (padB6_bits s) (padB6_len s)), h2⟩
theorem dec_enc (s : List UInt8) (hs : s.length ≤ 20000) : decE (encO s) = 0 ∧ decL (encO s) = s := by
  obtain ⟨h1, h2⟩ := bits6_enc s
  have hz : List.length (List.replicate ((6 - (bitsOf s).length % 6) % 6) 0) < 8 := by rw [List.length_replicate]; omega
  obtain ⟨h3, h4⟩ := chs_bytes s (List.replicate ((6 - (bitsOf s).length % 6) % 6) 0)
  obtain ⟨h5, h6⟩ := chs_small (n := 8) hz
  constructor
  · unfold decE
    rw [encO_len, h2, h1, if_neg (by omega), if_neg (by omega), if_neg (by decide)]
    unfold padB6
    rw [h4, h6, valB_zeros, if_pos rfl]
  · unfold decL
    rw [h1]
    unfold padB6
    rw [h3, h5, List.append_nil, List.map_map]
    have : (UInt8.ofNat ∘ fun x : UInt8 => x.toNat) = id := by funext x; simp
    rw [this, List.map_id]
end Go.Proofs.Ytainjogdgoogfaa
