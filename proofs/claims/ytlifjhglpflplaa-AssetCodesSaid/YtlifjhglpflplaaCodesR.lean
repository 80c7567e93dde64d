/- DERIVED. The reference's Encode64Of. No condition. -/
import Derived.Test.YtlifjhglpflplaaCodesP
namespace Go.Proofs.Ytlifjhglpflplaa
open Go.RowKit
set_option linter.unusedVariables false
set_option linter.unusedSimpArgs false
def nbs (l : List Nat) : List Value := l.map fun (n : Nat) => Value.int .u8 (n : Int)
theorem nbs_app (a b : List Nat) : nbs (a ++ b) = nbs a ++ nbs b := by unfold nbs; rw [List.map_append]
theorem bitU (X : Nat) (hX : X < 256) : bits .and .u8 (X : Int) 1 = ((X % 2 : Nat) : Int) := by
  have h := bits_mask .u8 8 (by decide) wraps_u8 1 (by decide) (X : Int) (Int.natCast_nonneg _) (by exact_mod_cast hX)
  have e : ((2 : Int) ^ 1 - 1) = 1 := by decide
  rw [e] at h
  rw [h]
  simp
theorem bitU_div (c d b : Nat) (hc : c < 256) (hb : c / d % 2 = b) : bits .and .u8 ((c : Int) / (d : Int)) 1 = (b : Int) := by
  have e : (c : Int) / (d : Int) = ((c / d : Nat) : Int) := by simp
  have hl : c / d < 256 := Nat.lt_of_le_of_lt (Nat.div_le_self _ _) hc
  rw [e, bitU _ hl, hb]
theorem bitsK8 (c : Nat) : bitsK 8 c = [c / 128 % 2, c / 64 % 2, c / 32 % 2, c / 16 % 2, c / 8 % 2, c / 4 % 2, c / 2 % 2, c % 2] := by
  simp [bitsK, Nat.div_div_eq_div_mul]
/-- The bits, filled up. -/
def padL (s : List UInt8) : List Nat := bitsOf s ++ List.replicate ((6 - 8 * s.length % 6) % 6) 0
theorem padL_len (s : List UInt8) : (padL s).length = 8 * s.length + (6 - 8 * s.length % 6) % 6 := by
  unfold padL
  rw [List.length_append, bitsOf_len, List.length_replicate]
theorem padL_bits (s : List UInt8) : Bits (padL s) := (bitsOf_bits s).app fun x hx => by rw [(List.mem_replicate.1 hx).2]; omega
theorem encO_pad (s : List UInt8) : (chs 6 (padL s)).map dig = encO s := by
  have h := chs_pad (n := 6) (bitsOf_bits s) (by decide)
  rw [bitsOf_len] at h
  unfold padL encO encL
  rw [h, List.map_append]
  congr 1
  by_cases h0 : 8 * s.length % 6 = 0
  · rw [if_pos h0, if_pos h0]; rfl
  · rw [if_neg h0, if_neg h0]; rfl
/-- The digits of the pieces before some one. -/
def outQ (n : Nat) (P : List Nat) (q : Nat) : List Nat := (List.range q).map (chv n P)
theorem outQ_succ (n : Nat) (P : List Nat) (q : Nat) : outQ n P (q + 1) = outQ n P q ++ [chv n P q] := by
  unfold outQ
  rw [List.range_succ, List.map_append]
  rfl
theorem outQ_len (n : Nat) (P : List Nat) (q : Nat) : (outQ n P q).length = q := by unfold outQ; rw [List.length_map, List.length_range]
theorem outQ_all (n : Nat) (P : List Nat) (q : Nat) (h : P.length / n = q) : outQ n P q = chs n P := by unfold outQ chs; rw [h]
theorem take_step {L : List Nat} {t b : Nat} (h : L[t]? = some b) : valB (L.take (t + 1)) = 2 * valB (L.take t) + b := by
  rw [List.take_add_one, h]
  show valB (L.take t ++ [b]) = _
  rw [valB_app, valB_one, List.length_singleton, Nat.pow_one]
  omega
theorem chv_lt {n : Nat} {P : List Nat} (hb : Bits P) (q : Nat) : chv n P q < 2 ^ n := by
  unfold chv
  have h := valB_lt ((hb.drop (n * q)).take n)
  exact Nat.lt_of_lt_of_le h (Nat.pow_le_pow_right (by decide) (by rw [List.length_take]; omega))
theorem nbs_at {w : World} {base n : Nat} {A : Option Addr} {c : Nat} {L : List Nat} (h : w.ownsRow base 5 1 (.slice A n c) n (nbs L)) (hl : L.length = n) (h0 : 0 < n) : ∃ g, A = some ⟨g, 0, none⟩ ∧ base ≤ g ∧ g < w.heap.size ∧ n ≤ c ∧ ∀ (j b : Nat), L[j]? = some b → w.cell? ⟨g, j, none⟩ = some (.int .u8 (b : Int)) := by
  obtain ⟨g, cap, hv, hg1, hg2⟩ := h.form h0
  cases hv
  refine ⟨g, rfl, hg1, hg2, ?_, fun j b hj => ?_⟩
  · rcases h.2 with ⟨hv, _⟩ | ⟨g', cap', cur, hv, _, _, _, hh, _⟩
    · cases hv
    · cases hv; first | exact hh | omega
  · rw [h.cellAt j (by have := (List.getElem?_eq_some_iff.1 hj).1; omega)]
    unfold nbs
    rw [List.getElem?_map, hj]
    rfl
set_option maxRecDepth 100000 in
set_option maxHeartbeats 4000000 in
theorem encodeR_any (s : ByteArray) (w : World) : Calls Try.prog 7 #[.string s] w fun e w' => e = .returned (encV s) ∧ Below w.heap.size w w' := by
  by_cases h : 20000 < s.size
  · have hi : (20000 : Int) < (s.size : Int) := by omega
    have HO := Lib.hid (show encV s = .tuple #[.string ⟨#[]⟩, .int .i64 4] by unfold encV; rw [if_pos h])
    go_enter Try.func7, Try.ntmps7
    go_wp2_with fail
    go_ret2
    exact ⟨by rw [HO.out]; rfl, Below.refl _ _⟩
  · have hi : ¬ (20000 : Int) < (s.size : Int) := by omega
    have HO := Lib.hid (show encV s = .tuple #[.string ⟨(encO s.data.toList).toArray⟩, .int .i64 0] by unfold encV; rw [if_neg h])
    obtain ⟨i0, hin, hz0, hz1, hz2⟩ := info_parts byteInfo
    have HSL := Lib.hid (show s.data.toList.length = s.size from Array.length_toList)
    go_enter Try.func7, Try.ntmps7
    go_wp2_with fail
    go_loopw [4, 5] (fun v i wr => ∃ (k O : Nat), k ≤ s.size ∧ i = .int .i64 k ∧ O = 8 * k ∧ wr.ownsRow w.heap.size 5 1 v O (nbs (bitsOf (s.data.toList.take k))) ∧ Below w.heap.size w wr) (fun _ i _ => s.size - (intOf i).toNat)
    case atStart => exact ⟨0, 0, Nat.zero_le _, rfl, rfl, by rw [List.take_zero]; exact World.ownsRow_nil _ _ _ _, Below.refl _ _⟩
    case round =>
      obtain ⟨k, O, hk, rfl, hO, hown, hbw⟩ := hrel
      have hw := hbw.size
      obtain ⟨Av, cv, rfl⟩ := bslice_of_own hown
      have hOb : O ≤ 160000 := by omega
      have HOE := Lib.hid hO
      clear hO
      by_cases hlt : k < s.size
      · obtain ⟨ch, hck⟩ : ∃ ch, s[k] = ch := ⟨_, rfl⟩
        have hch := ch.toNat_lt
        have HT := Lib.hid (take_snocB (s := s) hlt)
        rw [hck] at HT
        have HN := Lib.hid (show bitsOf (s.data.toList.take (k + 1)) = bitsOf (s.data.toList.take k) ++ bitsK 8 ch.toNat by rw [HT.out, bitsOf_snoc])
        have HK8 := Lib.hid (bitsK8 ch.toNat)
        obtain ⟨B, hB⟩ : ∃ B, bitsOf (s.data.toList.take k) = B := ⟨_, rfl⟩
        rw [hB] at hown HN
        clear hB
        have HOW0 := Lib.hid hown
        have HBW0 := Lib.hid hbw
        clear hown hbw
        obtain ⟨b0, hb0⟩ : ∃ b, ch.toNat / 128 % 2 = b := ⟨_, rfl⟩
        have ha0 : bits .and .u8 ((ch.toNat : Int) / 128) 1 = (b0 : Int) := bitU_div ch.toNat 128 b0 hch hb0
        have ht0 : b0 < 2 := by rw [← hb0]; omega
        obtain ⟨b1, hb1⟩ : ∃ b, ch.toNat / 64 % 2 = b := ⟨_, rfl⟩
        have ha1 : bits .and .u8 ((ch.toNat : Int) / 64) 1 = (b1 : Int) := bitU_div ch.toNat 64 b1 hch hb1
        have ht1 : b1 < 2 := by rw [← hb1]; omega
        obtain ⟨b2, hb2⟩ : ∃ b, ch.toNat / 32 % 2 = b := ⟨_, rfl⟩
        have ha2 : bits .and .u8 ((ch.toNat : Int) / 32) 1 = (b2 : Int) := bitU_div ch.toNat 32 b2 hch hb2
        have ht2 : b2 < 2 := by rw [← hb2]; omega
        obtain ⟨b3, hb3⟩ : ∃ b, ch.toNat / 16 % 2 = b := ⟨_, rfl⟩
        have ha3 : bits .and .u8 ((ch.toNat : Int) / 16) 1 = (b3 : Int) := bitU_div ch.toNat 16 b3 hch hb3
        have ht3 : b3 < 2 := by rw [← hb3]; omega
        obtain ⟨b4, hb4⟩ : ∃ b, ch.toNat / 8 % 2 = b := ⟨_, rfl⟩
        have ha4 : bits .and .u8 ((ch.toNat : Int) / 8) 1 = (b4 : Int) := bitU_div ch.toNat 8 b4 hch hb4
        have ht4 : b4 < 2 := by rw [← hb4]; omega
        obtain ⟨b5, hb5⟩ : ∃ b, ch.toNat / 4 % 2 = b := ⟨_, rfl⟩
        have ha5 : bits .and .u8 ((ch.toNat : Int) / 4) 1 = (b5 : Int) := bitU_div ch.toNat 4 b5 hch hb5
        have ht5 : b5 < 2 := by rw [← hb5]; omega
        obtain ⟨b6, hb6⟩ : ∃ b, ch.toNat / 2 % 2 = b := ⟨_, rfl⟩
        have ha6 : bits .and .u8 ((ch.toNat : Int) / 2) 1 = (b6 : Int) := bitU_div ch.toNat 2 b6 hch hb6
        have ht6 : b6 < 2 := by rw [← hb6]; omega
        obtain ⟨b7, hb7⟩ : ∃ b, ch.toNat % 2 = b := ⟨_, rfl⟩
        have ha7 := bitU ch.toNat hch
        rw [hb7] at ha7
        have hd7 : (ch.toNat : Int) / 1 = (ch.toNat : Int) := by omega
        have ht7 : b7 < 2 := by rw [← hb7]; omega
        have HBB := Lib.hid (show bitsK 8 ch.toNat = [b0, b1, b2, b3, b4, b5, b6, b7] by rw [HK8.out, hb0, hb1, hb2, hb3, hb4, hb5, hb6, hb7])
        have HB8 := Lib.hid (show nbs (B ++ [b0, b1, b2, b3, b4, b5, b6, b7]) = (((((((nbs B ++ [.int .u8 (b0 : Int)]) ++ [.int .u8 (b1 : Int)]) ++ [.int .u8 (b2 : Int)]) ++ [.int .u8 (b3 : Int)]) ++ [.int .u8 (b4 : Int)]) ++ [.int .u8 (b5 : Int)]) ++ [.int .u8 (b6 : Int)]) ++ [.int .u8 (b7 : Int)] by simp [nbs])
        have ch1 : ¬ (256 : Int) ≤ (ch.toNat : Int) := by omega
        clear hb0 hb1 hb2 hb3 hb4 hb5 hb6 hb7
        go_wp2_with fail
        refine wp_loop_rounds 9 ?_
        have hw0 := hw
        have HNW0 := Lib.hid (World.news_of_block (heap_alloc_new wr (.cells #[.int .u8 (b0 : Int)] 5)))
        rw [rounds_succ]
        go_wp2_with (at_builtin; go_loud (refine wpList_append_lies _ rfl _ _ 43 rfl w.heap.size 5 i0 _ 1 1 Try.underlying43 hin hz0 hz1 hz2 rfl (by decide) (.slice Av O cv) O (nbs B) rfl (HOW0.out.alloc _) ⟨wr.heap.size, 0, none⟩ 1 1 [.int .u8 (b0 : Int)] rfl rfl HNW0.out (by simp [Value.oneCell']) (by omega) (by unfold maxLen; omega) (by omega) (by simp; omega) (wr.heap.size + 1) (by simp) ?_; intro g0 p0 w0 ho0 hg0 hat0 hl0))
        have hbel0 : Below w.heap.size w w0 := (HBW0.out.alloc hw0 _).grown hg0 (by simp; omega) (fun q hq => (HOW0.out.lt q hq).1)
        have hw1 := hbel0.size
        have HOW1 := Lib.hid ho0
        have HBW1 := Lib.hid hbel0
        clear ho0 hg0 hat0 hl0 hbel0 hw0
        have HNW1 := Lib.hid (World.news_of_block (heap_alloc_new w0 (.cells #[.int .u8 (b1 : Int)] 5)))
        rw [rounds_succ]
        go_wp2_with (at_builtin; go_loud (refine wpList_append_lies _ rfl _ _ 43 rfl w.heap.size 5 i0 _ 1 1 Try.underlying43 hin hz0 hz1 hz2 rfl (by decide) (.slice (some ⟨g0, 0, none⟩) (O + 1) p0) (O + 1) (nbs B ++ [.int .u8 (b0 : Int)]) rfl (HOW1.out.alloc _) ⟨w0.heap.size, 0, none⟩ 1 1 [.int .u8 (b1 : Int)] rfl rfl HNW1.out (by simp [Value.oneCell']) (by omega) (by unfold maxLen; omega) (by omega) (by simp; omega) (w0.heap.size + 1) (by simp) ?_; intro g1 p1 w1 ho1 hg1 hat1 hl1))
        have hbel1 : Below w.heap.size w w1 := (HBW1.out.alloc hw1 _).grown hg1 (by simp; omega) (fun q hq => (HOW1.out.lt q hq).1)
        have hw2 := hbel1.size
        have HOW2 := Lib.hid ho1
        have HBW2 := Lib.hid hbel1
        clear ho1 hg1 hat1 hl1 hbel1 hw1
        have HNW2 := Lib.hid (World.news_of_block (heap_alloc_new w1 (.cells #[.int .u8 (b2 : Int)] 5)))
        rw [rounds_succ]
        go_wp2_with (at_builtin; go_loud (refine wpList_append_lies _ rfl _ _ 43 rfl w.heap.size 5 i0 _ 1 1 Try.underlying43 hin hz0 hz1 hz2 rfl (by decide) (.slice (some ⟨g1, 0, none⟩) (O + 2) p1) (O + 2) ((nbs B ++ [.int .u8 (b0 : Int)]) ++ [.int .u8 (b1 : Int)]) rfl (HOW2.out.alloc _) ⟨w1.heap.size, 0, none⟩ 1 1 [.int .u8 (b2 : Int)] rfl rfl HNW2.out (by simp [Value.oneCell']) (by omega) (by unfold maxLen; omega) (by omega) (by simp; omega) (w1.heap.size + 1) (by simp) ?_; intro g2 p2 w2 ho2 hg2 hat2 hl2))
        have hbel2 : Below w.heap.size w w2 := (HBW2.out.alloc hw2 _).grown hg2 (by simp; omega) (fun q hq => (HOW2.out.lt q hq).1)
        have hw3 := hbel2.size
        have HOW3 := Lib.hid ho2
        have HBW3 := Lib.hid hbel2
        clear ho2 hg2 hat2 hl2 hbel2 hw2
        have HNW3 := Lib.hid (World.news_of_block (heap_alloc_new w2 (.cells #[.int .u8 (b3 : Int)] 5)))
        rw [rounds_succ]
        go_wp2_with (at_builtin; go_loud (refine wpList_append_lies _ rfl _ _ 43 rfl w.heap.size 5 i0 _ 1 1 Try.underlying43 hin hz0 hz1 hz2 rfl (by decide) (.slice (some ⟨g2, 0, none⟩) (O + 3) p2) (O + 3) (((nbs B ++ [.int .u8 (b0 : Int)]) ++ [.int .u8 (b1 : Int)]) ++ [.int .u8 (b2 : Int)]) rfl (HOW3.out.alloc _) ⟨w2.heap.size, 0, none⟩ 1 1 [.int .u8 (b3 : Int)] rfl rfl HNW3.out (by simp [Value.oneCell']) (by omega) (by unfold maxLen; omega) (by omega) (by simp; omega) (w2.heap.size + 1) (by simp) ?_; intro g3 p3 w3 ho3 hg3 hat3 hl3))
        have hbel3 : Below w.heap.size w w3 := (HBW3.out.alloc hw3 _).grown hg3 (by simp; omega) (fun q hq => (HOW3.out.lt q hq).1)
        have hw4 := hbel3.size
        have HOW4 := Lib.hid ho3
        have HBW4 := Lib.hid hbel3
        clear ho3 hg3 hat3 hl3 hbel3 hw3
        have HNW4 := Lib.hid (World.news_of_block (heap_alloc_new w3 (.cells #[.int .u8 (b4 : Int)] 5)))
        rw [rounds_succ]
        go_wp2_with (at_builtin; go_loud (refine wpList_append_lies _ rfl _ _ 43 rfl w.heap.size 5 i0 _ 1 1 Try.underlying43 hin hz0 hz1 hz2 rfl (by decide) (.slice (some ⟨g3, 0, none⟩) (O + 4) p3) (O + 4) ((((nbs B ++ [.int .u8 (b0 : Int)]) ++ [.int .u8 (b1 : Int)]) ++ [.int .u8 (b2 : Int)]) ++ [.int .u8 (b3 : Int)]) rfl (HOW4.out.alloc _) ⟨w3.heap.size, 0, none⟩ 1 1 [.int .u8 (b4 : Int)] rfl rfl HNW4.out (by simp [Value.oneCell']) (by omega) (by unfold maxLen; omega) (by omega) (by simp; omega) (w3.heap.size + 1) (by simp) ?_; intro g4 p4 w4 ho4 hg4 hat4 hl4))
        have hbel4 : Below w.heap.size w w4 := (HBW4.out.alloc hw4 _).grown hg4 (by simp; omega) (fun q hq => (HOW4.out.lt q hq).1)
        have hw5 := hbel4.size
        have HOW5 := Lib.hid ho4
        have HBW5 := Lib.hid hbel4
        clear ho4 hg4 hat4 hl4 hbel4 hw4
        have HNW5 := Lib.hid (World.news_of_block (heap_alloc_new w4 (.cells #[.int .u8 (b5 : Int)] 5)))
        rw [rounds_succ]
        go_wp2_with (at_builtin; go_loud (refine wpList_append_lies _ rfl _ _ 43 rfl w.heap.size 5 i0 _ 1 1 Try.underlying43 hin hz0 hz1 hz2 rfl (by decide) (.slice (some ⟨g4, 0, none⟩) (O + 5) p4) (O + 5) (((((nbs B ++ [.int .u8 (b0 : Int)]) ++ [.int .u8 (b1 : Int)]) ++ [.int .u8 (b2 : Int)]) ++ [.int .u8 (b3 : Int)]) ++ [.int .u8 (b4 : Int)]) rfl (HOW5.out.alloc _) ⟨w4.heap.size, 0, none⟩ 1 1 [.int .u8 (b5 : Int)] rfl rfl HNW5.out (by simp [Value.oneCell']) (by omega) (by unfold maxLen; omega) (by omega) (by simp; omega) (w4.heap.size + 1) (by simp) ?_; intro g5 p5 w5 ho5 hg5 hat5 hl5))
        have hbel5 : Below w.heap.size w w5 := (HBW5.out.alloc hw5 _).grown hg5 (by simp; omega) (fun q hq => (HOW5.out.lt q hq).1)
        have hw6 := hbel5.size
        have HOW6 := Lib.hid ho5
        have HBW6 := Lib.hid hbel5
        clear ho5 hg5 hat5 hl5 hbel5 hw5
        have HNW6 := Lib.hid (World.news_of_block (heap_alloc_new w5 (.cells #[.int .u8 (b6 : Int)] 5)))
        rw [rounds_succ]
        go_wp2_with (at_builtin; go_loud (refine wpList_append_lies _ rfl _ _ 43 rfl w.heap.size 5 i0 _ 1 1 Try.underlying43 hin hz0 hz1 hz2 rfl (by decide) (.slice (some ⟨g5, 0, none⟩) (O + 6) p5) (O + 6) ((((((nbs B ++ [.int .u8 (b0 : Int)]) ++ [.int .u8 (b1 : Int)]) ++ [.int .u8 (b2 : Int)]) ++ [.int .u8 (b3 : Int)]) ++ [.int .u8 (b4 : Int)]) ++ [.int .u8 (b5 : Int)]) rfl (HOW6.out.alloc _) ⟨w5.heap.size, 0, none⟩ 1 1 [.int .u8 (b6 : Int)] rfl rfl HNW6.out (by simp [Value.oneCell']) (by omega) (by unfold maxLen; omega) (by omega) (by simp; omega) (w5.heap.size + 1) (by simp) ?_; intro g6 p6 w6 ho6 hg6 hat6 hl6))
        have hbel6 : Below w.heap.size w w6 := (HBW6.out.alloc hw6 _).grown hg6 (by simp; omega) (fun q hq => (HOW6.out.lt q hq).1)
        have hw7 := hbel6.size
        have HOW7 := Lib.hid ho6
        have HBW7 := Lib.hid hbel6
        clear ho6 hg6 hat6 hl6 hbel6 hw6
        have HNW7 := Lib.hid (World.news_of_block (heap_alloc_new w6 (.cells #[.int .u8 (b7 : Int)] 5)))
        rw [rounds_succ]
        go_wp2_with (at_builtin; go_loud (refine wpList_append_lies _ rfl _ _ 43 rfl w.heap.size 5 i0 _ 1 1 Try.underlying43 hin hz0 hz1 hz2 rfl (by decide) (.slice (some ⟨g6, 0, none⟩) (O + 7) p6) (O + 7) (((((((nbs B ++ [.int .u8 (b0 : Int)]) ++ [.int .u8 (b1 : Int)]) ++ [.int .u8 (b2 : Int)]) ++ [.int .u8 (b3 : Int)]) ++ [.int .u8 (b4 : Int)]) ++ [.int .u8 (b5 : Int)]) ++ [.int .u8 (b6 : Int)]) rfl (HOW7.out.alloc _) ⟨w6.heap.size, 0, none⟩ 1 1 [.int .u8 (b7 : Int)] rfl rfl HNW7.out (by simp [Value.oneCell']) (by omega) (by unfold maxLen; omega) (by omega) (by simp; omega) (w6.heap.size + 1) (by simp) ?_; intro g7 p7 w7 ho7 hg7 hat7 hl7))
        have hbel7 : Below w.heap.size w w7 := (HBW7.out.alloc hw7 _).grown hg7 (by simp; omega) (fun q hq => (HOW7.out.lt q hq).1)
        have hw8 := hbel7.size
        have HOW8 := Lib.hid ho7
        have HBW8 := Lib.hid hbel7
        clear ho7 hg7 hat7 hl7 hbel7 hw7
        rw [rounds_succ]
        go_wp2_with fail
        go_roundw
        case rel => exact ⟨k + 1, O + 8, by omega, by go_num, by have := HOE.out; omega, by rw [HN.out, HBB.out, HB8.out]; exact HOW8.out, HBW8.out⟩
        case measure => simp [intOf]; omega
      · obtain rfl : k = s.size := by omega
        have hall : s.data.toList.take s.size = s.data.toList := List.take_of_length_le (by rw [Array.length_toList]; exact Nat.le_refl _)
        rw [hall] at hown
        have HOW := Lib.hid hown
        have HBW := Lib.hid hbw
        clear hown hbw hall
        obtain ⟨z, hz⟩ : ∃ z, (6 - 8 * s.data.toList.length % 6) % 6 = z := ⟨_, rfl⟩
        have HZ := Lib.hid hz
        have HPL := Lib.hid (show padL s.data.toList = bitsOf s.data.toList ++ List.replicate z 0 by unfold padL; rw [hz])
        have HPN := Lib.hid (show (padL s.data.toList).length = 8 * s.size + z by rw [padL_len, hz, HSL.out])
        have hz6 : z < 6 := by omega
        clear hz
        go_wp2_with fail
        go_loopw [4] (fun v wr => ∃ (L j : Nat), j ≤ z ∧ L = 8 * s.size + j ∧ wr.ownsRow w.heap.size 5 1 v L (nbs (bitsOf s.data.toList ++ List.replicate j 0)) ∧ Below w.heap.size w wr) (fun v _ => 160008 - (match v with | .slice _ n _ => n | _ => 0))
        case atStart => exact ⟨O, 0, Nat.zero_le _, by rw [HOE.out]; rfl, by rw [List.replicate_zero, List.append_nil]; exact HOW.out, HBW.out⟩
        case round =>
          obtain ⟨L, j, hj, hL, hown, hbw⟩ := hrel
          obtain ⟨wo, rfl⟩ : ∃ wo, wo = wr := ⟨_, rfl⟩
          have hw := hbw.size
          obtain ⟨Av, cv, rfl⟩ := bslice_of_own hown
          have hLb : L ≤ 160006 := by omega
          have hL2 := hL
          have HLE := Lib.hid hL
          have HOW := Lib.hid hown
          have HBW := Lib.hid hbw
          have hz7 := HZ.out
          rw [HSL.out] at hz7
          have hLz : L % 6 = 0 → j = z := by intro h9; omega
          have hLn : ¬ L % 6 = 0 → j < z := by intro h9; omega
          have HLZ := Lib.hid (And.intro hLz hLn)
          clear hown hbw hL2 hz7 hLz hLn hL
          obtain ⟨r, hr⟩ : ∃ r, L % 6 = r := ⟨_, rfl⟩
          have hrem : (L : Int) % 6 = (r : Int) := by omega
          by_cases hr0 : r = 0
          · have hjz := HLZ.out.1 (by omega)
            subst hjz
            subst hr0
            have HOP := Lib.hid (show wo.ownsRow w.heap.size 5 1 (.slice Av L cv) L (nbs (padL s.data.toList)) by rw [HPL.out]; exact HOW.out)
            have HPB := Lib.hid (padL_bits s.data.toList)
            have HEO := Lib.hid (encO_pad s.data.toList)
            have HPN2 := Lib.hid (show (padL s.data.toList).length = L by rw [HPN.out, HLE.out])
            obtain ⟨P, hP⟩ : ∃ P, padL s.data.toList = P := ⟨_, rfl⟩
            rw [hP] at HOP HPB HEO HPN2
            obtain ⟨m, hm⟩ : ∃ m, L = 6 * m := ⟨L / 6, by omega⟩
            have hmb : m ≤ 26668 := by omega
            have HMM := Lib.hid hm
            have hrem0 : (L : Int) % 6 = 0 := by omega
            clear hrem hP hr
            by_cases hm0 : m = 0
            · have hL0 : L = 0 := by omega
              have HP0 := Lib.hid (show P = [] from List.eq_nil_of_length_eq_zero (by rw [HPN2.out]; exact hL0))
              subst hL0
              clear hm
              have hcv : (convert 43 9 (.slice none 0 0)).run Try.prog wo = .ok (.string ⟨#[]⟩) wo := run_convert_bytes_nil wo 43 5 Try.underlying43 Try.underlying5 0 0 9 Try.underlying9
              go_wp2_with fail
              refine wp_loop_rounds 1 ?_
              rw [rounds_succ]
              go_wp2_with fail
              go_ret2
              exact ⟨by rw [HO.out, ← HEO.out, HP0.out]; rfl, HBW.out⟩
            · obtain ⟨g, hA, hgb, hgl, hgc, hcell⟩ := nbs_at HOP.out HPN2.out (by omega)
              subst hA
              have HCELL := Lib.hid hcell
              clear hcell hm
              go_wp2_with fail
              go_loopw [7, 8] (fun v i wq => ∃ q Q : Nat, q ≤ m ∧ Q = 6 * q ∧ i = .int .i64 (Q : Int) ∧ wq.ownsRow w.heap.size 5 1 v q (ubs ((outQ 6 P q).map dig)) ∧ v.ownBlock ≠ some g ∧ wq.heap[g]? = wo.heap[g]? ∧ wo.heap.size ≤ wq.heap.size ∧ Below w.heap.size w wq) (fun _ i _ => 6 * m - (intOf i).toNat)
              case atStart => exact ⟨0, 0, Nat.zero_le _, rfl, rfl, World.ownsRow_nil _ _ _ _, by simp [Value.ownBlock], rfl, Nat.le_refl _, HBW.out⟩
              case round =>
                obtain ⟨q, Q, hq, hQ6, rfl, hown, hne, hkp, hsz, hbq⟩ := hrel
                obtain ⟨wq, rfl⟩ : ∃ wq, wq = wr := ⟨_, rfl⟩
                obtain ⟨Ao, co, rfl⟩ := bslice_of_own hown
                have hqw := hbq.size
                have HOQ := Lib.hid hown
                have HBQ := Lib.hid hbq
                have HNE := Lib.hid hne
                have HKP := Lib.hid hkp
                clear hown hbq hne hkp
                have hml := HMM.out
                by_cases hlt : q < m
                · have q1 : (Q : Int) ≤ (Q : Int) + 6 := by omega
                  have q2 : (Q : Int) + 6 ≤ (L : Int) := by omega
                  have q3 : (Q : Int) + 6 ≤ (cv : Int) := by omega
                  have q4 : (Q : Int) < (L : Int) := by omega
                  have HQC := Lib.hid (fun (t b : Nat) (h : (P.drop Q)[t]? = some b) => show wq.cell? ⟨g, Q + t, none⟩ = some (.int .u8 (b : Int)) by
                    rw [List.getElem?_drop] at h
                    exact (World.cell?_of_block HKP.out).trans (HCELL.out _ b h))
                  have HLT := Lib.hid (show Q + 6 ≤ P.length by rw [HPN2.out]; omega)
                  have HQ6 := Lib.hid hQ6
                  have hcq : 6 * q = Q := hQ6.symm
                  have HCV := Lib.hid (show chv 6 P q = valB ((P.drop Q).take 6) by unfold chv; rw [hcq])
                  have hc64 := chv_lt (n := 6) HPB.out q
                  clear hml hQ6 hcq
                  obtain ⟨Z, hZ⟩ : ∃ Z, chv 6 P q = Z := ⟨_, rfl⟩
                  rw [hZ] at HCV hc64
                  have hdig := dig_at Z hc64
                  obtain ⟨dd, hdd⟩ : ∃ dd, dig Z = dd := ⟨_, rfl⟩
                  rw [hdd] at hdig
                  have HN := Lib.hid (show (outQ 6 P (q + 1)).map dig = (outQ 6 P q).map dig ++ [dd] by rw [outQ_succ, List.map_append, hZ, ← hdd]; rfl)
                  have HNW := Lib.hid (World.news_of_block (heap_alloc_new wq (.cells #[.int .u8 (dd.toNat : Int)] 5)))
                  clear hZ hdd
                  go_wp2_with fail
                  go_loopw [9, 53] (fun x jj wt => ∃ t : Nat, t ≤ 6 ∧ jj = .int .i64 t ∧ x = .int .i64 ((valB ((P.drop Q).take t) : Nat) : Int) ∧ wt = wq) (fun _ jj _ => 6 - (intOf jj).toNat)
                  case atStart => exact ⟨0, Nat.zero_le _, rfl, rfl, rfl⟩
                  case round =>
                    obtain ⟨t, ht, rfl, rfl, hwr⟩ := hrel
                    subst wr
                    by_cases ht6 : t < 6
                    · obtain ⟨b, hb⟩ : ∃ b, (P.drop Q)[t]? = some b := ⟨_, List.getElem?_eq_getElem (by rw [List.length_drop]; have := HLT.out; omega)⟩
                      have hcell := HQC.out t b hb
                      have hb2 : b < 2 := (HPB.out.drop Q) b (List.mem_of_getElem? hb)
                      have HTS := Lib.hid (take_step hb)
                      have hv64 : valB ((P.drop Q).take t) < 64 := by
                        have h1 := valB_lt ((HPB.out.drop Q).take t)
                        have h2 : ((P.drop Q).take t).length ≤ t := by rw [List.length_take]; omega
                        exact Nat.lt_of_lt_of_le h1 (Nat.pow_le_pow_right (n := 2) (by decide) (show _ ≤ 6 by omega))
                      obtain ⟨u, hu⟩ : ∃ u, valB ((P.drop Q).take t) = u := ⟨_, rfl⟩
                      rw [hu] at hv64 HTS
                      rw [hu]
                      clear hb hu
                      go_wp2_with fail
                      go_roundw
                      case rel => exact ⟨t + 1, by omega, by go_num, by rw [HTS.out]; first | rfl | go_num, by first | rfl | trivial⟩
                      case measure => simp [intOf]; omega
                    · obtain rfl : t = 6 := by omega
                      rw [← HCV.out]
                      go_wp2_with (at_builtin; go_loud (refine wpList_append_lies _ rfl _ _ 43 rfl w.heap.size 5 i0 _ 1 1 Try.underlying43 hin hz0 hz1 hz2 rfl (by decide) (.slice Ao q co) q (ubs ((outQ 6 P q).map dig)) rfl (HOQ.out.alloc _) ⟨wq.heap.size, 0, none⟩ 1 1 [.int .u8 (dd.toNat : Int)] rfl rfl HNW.out (by simp [Value.oneCell']) (by omega) (by unfold maxLen; omega) (by omega) (by simp; omega) (wq.heap.size + 1) (by simp) ?_; intro gg cap2 w7 hown7 hgrow7 hat7 hlt7))
                      have hb7 : Below w.heap.size w w7 := (HBQ.out.alloc hqw _).grown hgrow7 (by simp; omega) (fun q hq => (HOQ.out.lt q hq).1)
                      go_roundw
                      case rel =>
                        refine ⟨q + 1, Q + 6, by omega, by have := HQ6.out; omega, by first | rfl | go_num, by rw [HN.out, ubs_app]; exact hown7, ?_, ?_, ?_, hb7⟩
                        · intro e
                          have e2 : gg = g := by simpa [Value.ownBlock] using e
                          rcases hat7 with h | h
                          · exact HNE.out (by rw [h, e2])
                          · omega
                        · exact (hgrow7.block g (by simp; omega) (fun e => HNE.out e.symm)).trans ((Below.heap_alloc _ _ _ (by omega)).trans HKP.out)
                        · have := hgrow7.size; simp at this; omega
                      case measure => simp [intOf]; have := HQ6.out; omega
                · have hqm : q = m := by omega
                  subst hqm
                  have HALL := Lib.hid (show (outQ 6 P q).map dig = encO s.data.toList by rw [outQ_all 6 P q (by rw [HPN2.out, HMM.out]; omega)]; exact HEO.out)
                  have hcv := conv_own HOQ.out (by rw [List.length_map, outQ_len])
                  have hnq : ¬ (Q : Int) < (L : Int) := by omega
                  clear hml hQ6
                  go_wp2_with fail
                  go_ret2
                  exact ⟨by rw [HO.out, ← HALL.out]; rfl, HBQ.out⟩
          · have hjlt := HLZ.out.2 (by omega)
            have hr1 : ((r : Int) == 0) = false := by have : ¬ (r : Int) = 0 := by omega
                                                      simpa using this
            have HNW := Lib.hid (World.news_of_block (heap_alloc_new wo (.cells #[.int .u8 0] 5)))
            clear hr
            go_wp2_with (at_builtin; go_loud (refine wpList_append_lies _ rfl _ _ 43 rfl w.heap.size 5 i0 _ 1 1 Try.underlying43 hin hz0 hz1 hz2 rfl (by decide) (.slice Av L cv) L (nbs (bitsOf s.data.toList ++ List.replicate j 0)) rfl (HOW.out.alloc _) ⟨wo.heap.size, 0, none⟩ 1 1 [.int .u8 0] rfl rfl HNW.out (by simp [Value.oneCell']) (by omega) (by unfold maxLen; omega) (by omega) (by simp; omega) (wo.heap.size + 1) (by simp) ?_; intro gg cap2 w7 hown7 hgrow7 hat7 hlt7))
            have hb7 : Below w.heap.size w w7 := (HBW.out.alloc hw _).grown hgrow7 (by simp; omega) (fun q hq => (HOW.out.lt q hq).1)
            go_roundw
            case rel => exact ⟨L + 1, j + 1, by omega, by have := HLE.out; omega, by rw [List.replicate_succ', ← List.append_assoc, nbs_app]; exact hown7, hb7⟩
            case measure => simp; omega
end Go.Proofs.Ytlifjhglpflplaa
