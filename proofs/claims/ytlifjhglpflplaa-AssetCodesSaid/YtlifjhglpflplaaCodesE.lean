/- DERIVED. The reference's Decode64Of. No condition. -/
import Derived.Test.YtlifjhglpflplaaCodesD
namespace Go.Proofs.Ytlifjhglpflplaa
open Go.RowKit
set_option linter.unusedVariables false
set_option linter.unusedSimpArgs false
theorem bitI (X : Nat) (hX : X < 1048576) : bits .and .i64 (X : Int) 1 = ((X % 2 : Nat) : Int) := and_mod (X := X) 1 (by decide) (by omega)
theorem bitI_div (c d b : Nat) (hc : c < 64) (hb : c / d % 2 = b) : bits .and .i64 ((c : Int) / (d : Int)) 1 = (b : Int) := by
  have e : (c : Int) / (d : Int) = ((c / d : Nat) : Int) := by simp
  have hl : c / d < 64 := Nat.lt_of_le_of_lt (Nat.div_le_self _ _) hc
  rw [e, bitI _ (by omega), hb]
theorem bitsK6 (c : Nat) : bitsK 6 c = [c / 32 % 2, c / 16 % 2, c / 8 % 2, c / 4 % 2, c / 2 % 2, c % 2] := by
  simp [bitsK, Nat.div_div_eq_div_mul]
/-- A row of bits in memory. -/
def BitRow (w : World) (A : Option Addr) (l : List Nat) : Prop := 0 < l.length → ∃ g o, A = some ⟨g, o, none⟩ ∧ ∀ (j b : Nat), l[j]? = some b → w.cell? ⟨g, o + j, none⟩ = some (.int .u8 (b : Int))
set_option maxRecDepth 100000 in
theorem indexB_any (A : Option Addr) (n c : Nat) (l : List Nat) (w : World) (hn : l.length = n) (hn8 : n < 8) (hb : Bits l) (hr : BitRow w A l) :
    Calls Try.prog 49 #[.slice A n c, .int .u8 1] w fun e w' => (∃ r : Int, e = .returned (.int .i64 r) ∧ decide (0 ≤ r) = decide (1 ∈ l)) ∧ w = w' := by
  have HR := Lib.hid hr
  have HN := Lib.hid hn
  have HB := Lib.hid hb
  clear hr hn hb
  go_enter Try.func49, Try.ntmps49
  go_wp2_with fail
  go_loopw [8] (fun i wr => ∃ k : Nat, k ≤ n ∧ i = .int .i64 k ∧ (1 : Nat) ∉ l.take k ∧ wr = w) (fun i _ => n - (intOf i).toNat)
  case atStart => exact ⟨0, Nat.zero_le _, rfl, by simp, rfl⟩
  case round =>
    obtain ⟨k, hk, rfl, hno, hwr⟩ := hrel
    subst wr
    have HNO := Lib.hid hno
    clear hno
    by_cases hlt : k < n
    · obtain ⟨x, hx⟩ : ∃ x, l[k]? = some x := ⟨_, List.getElem?_eq_getElem (by rw [HN.out]; exact hlt)⟩
      obtain ⟨g, o, rfl, hc⟩ := HR.out (by rw [HN.out]; omega)
      have x0 := hc k x hx
      have hx2 := HB.out x (List.mem_of_getElem? hx)
      have HX := Lib.hid hx
      clear hx hc
      by_cases h1 : x = 1
      · subst h1
        go_wp2_with fail
        go_ret
        exact ⟨⟨k, rfl, by rw [decide_eq_true (List.mem_of_getElem? HX.out)]; simp⟩, rfl⟩
      · have hx0 : x = 0 := by omega
        have HTK := Lib.hid (show (1 : Nat) ∉ l.take (k + 1) by
          rw [List.take_add_one, HX.out, List.mem_append]
          rintro (h | h)
          · exact HNO.out h
          · simp at h; omega)
        subst hx0
        go_wp2_with fail
        go_roundw
        case rel => exact ⟨k + 1, by omega, by go_num, HTK.out, by first | rfl | trivial⟩
        case measure => simp [intOf]; omega
    · obtain rfl : k = n := by omega
      have hno := HNO.out
      rw [List.take_of_length_le (by rw [HN.out]; exact Nat.le_refl _)] at hno
      have HNO2 := Lib.hid hno
      clear hno
      go_wp2_with fail
      go_ret
      exact ⟨⟨-1, rfl, by rw [decide_eq_false HNO2.out]; rfl⟩, rfl⟩
theorem containsB_any (A : Option Addr) (n c : Nat) (l : List Nat) (w : World) (hn : l.length = n) (hn8 : n < 8) (hb : Bits l) (hr : BitRow w A l) :
    Calls Try.prog 17 #[.slice A n c, .int .u8 1] w fun e w' => e = .returned (.bool (decide (1 ∈ l))) ∧ w = w' := by
  have H := Lib.hid (indexB_any A n c l w hn hn8 hb hr)
  clear hn hb hr
  go_enter Try.func17, Try.ntmps17
  go_wp2_with fail
  refine H.out.mono ?_
  rintro e w1 ⟨⟨r, rfl, hr⟩, rfl⟩
  have HR := Lib.hid hr
  clear hr
  go_wp2_with fail
  go_ret
  exact ⟨by rw [← HR.out]; rfl, rfl⟩
set_option maxRecDepth 100000 in
set_option maxHeartbeats 4000000 in
theorem decodeR_any (s : ByteArray) (w : World) : Calls Try.prog 9 #[.string s] w fun e w' => e = .returned (decV s) ∧ Below w.heap.size w w' := by
  have hsl : s.data.toList.length = s.size := Array.length_toList
  by_cases h : 200000 < s.size
  · have hi : (200000 : Int) < (s.size : Int) := by omega
    have HO := Lib.hid (decV_bad (s := s) (e := 4) (by unfold decE; rw [if_pos (by omega)]) (by decide))
    clear hsl
    go_enter Try.func9, Try.ntmps9
    go_wp2_with fail
    go_ret2
    exact ⟨by rw [HO.out]; rfl, Below.refl _ _⟩
  · have hi : ¬ (200000 : Int) < (s.size : Int) := by omega
    have HBADE := Lib.hid (show s.data.toList.any badD = true → decE s.data.toList = 8 from fun hb => by unfold decE; rw [if_neg (by omega)]; split; · rfl
                                                                                                         · simp [hb])
    have HGOOD := Lib.hid (show s.data.toList.any badD = false → s.size % 4 ≠ 1 → decE s.data.toList = if valB (rst 8 (bits6 s.data.toList)) = 0 then 0 else 8 from fun hb h4 => by unfold decE; rw [if_neg (by omega), if_neg (by omega), if_neg (by rw [hb]; decide)])
    have HONE := Lib.hid (show s.size % 4 = 1 → decE s.data.toList = 8 from fun h4 => by unfold decE; rw [if_neg (by omega), if_pos (by omega)])
    have HSL := Lib.hid hsl
    clear hsl
    obtain ⟨i0, hin, hz0, hz1, hz2⟩ := info_parts byteInfo
    go_enter Try.func9, Try.ntmps9
    go_wp2_with fail
    go_loopw [4, 5] (fun v i wr => ∃ (k O : Nat), k ≤ s.size ∧ i = .int .i64 k ∧ O = 6 * k ∧ (s.data.toList.take k).any badD = false ∧ wr.ownsRow w.heap.size 5 1 v O (nbs (bits6 (s.data.toList.take k))) ∧ Below w.heap.size w wr) (fun _ i _ => s.size - (intOf i).toNat)
    case atStart => exact ⟨0, 0, Nat.zero_le _, rfl, rfl, by rw [List.take_zero]; rfl, by rw [List.take_zero]; exact World.ownsRow_nil _ _ _ _, Below.refl _ _⟩
    case round =>
      obtain ⟨k, O, hk, rfl, hO, hnb, hown, hbw⟩ := hrel
      have hw := hbw.size
      obtain ⟨Av, cv, rfl⟩ := bslice_of_own hown
      have hOb : O ≤ 1200000 := by omega
      have HOE := Lib.hid hO
      clear hO
      by_cases hlt : k < s.size
      · obtain ⟨ch, hck⟩ : ∃ ch, s[k] = ch := ⟨_, rfl⟩
        have HT := Lib.hid (take_snocB (s := s) hlt)
        have HHIT := Lib.hid (bad_hit (s := s) hlt)
        have HST := Lib.hid (bad_step (s := s) hlt hnb)
        rw [hck] at HT HHIT HST
        have HIX := Lib.hid (fun wX => indexD_any ch wX)
        have HOW0 := Lib.hid hown
        have HBW0 := Lib.hid hbw
        clear hown hbw hnb
        cases hbd : badD ch with
        | true =>
          have hneg : ix ch < 0 := of_decide_eq_true hbd
          have HO := Lib.hid (decV_bad (s := s) (e := 8) (HBADE.out (HHIT.out hbd)) (by decide))
          generalize ix ch = y at HIX hneg
          clear hbd
          go_wp2_with fail
          refine (HIX.out _).mono ?_
          rintro e w2 ⟨rfl, rfl⟩
          go_wp2_with fail
          go_ret2
          exact ⟨by rw [HO.out]; rfl, HBW0.out⟩
        | false =>
          obtain ⟨hix, hd64⟩ := good_ix hbd
          have HNB := Lib.hid (HST.out hbd)
          rw [hix] at HIX
          have HN := Lib.hid (show bits6 (s.data.toList.take (k + 1)) = bits6 (s.data.toList.take k) ++ bitsK 6 (dgt ch) by rw [HT.out, bits6_snoc])
          obtain ⟨D, hD⟩ : ∃ D, dgt ch = D := ⟨_, rfl⟩
          rw [hD] at HIX hd64 HN
          have hdn : ¬ (D : Int) < 0 := by omega
          have HK6 := Lib.hid (bitsK6 D)
          obtain ⟨B, hB⟩ : ∃ B, bits6 (s.data.toList.take k) = B := ⟨_, rfl⟩
          rw [hB] at HOW0 HN
          clear hbd hix hD hB
          obtain ⟨b0, hb0⟩ : ∃ b, D / 32 % 2 = b := ⟨_, rfl⟩
          have ha0 : bits .and .i64 ((D : Int) / 32) 1 = (b0 : Int) := bitI_div D 32 b0 hd64 hb0
          have ht0 : b0 < 2 := by rw [← hb0]; omega
          have hu0 := wrapU8 (Q := b0) (by omega)
          obtain ⟨b1, hb1⟩ : ∃ b, D / 16 % 2 = b := ⟨_, rfl⟩
          have ha1 : bits .and .i64 ((D : Int) / 16) 1 = (b1 : Int) := bitI_div D 16 b1 hd64 hb1
          have ht1 : b1 < 2 := by rw [← hb1]; omega
          have hu1 := wrapU8 (Q := b1) (by omega)
          obtain ⟨b2, hb2⟩ : ∃ b, D / 8 % 2 = b := ⟨_, rfl⟩
          have ha2 : bits .and .i64 ((D : Int) / 8) 1 = (b2 : Int) := bitI_div D 8 b2 hd64 hb2
          have ht2 : b2 < 2 := by rw [← hb2]; omega
          have hu2 := wrapU8 (Q := b2) (by omega)
          obtain ⟨b3, hb3⟩ : ∃ b, D / 4 % 2 = b := ⟨_, rfl⟩
          have ha3 : bits .and .i64 ((D : Int) / 4) 1 = (b3 : Int) := bitI_div D 4 b3 hd64 hb3
          have ht3 : b3 < 2 := by rw [← hb3]; omega
          have hu3 := wrapU8 (Q := b3) (by omega)
          obtain ⟨b4, hb4⟩ : ∃ b, D / 2 % 2 = b := ⟨_, rfl⟩
          have ha4 : bits .and .i64 ((D : Int) / 2) 1 = (b4 : Int) := bitI_div D 2 b4 hd64 hb4
          have ht4 : b4 < 2 := by rw [← hb4]; omega
          have hu4 := wrapU8 (Q := b4) (by omega)
          obtain ⟨b5, hb5⟩ : ∃ b, D % 2 = b := ⟨_, rfl⟩
          have ha5 := bitI D (by omega)
          rw [hb5] at ha5
          have ht5 : b5 < 2 := by rw [← hb5]; omega
          have hu5 := wrapU8 (Q := b5) (by omega)
          have HBB := Lib.hid (show bitsK 6 D = [b0, b1, b2, b3, b4, b5] by rw [HK6.out, hb0, hb1, hb2, hb3, hb4, hb5])
          have HB8 := Lib.hid (show nbs (B ++ [b0, b1, b2, b3, b4, b5]) = (((((nbs B ++ [.int .u8 (b0 : Int)]) ++ [.int .u8 (b1 : Int)]) ++ [.int .u8 (b2 : Int)]) ++ [.int .u8 (b3 : Int)]) ++ [.int .u8 (b4 : Int)]) ++ [.int .u8 (b5 : Int)] by simp [nbs])
          clear hb0 hb1 hb2 hb3 hb4 hb5
          go_wp2_with fail
          refine (HIX.out _).mono ?_
          rintro e w2 ⟨rfl, rfl⟩
          go_wp2_with fail
          refine wp_loop_rounds 7 ?_
          have hw0 := hw
          have HNW0 := Lib.hid (World.news_of_block (heap_alloc_new wr (.cells #[.int .u8 (b0 : Int)] 5)))
          rw [rounds_succ]
          go_wp2_with (at_builtin; go_loud (refine wpList_append_lies _ rfl _ _ 43 rfl w.heap.size 5 i0 _ 1 1 Try.underlying43 hin hz0 hz1 hz2 rfl (by decide) (.slice Av O cv) O (nbs B) rfl (HOW0.out.alloc _) ⟨wr.heap.size, 0, none⟩ 1 1 [.int .u8 (b0 : Int)] rfl rfl HNW0.out (by simp [Value.oneCell']) (by omega) (by unfold maxLen; omega) (by omega) (by simp; omega) (wr.heap.size + 1) (by simp) ?_; intro g0 p0 w0 ho0 hg0 hat0 hl0))
          have hbel0 : Below w.heap.size w w0 := (HBW0.out.alloc hw0 _).grown hg0 (by simp; omega) (fun q hq => (HOW0.out.lt q hq).1)
          have hw1 := hbel0.size
          have HOW1 := Lib.hid ho0
          have HBW1 := Lib.hid hbel0
          clear ho0 hg0 hat0 hl0 hbel0 hw0
          have HNW1 := Lib.hid (World.news_of_block (heap_alloc_new w0 (.cells #[.int .u8 (b1 : Int)] 5)))
          rw [rounds_succ]
          go_wp2_with (at_builtin; go_loud (refine wpList_append_lies _ rfl _ _ 43 rfl w.heap.size 5 i0 _ 1 1 Try.underlying43 hin hz0 hz1 hz2 rfl (by decide) (.slice (some ⟨g0, 0, none⟩) (O + 1) p0) (O + 1) (nbs B ++ [.int .u8 (b0 : Int)]) rfl (HOW1.out.alloc _) ⟨w0.heap.size, 0, none⟩ 1 1 [.int .u8 (b1 : Int)] rfl rfl HNW1.out (by simp [Value.oneCell']) (by omega) (by unfold maxLen; omega) (by omega) (by simp; omega) (w0.heap.size + 1) (by simp) ?_; intro g1 p1 w1 ho1 hg1 hat1 hl1))
          have hbel1 : Below w.heap.size w w1 := (HBW1.out.alloc hw1 _).grown hg1 (by simp; omega) (fun q hq => (HOW1.out.lt q hq).1)
          have hw2 := hbel1.size
          have HOW2 := Lib.hid ho1
          have HBW2 := Lib.hid hbel1
          clear ho1 hg1 hat1 hl1 hbel1 hw1
          have HNW2 := Lib.hid (World.news_of_block (heap_alloc_new w1 (.cells #[.int .u8 (b2 : Int)] 5)))
          rw [rounds_succ]
          go_wp2_with (at_builtin; go_loud (refine wpList_append_lies _ rfl _ _ 43 rfl w.heap.size 5 i0 _ 1 1 Try.underlying43 hin hz0 hz1 hz2 rfl (by decide) (.slice (some ⟨g1, 0, none⟩) (O + 2) p1) (O + 2) ((nbs B ++ [.int .u8 (b0 : Int)]) ++ [.int .u8 (b1 : Int)]) rfl (HOW2.out.alloc _) ⟨w1.heap.size, 0, none⟩ 1 1 [.int .u8 (b2 : Int)] rfl rfl HNW2.out (by simp [Value.oneCell']) (by omega) (by unfold maxLen; omega) (by omega) (by simp; omega) (w1.heap.size + 1) (by simp) ?_; intro g2 p2 w2 ho2 hg2 hat2 hl2))
          have hbel2 : Below w.heap.size w w2 := (HBW2.out.alloc hw2 _).grown hg2 (by simp; omega) (fun q hq => (HOW2.out.lt q hq).1)
          have hw3 := hbel2.size
          have HOW3 := Lib.hid ho2
          have HBW3 := Lib.hid hbel2
          clear ho2 hg2 hat2 hl2 hbel2 hw2
          have HNW3 := Lib.hid (World.news_of_block (heap_alloc_new w2 (.cells #[.int .u8 (b3 : Int)] 5)))
          rw [rounds_succ]
          go_wp2_with (at_builtin; go_loud (refine wpList_append_lies _ rfl _ _ 43 rfl w.heap.size 5 i0 _ 1 1 Try.underlying43 hin hz0 hz1 hz2 rfl (by decide) (.slice (some ⟨g2, 0, none⟩) (O + 3) p2) (O + 3) (((nbs B ++ [.int .u8 (b0 : Int)]) ++ [.int .u8 (b1 : Int)]) ++ [.int .u8 (b2 : Int)]) rfl (HOW3.out.alloc _) ⟨w2.heap.size, 0, none⟩ 1 1 [.int .u8 (b3 : Int)] rfl rfl HNW3.out (by simp [Value.oneCell']) (by omega) (by unfold maxLen; omega) (by omega) (by simp; omega) (w2.heap.size + 1) (by simp) ?_; intro g3 p3 w3 ho3 hg3 hat3 hl3))
          have hbel3 : Below w.heap.size w w3 := (HBW3.out.alloc hw3 _).grown hg3 (by simp; omega) (fun q hq => (HOW3.out.lt q hq).1)
          have hw4 := hbel3.size
          have HOW4 := Lib.hid ho3
          have HBW4 := Lib.hid hbel3
          clear ho3 hg3 hat3 hl3 hbel3 hw3
          have HNW4 := Lib.hid (World.news_of_block (heap_alloc_new w3 (.cells #[.int .u8 (b4 : Int)] 5)))
          rw [rounds_succ]
          go_wp2_with (at_builtin; go_loud (refine wpList_append_lies _ rfl _ _ 43 rfl w.heap.size 5 i0 _ 1 1 Try.underlying43 hin hz0 hz1 hz2 rfl (by decide) (.slice (some ⟨g3, 0, none⟩) (O + 4) p3) (O + 4) ((((nbs B ++ [.int .u8 (b0 : Int)]) ++ [.int .u8 (b1 : Int)]) ++ [.int .u8 (b2 : Int)]) ++ [.int .u8 (b3 : Int)]) rfl (HOW4.out.alloc _) ⟨w3.heap.size, 0, none⟩ 1 1 [.int .u8 (b4 : Int)] rfl rfl HNW4.out (by simp [Value.oneCell']) (by omega) (by unfold maxLen; omega) (by omega) (by simp; omega) (w3.heap.size + 1) (by simp) ?_; intro g4 p4 w4 ho4 hg4 hat4 hl4))
          have hbel4 : Below w.heap.size w w4 := (HBW4.out.alloc hw4 _).grown hg4 (by simp; omega) (fun q hq => (HOW4.out.lt q hq).1)
          have hw5 := hbel4.size
          have HOW5 := Lib.hid ho4
          have HBW5 := Lib.hid hbel4
          clear ho4 hg4 hat4 hl4 hbel4 hw4
          have HNW5 := Lib.hid (World.news_of_block (heap_alloc_new w4 (.cells #[.int .u8 (b5 : Int)] 5)))
          rw [rounds_succ]
          go_wp2_with (at_builtin; go_loud (refine wpList_append_lies _ rfl _ _ 43 rfl w.heap.size 5 i0 _ 1 1 Try.underlying43 hin hz0 hz1 hz2 rfl (by decide) (.slice (some ⟨g4, 0, none⟩) (O + 5) p4) (O + 5) (((((nbs B ++ [.int .u8 (b0 : Int)]) ++ [.int .u8 (b1 : Int)]) ++ [.int .u8 (b2 : Int)]) ++ [.int .u8 (b3 : Int)]) ++ [.int .u8 (b4 : Int)]) rfl (HOW5.out.alloc _) ⟨w4.heap.size, 0, none⟩ 1 1 [.int .u8 (b5 : Int)] rfl rfl HNW5.out (by simp [Value.oneCell']) (by omega) (by unfold maxLen; omega) (by omega) (by simp; omega) (w4.heap.size + 1) (by simp) ?_; intro g5 p5 w5 ho5 hg5 hat5 hl5))
          have hbel5 : Below w.heap.size w w5 := (HBW5.out.alloc hw5 _).grown hg5 (by simp; omega) (fun q hq => (HOW5.out.lt q hq).1)
          have hw6 := hbel5.size
          have HOW6 := Lib.hid ho5
          have HBW6 := Lib.hid hbel5
          clear ho5 hg5 hat5 hl5 hbel5 hw5
          rw [rounds_succ]
          go_wp2_with fail
          go_roundw
          case rel => exact ⟨k + 1, O + 6, by omega, by go_num, by have := HOE.out; omega, HNB.out, by rw [HN.out, HBB.out, HB8.out]; exact HOW6.out, HBW6.out⟩
          case measure => simp [intOf]; omega
      · obtain rfl : k = s.size := by omega
        obtain ⟨wo, rfl⟩ : ∃ wo, wo = wr := ⟨_, rfl⟩
        have hall : s.data.toList.take s.size = s.data.toList := List.take_of_length_le (by rw [Array.length_toList]; exact Nat.le_refl _)
        rw [hall] at hown hnb
        have HGD := Lib.hid (HGOOD.out hnb)
        have HOW := Lib.hid hown
        have HBW := Lib.hid hbw
        have HPN := Lib.hid (show (bits6 s.data.toList).length = O by rw [bits6_len, HSL.out, HOE.out])
        have HPB := Lib.hid (bits6_bits s.data.toList)
        have HDL := Lib.hid (show decL s.data.toList = (chs 8 (bits6 s.data.toList)).map UInt8.ofNat from rfl)
        obtain ⟨P, hP⟩ : ∃ P, bits6 s.data.toList = P := ⟨_, rfl⟩
        rw [hP] at HOW HPN HPB HDL HGD
        clear hown hbw hall hnb hP
        by_cases hO0 : O = 0
        · have hs0 : s.size = 0 := by have := HOE.out; omega
          have HP0 := Lib.hid (show P = [] from List.eq_nil_of_length_eq_zero (by rw [HPN.out]; exact hO0))
          have HO := Lib.hid (decV_ok ((HGD.out (by omega)).trans (if_pos (by rw [HP0.out]; rfl))))
          have HD0 := Lib.hid (show decL s.data.toList = [] by rw [HDL.out, HP0.out]; rfl)
          have HCT := Lib.hid (fun wX => containsB_any Av 0 cv [] wX rfl (by decide) (fun x hx => by simp at hx) (fun h => by simp at h))
          have hcv : (convert 43 9 (.slice none 0 0)).run Try.prog wo = .ok (.string ⟨#[]⟩) wo := run_convert_bytes_nil wo 43 5 Try.underlying43 Try.underlying5 0 0 9 Try.underlying9
          subst hO0
          clear hs0
          go_wp2_with fail
          refine wp_loop_rounds 1 ?_
          rw [rounds_succ]
          go_wp2_with fail
          refine (HCT.out _).mono ?_
          rintro e w2 ⟨rfl, rfl⟩
          go_wp2_with fail
          go_ret2
          exact ⟨by rw [HO.out, HD0.out]; rfl, HBW.out⟩
        · obtain ⟨g, hA, hgb, hgl, hgc, hcell⟩ := nbs_at HOW.out HPN.out (by omega)
          subst hA
          have HCELL := Lib.hid hcell
          clear hcell
          go_wp2_with fail
          go_loopw [4, 8] (fun v x wq => ∃ (q Q n1 c1 : Nat) (A1 : Option Addr), v = .slice A1 n1 c1 ∧ Q = 8 * q ∧ n1 + Q = O ∧ n1 ≤ c1 ∧ (0 < n1 → A1 = some ⟨g, Q, none⟩) ∧ wq.ownsRow w.heap.size 5 1 x q (ubs ((outQ 8 P q).map UInt8.ofNat)) ∧ x.ownBlock ≠ some g ∧ wq.heap[g]? = wo.heap[g]? ∧ wo.heap.size ≤ wq.heap.size ∧ Below w.heap.size w wq) (fun v _ _ => (match v with | .slice _ n _ => n | _ => 0))
          case atStart => exact ⟨0, 0, O, cv, _, rfl, rfl, rfl, hgc, fun _ => rfl, World.ownsRow_nil _ _ _ _, by simp [Value.ownBlock], rfl, Nat.le_refl _, HBW.out⟩
          case round =>
            obtain ⟨q, Q, n1, c1, A1, rfl, hQ8, hnQ, hnc, hA1, hown, hne, hkp, hsz, hbq⟩ := hrel
            obtain ⟨wq, rfl⟩ : ∃ wq, wq = wr := ⟨_, rfl⟩
            obtain ⟨Ao, co, rfl⟩ := bslice_of_own hown
            have hqw := hbq.size
            have HOQ := Lib.hid hown
            have HBQ := Lib.hid hbq
            have HNE := Lib.hid hne
            have HKP := Lib.hid hkp
            have HQ8 := Lib.hid hQ8
            have HNQ := Lib.hid hnQ
            have HQC := Lib.hid (fun (t b : Nat) (h : (P.drop Q)[t]? = some b) => show wq.cell? ⟨g, Q + t, none⟩ = some (.int .u8 (b : Int)) by
              rw [List.getElem?_drop] at h
              exact (World.cell?_of_block HKP.out).trans (HCELL.out _ b h))
            have hn1 : n1 ≤ 1200000 := by omega
            have hq1 : q ≤ 150000 := by omega
            clear hown hbq hne hkp hnQ
            by_cases h8 : 8 ≤ n1
            · have hA2 := hA1 (by omega)
              subst hA2
              have HLT := Lib.hid (show Q + 8 ≤ P.length by rw [HPN.out]; have := HNQ.out; omega)
              have HCV := Lib.hid (show chv 8 P q = valB ((P.drop Q).take 8) by unfold chv; rw [hQ8])
              have hc256 := chv_lt (n := 8) HPB.out q
              obtain ⟨Z, hZ⟩ : ∃ Z, chv 8 P q = Z := ⟨_, rfl⟩
              rw [hZ] at HCV hc256
              have hZ256 : Z < 256 := hc256
              have hwu := wrapU8 hZ256
              have HUB := Lib.hid (show ubs [UInt8.ofNat Z] = [.int .u8 (Z : Int)] by unfold ubs; rw [List.map_cons, List.map_nil, ofNat_val hZ256])
              have HN := Lib.hid (show (outQ 8 P (q + 1)).map UInt8.ofNat = (outQ 8 P q).map UInt8.ofNat ++ [UInt8.ofNat Z] by rw [outQ_succ, List.map_append, hZ]; rfl)
              have HNW := Lib.hid (World.news_of_block (heap_alloc_new wq (.cells #[.int .u8 (Z : Int)] 5)))
              have h8i : (8 : Int) ≤ (n1 : Int) := by omega
              have h8c : (8 : Int) ≤ (c1 : Int) := by omega
              clear hZ hQ8 hc256 hA1
              go_wp2_with fail
              go_loopw [9, 45] (fun x jj wt => ∃ t : Nat, t ≤ 8 ∧ jj = .int .i64 t ∧ x = .int .i64 ((valB ((P.drop Q).take t) : Nat) : Int) ∧ wt = wq) (fun _ jj _ => 8 - (intOf jj).toNat)
              case atStart => exact ⟨0, Nat.zero_le _, rfl, rfl, rfl⟩
              case round =>
                obtain ⟨t, ht, rfl, rfl, hwr⟩ := hrel
                subst wr
                by_cases ht8 : t < 8
                · obtain ⟨b, hb⟩ : ∃ b, (P.drop Q)[t]? = some b := ⟨_, List.getElem?_eq_getElem (by rw [List.length_drop]; have := HLT.out; omega)⟩
                  have hcell := HQC.out t b hb
                  have hb2 : b < 2 := (HPB.out.drop Q) b (List.mem_of_getElem? hb)
                  have HTS := Lib.hid (take_step hb)
                  have hv256 : valB ((P.drop Q).take t) < 256 := by
                    have h1 := valB_lt ((HPB.out.drop Q).take t)
                    have h2 : ((P.drop Q).take t).length ≤ t := by rw [List.length_take]; omega
                    exact Nat.lt_of_lt_of_le h1 (Nat.pow_le_pow_right (n := 2) (by decide) (show _ ≤ 8 by omega))
                  obtain ⟨u, hu⟩ : ∃ u, valB ((P.drop Q).take t) = u := ⟨_, rfl⟩
                  rw [hu] at hv256 HTS
                  rw [hu]
                  clear hb hu
                  go_wp2_with fail
                  go_roundw
                  case rel => exact ⟨t + 1, by omega, by go_num, by rw [HTS.out]; first | rfl | go_num, by first | rfl | trivial⟩
                  case measure => simp [intOf]; omega
                · obtain rfl : t = 8 := by omega
                  rw [← HCV.out]
                  go_wp2_with (at_builtin; go_loud (refine wpList_append_lies _ rfl _ _ 43 rfl w.heap.size 5 i0 _ 1 1 Try.underlying43 hin hz0 hz1 hz2 rfl (by decide) (.slice Ao q co) q (ubs ((outQ 8 P q).map UInt8.ofNat)) rfl (HOQ.out.alloc _) ⟨wq.heap.size, 0, none⟩ 1 1 [.int .u8 (Z : Int)] rfl rfl HNW.out (by simp [Value.oneCell']) (by omega) (by unfold maxLen; omega) (by omega) (by simp; omega) (wq.heap.size + 1) (by simp) ?_; intro gg cap2 w7 hown7 hgrow7 hat7 hlt7))
                  have hb7 : Below w.heap.size w w7 := (HBQ.out.alloc hqw _).grown hgrow7 (by simp; omega) (fun q hq => (HOQ.out.lt q hq).1)
                  go_roundw
                  case rel =>
                    refine ⟨q + 1, Q + 8, n1 - 8, c1 - 8, _, rfl, by have := HQ8.out; omega, by have := HNQ.out; omega, by omega, fun h9 => if_neg (by omega), by rw [HN.out, ubs_app, HUB.out]; exact hown7, ?_, ?_, ?_, hb7⟩
                    · intro e
                      have e2 : gg = g := by simpa [Value.ownBlock] using e
                      rcases hat7 with h | h
                      · exact HNE.out (by rw [h, e2])
                      · omega
                    · exact (hgrow7.block g (by simp; omega) (fun e => HNE.out e.symm)).trans ((Below.heap_alloc _ _ _ (by omega)).trans HKP.out)
                    · have := hgrow7.size; simp at this; omega
                  case measure => simp; omega
            · have hn8 : n1 < 8 := by omega
              have hqO : P.length / 8 = q := by rw [HPN.out]; have := HNQ.out; omega
              have HRS := Lib.hid (show rst 8 P = P.drop Q by unfold rst; rw [hqO, hQ8])
              have HALL := Lib.hid (show (outQ 8 P q).map UInt8.ofNat = decL s.data.toList by rw [outQ_all 8 P q hqO, HDL.out])
              have hoe := HOE.out
              have hnq := HNQ.out
              by_cases h6 : 6 ≤ n1
              · have h4 : s.size % 4 = 1 := by omega
                have HO := Lib.hid (decV_bad (s := s) (e := 8) (HONE.out h4) (by decide))
                have h6i : (6 : Int) ≤ (n1 : Int) := by omega
                have h8i : ¬ (8 : Int) ≤ (n1 : Int) := by omega
                clear hoe hnq h4 hQ8 hqO hA1
                go_wp2_with fail
                go_ret2
                exact ⟨by rw [HO.out]; rfl, HBQ.out⟩
              · have h4 : s.size % 4 ≠ 1 := by omega
                have h6i : ¬ (6 : Int) ≤ (n1 : Int) := by omega
                have h8i : ¬ (8 : Int) ≤ (n1 : Int) := by omega
                have HGV := Lib.hid (HGD.out h4)
                have hdl : (P.drop Q).length = n1 := by rw [List.length_drop, HPN.out]; omega
                have HCT := Lib.hid (containsB_any A1 n1 c1 (P.drop Q) wq hdl hn8 (HPB.out.drop Q) (fun h0 => ⟨g, Q, hA1 (by rw [hdl] at h0; exact h0), fun j b hj => HQC.out j b hj⟩))
                have HVZ := Lib.hid (valB_zero (HPB.out.drop Q))
                have hcv := conv_own HOQ.out (by rw [List.length_map, outQ_len])
                clear hoe hnq h4 hQ8 hqO hA1 hdl
                by_cases hm : 1 ∈ P.drop Q
                · have HO := Lib.hid (decV_bad (s := s) (e := 8) (HGV.out.trans (if_neg (by rw [HRS.out]; exact fun h => (HVZ.out.1 h) hm))) (by decide))
                  have hd : decide (1 ∈ P.drop Q) = true := decide_eq_true hm
                  rw [hd] at HCT
                  clear hm hd hcv
                  go_wp2_with fail
                  refine HCT.out.mono ?_
                  rintro e w2 ⟨rfl, rfl⟩
                  go_wp2_with fail
                  go_ret2
                  exact ⟨by rw [HO.out]; rfl, HBQ.out⟩
                · have HO := Lib.hid (decV_ok (HGV.out.trans (if_pos (by rw [HRS.out]; exact HVZ.out.2 hm))))
                  have hd : decide (1 ∈ P.drop Q) = false := decide_eq_false hm
                  rw [hd] at HCT
                  clear hm hd
                  go_wp2_with fail
                  refine HCT.out.mono ?_
                  rintro e w2 ⟨rfl, rfl⟩
                  go_wp2_with fail
                  go_ret2
                  exact ⟨by rw [HO.out, ← HALL.out]; rfl, HBQ.out⟩
end Go.Proofs.Ytlifjhglpflplaa
