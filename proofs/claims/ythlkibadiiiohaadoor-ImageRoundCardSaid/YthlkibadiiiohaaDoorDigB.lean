/- DERIVED. asset.state.String. Condition: a state of numbers of 32 bits. -/
import Derived.Test.YthlkibadiiiohaaDoorDigA
import Derived.Test.YthlkibadiiiohaaDoorCodesP
namespace Go.Proofs.YthlkibadiiiohaaDoor
open Go.RowKit
set_option linter.unusedVariables false
set_option linter.unusedSimpArgs false
def dig16 (k : Nat) : UInt8 := ([48, 49, 50, 51, 52, 53, 54, 55, 56, 57, 97, 98, 99, 100, 101, 102] : List UInt8).getD k 0
theorem dig16_at : ∀ k (h : k < 16), (ByteArray.mk #[48, 49, 50, 51, 52, 53, 54, 55, 56, 57, 97, 98, 99, 100, 101, 102])[k]'(Nat.lt_of_lt_of_le h (by decide)) = dig16 k := by decide +kernel
def hdig (n j : Nat) : UInt8 := dig16 (n / 2 ^ (28 - 4 * j) % 16)
def hexP (n j : Nat) : List UInt8 := (List.range j).map (hdig n)
theorem hexP_succ (n j : Nat) : hexP n (j + 1) = hexP n j ++ [hdig n j] := by unfold hexP; rw [List.range_succ, List.map_append]; rfl
theorem hexP_len (n j : Nat) : (hexP n j).length = j := by unfold hexP; simp
def hexA : List Nat → List UInt8
  | [] => []
  | n :: r => hexP n 8 ++ hexA r
theorem hexA_snoc (l : List Nat) (n : Nat) : hexA (l ++ [n]) = hexA l ++ hexP n 8 := by
  induction l with
  | nil => simp [hexA]
  | cons m r ih => rw [List.cons_append, hexA, ih, hexA, List.append_assoc]
theorem wraps32 (n : Int) (h0 : 0 ≤ n) (h1 : n < 2 ^ 32) : IntKind.u32.wrap n = n := by rw [IntKind.wrap_u32]; omega
theorem and15u {X : Nat} (hX : X < 4294967296) : bits .and .u32 (X : Int) 15 = ((X % 16 : Nat) : Int) := by
  have h := bits_mask .u32 32 (by decide) wraps32 4 (by decide) (X : Int) (Int.natCast_nonneg _) (by exact_mod_cast hX)
  have h2 : bits .and .u32 (X : Int) (2 ^ 4 - 1) = (X : Int) % 2 ^ 4 := h
  rw [show (15 : Int) = 2 ^ 4 - 1 by decide, h2]
  simp
def stV (a b c d : Nat) : Value := .agg #[.int .u32 (a : Int), .int .u32 (b : Int), .int .u32 (c : Int), .int .u32 (d : Int)]
theorem at_st (a b c d : Value) (wx : World) : (Instr.index 45 (.agg #[a, b, c, d]) (.int .i64 0)).run Tryd.prog wx = .ok a wx ∧ (Instr.index 45 (.agg #[a, b, c, d]) (.int .i64 1)).run Tryd.prog wx = .ok b wx ∧
    (Instr.index 45 (.agg #[a, b, c, d]) (.int .i64 2)).run Tryd.prog wx = .ok c wx ∧ (Instr.index 45 (.agg #[a, b, c, d]) (.int .i64 3)).run Tryd.prog wx = .ok d wx := by
  have hu := Tryd.underlying45
  obtain ⟨i0, hin, hz⟩ : ∃ i0, Tryd.prog.info? 43 = some i0 ∧ i0.size = 1 := by
    have h : (Tryd.prog.info? 43).map (·.size) = some 1 := by kernel_rfl
    obtain ⟨i0, h1, h2⟩ := Option.map_eq_some_iff.1 h
    exact ⟨i0, h1, h2⟩
  have hu2 := Tryd.underlying43
  refine ⟨?_, ?_, ?_, ?_⟩ <;> simp [Instr.index, run_underlying hu, run_underlying hu2, asIntOf, part, sizeOf, typeInfo, hin, hz, go_sem]
set_option maxRecDepth 100000 in
set_option maxHeartbeats 8000000 in
theorem str_any (a b c d : Nat) (ha : a < 4294967296) (hb : b < 4294967296) (hc : c < 4294967296) (hd : d < 4294967296) (w : World) : Calls Tryd.prog 21 #[stV a b c d] w fun e w' => e = .returned (.string ⟨(hexA [a, b, c, d]).toArray⟩) ∧ Below w.heap.size w w' := by
  obtain ⟨i0, hin, hz0, hz1, hz2⟩ := info_parts byteInfo
  have hw0 : Below w.heap.size w (w.alloc (.cells #[.int .u32 (a : Int), .int .u32 (b : Int), .int .u32 (c : Int), .int .u32 (d : Int)] 45)) := (Below.refl _ _).alloc (Nat.le_refl _) _
  have H0 := Lib.hid hw0
  clear hw0
  unfold stV
  go_enter Tryd.func21, Tryd.ntmps21
  go_wp2_with fail
  go_loopw [3, 8] (fun v i wr => ∃ (k O : Nat) (L : List UInt8) (x : Int), k ≤ 4 ∧ i = .int .i64 x ∧ x = (k : Int) ∧ O = 8 * k ∧ L.length = O ∧ L = hexA ([a, b, c, d].take k) ∧ wr.ownsRow w.heap.size 5 1 v O (ubs L) ∧ Below w.heap.size w wr) (fun _ i _ => 4 - (intOf i).toNat)
  case atStart => exact ⟨0, 0, [], 0, Nat.zero_le _, rfl, rfl, rfl, rfl, rfl, World.ownsRow_nil _ _ _ _, H0.out⟩
  case round =>
    obtain ⟨k, O, L, x, hk, rfl, hx, hO8, hL, hLe, hown, hbw⟩ := hrel
    obtain ⟨Av, cv, rfl⟩ := bslice_of_own hown
    have HLE := Lib.hid hLe
    have HLL := Lib.hid hL
    have HOW := Lib.hid hown
    have HBW := Lib.hid hbw
    clear hLe hL hown hbw
    have hOb : O ≤ 32 := by omega
    have HO8 := Lib.hid hO8
    clear hO8
    have h5 : k = 0 ∨ k = 1 ∨ k = 2 ∨ k = 3 ∨ k = 4 := by omega
    obtain ⟨wo, hwo⟩ : ∃ wo, wo = wr := ⟨_, rfl⟩
    rcases h5 with rfl | rfl | rfl | rfl | rfl
    · subst hwo
      obtain rfl : x = 0 := by omega
      clear hx
      have hix := fun wx => (at_st (.int .u32 (a : Int)) (.int .u32 (b : Int)) (.int .u32 (c : Int)) (.int .u32 (d : Int)) wx).1
      go_wp2_with fail
      go_loopw [3, 6] (fun v z wr => ∃ (j O2 : Nat) (M : List UInt8) (y : Int), j ≤ 8 ∧ z = .int .i64 y ∧ y = 28 - 4 * (j : Int) ∧ O2 = O + j ∧ M.length = O2 ∧ M = L ++ hexP a j ∧ wr.ownsRow w.heap.size 5 1 v O2 (ubs M) ∧ Below w.heap.size w wr) (fun _ z _ => (intOf z + 4).toNat)
      case atStart => exact ⟨0, O, L, 28, Nat.zero_le _, rfl, rfl, rfl, HLL.out, by simp [hexP], HOW.out, HBW.out⟩
      case round =>
        obtain ⟨j, O2, M, y, hj, rfl, hy, hO2, hM, hMe, hown2, hbw2⟩ := hrel
        have hw := hbw2.size
        obtain ⟨Av2, cv2, rfl⟩ := bslice_of_own hown2
        have HO2 := Lib.hid hown2
        have HB2 := Lib.hid hbw2
        have HM := Lib.hid hM
        have HME := Lib.hid hMe
        clear hown2 hbw2 hM hMe
        have hOb2 : O2 ≤ 40 := by omega
        have HOJ := Lib.hid hO2
        clear hO2
        have h9 : j = 0 ∨ j = 1 ∨ j = 2 ∨ j = 3 ∨ j = 4 ∨ j = 5 ∨ j = 6 ∨ j = 7 ∨ j = 8 := by omega
        rcases h9 with rfl | rfl | rfl | rfl | rfl | rfl | rfl | rfl | rfl
        · obtain rfl : y = 28 := by omega
          clear hy
          obtain ⟨Y, hY⟩ : ∃ Y, a / 268435456 = Y := ⟨_, rfl⟩
          have hdv : (a : Int) / 268435456 = (Y : Int) := by omega
          have hY2 : Y < 4294967296 := by omega
          have hand := and15u hY2
          obtain ⟨Q, hQ⟩ : ∃ Q, Y % 16 = Q := ⟨_, rfl⟩
          rw [hQ] at hand
          have hQ16 : Q < 16 := by omega
          have hdg := dig16_at Q hQ16
          have HD := Lib.hid (show hdig a 0 = dig16 Q by rw [← hQ, ← hY]; rfl)
          obtain ⟨dd, hdd⟩ : ∃ dd, dig16 Q = dd := ⟨_, rfl⟩
          rw [hdd] at hdg HD
          have HNW := Lib.hid (World.news_of_block (heap_alloc_new wr (.cells #[.int .u8 (dd.toNat : Int)] 5)))
          have HN := Lib.hid (show M ++ [dd] = L ++ hexP a (0 + 1) by rw [hexP_succ, HD.out, HME.out, List.append_assoc])
          clear hQ hY hdd
          go_wp2_with (at_builtin; go_loud (refine wpList_append_lies _ rfl _ _ 50 rfl w.heap.size 5 i0 _ 1 1 Tryd.underlying50 hin hz0 hz1 hz2 rfl (by decide) (.slice Av2 O2 cv2) O2 (ubs M) rfl (HO2.out.alloc _) ⟨wr.heap.size, 0, none⟩ 1 1 [.int .u8 (dd.toNat : Int)] rfl rfl HNW.out (by simp [Value.oneCell']) (by omega) (by unfold maxLen; omega) (by omega) (by simp; omega) (wr.heap.size + 1) (by simp) ?_; intro gg cap2 w7 hown7 hgrow7 hat7 hlt7))
          have hb7 : Below w.heap.size w w7 := (HB2.out.alloc hw _).grown hgrow7 (by simp; omega) (fun q hq => (HO2.out.lt q hq).1)
          go_roundw
          case rel => exact ⟨0 + 1, O2 + 1, M ++ [dd], _, by omega, rfl, by omega, by have := HOJ.out; omega, by rw [List.length_append, HM.out]; rfl, HN.out, by rw [ubs_app]; exact hown7, hb7⟩
          case measure => simp [intOf]
        · obtain rfl : y = 24 := by omega
          clear hy
          obtain ⟨Y, hY⟩ : ∃ Y, a / 16777216 = Y := ⟨_, rfl⟩
          have hdv : (a : Int) / 16777216 = (Y : Int) := by omega
          have hY2 : Y < 4294967296 := by omega
          have hand := and15u hY2
          obtain ⟨Q, hQ⟩ : ∃ Q, Y % 16 = Q := ⟨_, rfl⟩
          rw [hQ] at hand
          have hQ16 : Q < 16 := by omega
          have hdg := dig16_at Q hQ16
          have HD := Lib.hid (show hdig a 1 = dig16 Q by rw [← hQ, ← hY]; rfl)
          obtain ⟨dd, hdd⟩ : ∃ dd, dig16 Q = dd := ⟨_, rfl⟩
          rw [hdd] at hdg HD
          have HNW := Lib.hid (World.news_of_block (heap_alloc_new wr (.cells #[.int .u8 (dd.toNat : Int)] 5)))
          have HN := Lib.hid (show M ++ [dd] = L ++ hexP a (1 + 1) by rw [hexP_succ, HD.out, HME.out, List.append_assoc])
          clear hQ hY hdd
          go_wp2_with (at_builtin; go_loud (refine wpList_append_lies _ rfl _ _ 50 rfl w.heap.size 5 i0 _ 1 1 Tryd.underlying50 hin hz0 hz1 hz2 rfl (by decide) (.slice Av2 O2 cv2) O2 (ubs M) rfl (HO2.out.alloc _) ⟨wr.heap.size, 0, none⟩ 1 1 [.int .u8 (dd.toNat : Int)] rfl rfl HNW.out (by simp [Value.oneCell']) (by omega) (by unfold maxLen; omega) (by omega) (by simp; omega) (wr.heap.size + 1) (by simp) ?_; intro gg cap2 w7 hown7 hgrow7 hat7 hlt7))
          have hb7 : Below w.heap.size w w7 := (HB2.out.alloc hw _).grown hgrow7 (by simp; omega) (fun q hq => (HO2.out.lt q hq).1)
          go_roundw
          case rel => exact ⟨1 + 1, O2 + 1, M ++ [dd], _, by omega, rfl, by omega, by have := HOJ.out; omega, by rw [List.length_append, HM.out]; rfl, HN.out, by rw [ubs_app]; exact hown7, hb7⟩
          case measure => simp [intOf]
        · obtain rfl : y = 20 := by omega
          clear hy
          obtain ⟨Y, hY⟩ : ∃ Y, a / 1048576 = Y := ⟨_, rfl⟩
          have hdv : (a : Int) / 1048576 = (Y : Int) := by omega
          have hY2 : Y < 4294967296 := by omega
          have hand := and15u hY2
          obtain ⟨Q, hQ⟩ : ∃ Q, Y % 16 = Q := ⟨_, rfl⟩
          rw [hQ] at hand
          have hQ16 : Q < 16 := by omega
          have hdg := dig16_at Q hQ16
          have HD := Lib.hid (show hdig a 2 = dig16 Q by rw [← hQ, ← hY]; rfl)
          obtain ⟨dd, hdd⟩ : ∃ dd, dig16 Q = dd := ⟨_, rfl⟩
          rw [hdd] at hdg HD
          have HNW := Lib.hid (World.news_of_block (heap_alloc_new wr (.cells #[.int .u8 (dd.toNat : Int)] 5)))
          have HN := Lib.hid (show M ++ [dd] = L ++ hexP a (2 + 1) by rw [hexP_succ, HD.out, HME.out, List.append_assoc])
          clear hQ hY hdd
          go_wp2_with (at_builtin; go_loud (refine wpList_append_lies _ rfl _ _ 50 rfl w.heap.size 5 i0 _ 1 1 Tryd.underlying50 hin hz0 hz1 hz2 rfl (by decide) (.slice Av2 O2 cv2) O2 (ubs M) rfl (HO2.out.alloc _) ⟨wr.heap.size, 0, none⟩ 1 1 [.int .u8 (dd.toNat : Int)] rfl rfl HNW.out (by simp [Value.oneCell']) (by omega) (by unfold maxLen; omega) (by omega) (by simp; omega) (wr.heap.size + 1) (by simp) ?_; intro gg cap2 w7 hown7 hgrow7 hat7 hlt7))
          have hb7 : Below w.heap.size w w7 := (HB2.out.alloc hw _).grown hgrow7 (by simp; omega) (fun q hq => (HO2.out.lt q hq).1)
          go_roundw
          case rel => exact ⟨2 + 1, O2 + 1, M ++ [dd], _, by omega, rfl, by omega, by have := HOJ.out; omega, by rw [List.length_append, HM.out]; rfl, HN.out, by rw [ubs_app]; exact hown7, hb7⟩
          case measure => simp [intOf]
        · obtain rfl : y = 16 := by omega
          clear hy
          obtain ⟨Y, hY⟩ : ∃ Y, a / 65536 = Y := ⟨_, rfl⟩
          have hdv : (a : Int) / 65536 = (Y : Int) := by omega
          have hY2 : Y < 4294967296 := by omega
          have hand := and15u hY2
          obtain ⟨Q, hQ⟩ : ∃ Q, Y % 16 = Q := ⟨_, rfl⟩
          rw [hQ] at hand
          have hQ16 : Q < 16 := by omega
          have hdg := dig16_at Q hQ16
          have HD := Lib.hid (show hdig a 3 = dig16 Q by rw [← hQ, ← hY]; rfl)
          obtain ⟨dd, hdd⟩ : ∃ dd, dig16 Q = dd := ⟨_, rfl⟩
          rw [hdd] at hdg HD
          have HNW := Lib.hid (World.news_of_block (heap_alloc_new wr (.cells #[.int .u8 (dd.toNat : Int)] 5)))
          have HN := Lib.hid (show M ++ [dd] = L ++ hexP a (3 + 1) by rw [hexP_succ, HD.out, HME.out, List.append_assoc])
          clear hQ hY hdd
          go_wp2_with (at_builtin; go_loud (refine wpList_append_lies _ rfl _ _ 50 rfl w.heap.size 5 i0 _ 1 1 Tryd.underlying50 hin hz0 hz1 hz2 rfl (by decide) (.slice Av2 O2 cv2) O2 (ubs M) rfl (HO2.out.alloc _) ⟨wr.heap.size, 0, none⟩ 1 1 [.int .u8 (dd.toNat : Int)] rfl rfl HNW.out (by simp [Value.oneCell']) (by omega) (by unfold maxLen; omega) (by omega) (by simp; omega) (wr.heap.size + 1) (by simp) ?_; intro gg cap2 w7 hown7 hgrow7 hat7 hlt7))
          have hb7 : Below w.heap.size w w7 := (HB2.out.alloc hw _).grown hgrow7 (by simp; omega) (fun q hq => (HO2.out.lt q hq).1)
          go_roundw
          case rel => exact ⟨3 + 1, O2 + 1, M ++ [dd], _, by omega, rfl, by omega, by have := HOJ.out; omega, by rw [List.length_append, HM.out]; rfl, HN.out, by rw [ubs_app]; exact hown7, hb7⟩
          case measure => simp [intOf]
        · obtain rfl : y = 12 := by omega
          clear hy
          obtain ⟨Y, hY⟩ : ∃ Y, a / 4096 = Y := ⟨_, rfl⟩
          have hdv : (a : Int) / 4096 = (Y : Int) := by omega
          have hY2 : Y < 4294967296 := by omega
          have hand := and15u hY2
          obtain ⟨Q, hQ⟩ : ∃ Q, Y % 16 = Q := ⟨_, rfl⟩
          rw [hQ] at hand
          have hQ16 : Q < 16 := by omega
          have hdg := dig16_at Q hQ16
          have HD := Lib.hid (show hdig a 4 = dig16 Q by rw [← hQ, ← hY]; rfl)
          obtain ⟨dd, hdd⟩ : ∃ dd, dig16 Q = dd := ⟨_, rfl⟩
          rw [hdd] at hdg HD
          have HNW := Lib.hid (World.news_of_block (heap_alloc_new wr (.cells #[.int .u8 (dd.toNat : Int)] 5)))
          have HN := Lib.hid (show M ++ [dd] = L ++ hexP a (4 + 1) by rw [hexP_succ, HD.out, HME.out, List.append_assoc])
          clear hQ hY hdd
          go_wp2_with (at_builtin; go_loud (refine wpList_append_lies _ rfl _ _ 50 rfl w.heap.size 5 i0 _ 1 1 Tryd.underlying50 hin hz0 hz1 hz2 rfl (by decide) (.slice Av2 O2 cv2) O2 (ubs M) rfl (HO2.out.alloc _) ⟨wr.heap.size, 0, none⟩ 1 1 [.int .u8 (dd.toNat : Int)] rfl rfl HNW.out (by simp [Value.oneCell']) (by omega) (by unfold maxLen; omega) (by omega) (by simp; omega) (wr.heap.size + 1) (by simp) ?_; intro gg cap2 w7 hown7 hgrow7 hat7 hlt7))
          have hb7 : Below w.heap.size w w7 := (HB2.out.alloc hw _).grown hgrow7 (by simp; omega) (fun q hq => (HO2.out.lt q hq).1)
          go_roundw
          case rel => exact ⟨4 + 1, O2 + 1, M ++ [dd], _, by omega, rfl, by omega, by have := HOJ.out; omega, by rw [List.length_append, HM.out]; rfl, HN.out, by rw [ubs_app]; exact hown7, hb7⟩
          case measure => simp [intOf]
        · obtain rfl : y = 8 := by omega
          clear hy
          obtain ⟨Y, hY⟩ : ∃ Y, a / 256 = Y := ⟨_, rfl⟩
          have hdv : (a : Int) / 256 = (Y : Int) := by omega
          have hY2 : Y < 4294967296 := by omega
          have hand := and15u hY2
          obtain ⟨Q, hQ⟩ : ∃ Q, Y % 16 = Q := ⟨_, rfl⟩
          rw [hQ] at hand
          have hQ16 : Q < 16 := by omega
          have hdg := dig16_at Q hQ16
          have HD := Lib.hid (show hdig a 5 = dig16 Q by rw [← hQ, ← hY]; rfl)
          obtain ⟨dd, hdd⟩ : ∃ dd, dig16 Q = dd := ⟨_, rfl⟩
          rw [hdd] at hdg HD
          have HNW := Lib.hid (World.news_of_block (heap_alloc_new wr (.cells #[.int .u8 (dd.toNat : Int)] 5)))
          have HN := Lib.hid (show M ++ [dd] = L ++ hexP a (5 + 1) by rw [hexP_succ, HD.out, HME.out, List.append_assoc])
          clear hQ hY hdd
          go_wp2_with (at_builtin; go_loud (refine wpList_append_lies _ rfl _ _ 50 rfl w.heap.size 5 i0 _ 1 1 Tryd.underlying50 hin hz0 hz1 hz2 rfl (by decide) (.slice Av2 O2 cv2) O2 (ubs M) rfl (HO2.out.alloc _) ⟨wr.heap.size, 0, none⟩ 1 1 [.int .u8 (dd.toNat : Int)] rfl rfl HNW.out (by simp [Value.oneCell']) (by omega) (by unfold maxLen; omega) (by omega) (by simp; omega) (wr.heap.size + 1) (by simp) ?_; intro gg cap2 w7 hown7 hgrow7 hat7 hlt7))
          have hb7 : Below w.heap.size w w7 := (HB2.out.alloc hw _).grown hgrow7 (by simp; omega) (fun q hq => (HO2.out.lt q hq).1)
          go_roundw
          case rel => exact ⟨5 + 1, O2 + 1, M ++ [dd], _, by omega, rfl, by omega, by have := HOJ.out; omega, by rw [List.length_append, HM.out]; rfl, HN.out, by rw [ubs_app]; exact hown7, hb7⟩
          case measure => simp [intOf]
        · obtain rfl : y = 4 := by omega
          clear hy
          obtain ⟨Y, hY⟩ : ∃ Y, a / 16 = Y := ⟨_, rfl⟩
          have hdv : (a : Int) / 16 = (Y : Int) := by omega
          have hY2 : Y < 4294967296 := by omega
          have hand := and15u hY2
          obtain ⟨Q, hQ⟩ : ∃ Q, Y % 16 = Q := ⟨_, rfl⟩
          rw [hQ] at hand
          have hQ16 : Q < 16 := by omega
          have hdg := dig16_at Q hQ16
          have HD := Lib.hid (show hdig a 6 = dig16 Q by rw [← hQ, ← hY]; rfl)
          obtain ⟨dd, hdd⟩ : ∃ dd, dig16 Q = dd := ⟨_, rfl⟩
          rw [hdd] at hdg HD
          have HNW := Lib.hid (World.news_of_block (heap_alloc_new wr (.cells #[.int .u8 (dd.toNat : Int)] 5)))
          have HN := Lib.hid (show M ++ [dd] = L ++ hexP a (6 + 1) by rw [hexP_succ, HD.out, HME.out, List.append_assoc])
          clear hQ hY hdd
          go_wp2_with (at_builtin; go_loud (refine wpList_append_lies _ rfl _ _ 50 rfl w.heap.size 5 i0 _ 1 1 Tryd.underlying50 hin hz0 hz1 hz2 rfl (by decide) (.slice Av2 O2 cv2) O2 (ubs M) rfl (HO2.out.alloc _) ⟨wr.heap.size, 0, none⟩ 1 1 [.int .u8 (dd.toNat : Int)] rfl rfl HNW.out (by simp [Value.oneCell']) (by omega) (by unfold maxLen; omega) (by omega) (by simp; omega) (wr.heap.size + 1) (by simp) ?_; intro gg cap2 w7 hown7 hgrow7 hat7 hlt7))
          have hb7 : Below w.heap.size w w7 := (HB2.out.alloc hw _).grown hgrow7 (by simp; omega) (fun q hq => (HO2.out.lt q hq).1)
          go_roundw
          case rel => exact ⟨6 + 1, O2 + 1, M ++ [dd], _, by omega, rfl, by omega, by have := HOJ.out; omega, by rw [List.length_append, HM.out]; rfl, HN.out, by rw [ubs_app]; exact hown7, hb7⟩
          case measure => simp [intOf]
        · obtain rfl : y = 0 := by omega
          clear hy
          obtain ⟨Y, hY⟩ : ∃ Y, a / 1 = Y := ⟨_, rfl⟩
          have hdv : (a : Int) / 1 = (Y : Int) := by omega
          have hY2 : Y < 4294967296 := by omega
          have hand := and15u hY2
          obtain ⟨Q, hQ⟩ : ∃ Q, Y % 16 = Q := ⟨_, rfl⟩
          rw [hQ] at hand
          have hQ16 : Q < 16 := by omega
          have hdg := dig16_at Q hQ16
          have HD := Lib.hid (show hdig a 7 = dig16 Q by rw [← hQ, ← hY]; rfl)
          obtain ⟨dd, hdd⟩ : ∃ dd, dig16 Q = dd := ⟨_, rfl⟩
          rw [hdd] at hdg HD
          have HNW := Lib.hid (World.news_of_block (heap_alloc_new wr (.cells #[.int .u8 (dd.toNat : Int)] 5)))
          have HN := Lib.hid (show M ++ [dd] = L ++ hexP a (7 + 1) by rw [hexP_succ, HD.out, HME.out, List.append_assoc])
          clear hQ hY hdd
          go_wp2_with (at_builtin; go_loud (refine wpList_append_lies _ rfl _ _ 50 rfl w.heap.size 5 i0 _ 1 1 Tryd.underlying50 hin hz0 hz1 hz2 rfl (by decide) (.slice Av2 O2 cv2) O2 (ubs M) rfl (HO2.out.alloc _) ⟨wr.heap.size, 0, none⟩ 1 1 [.int .u8 (dd.toNat : Int)] rfl rfl HNW.out (by simp [Value.oneCell']) (by omega) (by unfold maxLen; omega) (by omega) (by simp; omega) (wr.heap.size + 1) (by simp) ?_; intro gg cap2 w7 hown7 hgrow7 hat7 hlt7))
          have hb7 : Below w.heap.size w w7 := (HB2.out.alloc hw _).grown hgrow7 (by simp; omega) (fun q hq => (HO2.out.lt q hq).1)
          go_roundw
          case rel => exact ⟨7 + 1, O2 + 1, M ++ [dd], _, by omega, rfl, by omega, by have := HOJ.out; omega, by rw [List.length_append, HM.out]; rfl, HN.out, by rw [ubs_app]; exact hown7, hb7⟩
          case measure => simp [intOf]
        · obtain rfl : y = -4 := by omega
          clear hy
          have HT := Lib.hid (show M = hexA ([a, b, c, d].take (0 + 1)) by rw [HME.out, HLE.out]; show _ = hexA ([a, b, c, d].take 0 ++ [a]); rw [hexA_snoc])
          go_wp2_with fail
          go_roundw
          case rel => exact ⟨0 + 1, O2, M, _, by omega, rfl, by omega, by have := HOJ.out; have := HO8.out; omega, HM.out, HT.out, HO2.out, HB2.out⟩
          case measure => simp [intOf]
    · subst hwo
      obtain rfl : x = 1 := by omega
      clear hx
      have hix := fun wx => (at_st (.int .u32 (a : Int)) (.int .u32 (b : Int)) (.int .u32 (c : Int)) (.int .u32 (d : Int)) wx).2.1
      go_wp2_with fail
      go_loopw [3, 6] (fun v z wr => ∃ (j O2 : Nat) (M : List UInt8) (y : Int), j ≤ 8 ∧ z = .int .i64 y ∧ y = 28 - 4 * (j : Int) ∧ O2 = O + j ∧ M.length = O2 ∧ M = L ++ hexP b j ∧ wr.ownsRow w.heap.size 5 1 v O2 (ubs M) ∧ Below w.heap.size w wr) (fun _ z _ => (intOf z + 4).toNat)
      case atStart => exact ⟨0, O, L, 28, Nat.zero_le _, rfl, rfl, rfl, HLL.out, by simp [hexP], HOW.out, HBW.out⟩
      case round =>
        obtain ⟨j, O2, M, y, hj, rfl, hy, hO2, hM, hMe, hown2, hbw2⟩ := hrel
        have hw := hbw2.size
        obtain ⟨Av2, cv2, rfl⟩ := bslice_of_own hown2
        have HO2 := Lib.hid hown2
        have HB2 := Lib.hid hbw2
        have HM := Lib.hid hM
        have HME := Lib.hid hMe
        clear hown2 hbw2 hM hMe
        have hOb2 : O2 ≤ 40 := by omega
        have HOJ := Lib.hid hO2
        clear hO2
        have h9 : j = 0 ∨ j = 1 ∨ j = 2 ∨ j = 3 ∨ j = 4 ∨ j = 5 ∨ j = 6 ∨ j = 7 ∨ j = 8 := by omega
        rcases h9 with rfl | rfl | rfl | rfl | rfl | rfl | rfl | rfl | rfl
        · obtain rfl : y = 28 := by omega
          clear hy
          obtain ⟨Y, hY⟩ : ∃ Y, b / 268435456 = Y := ⟨_, rfl⟩
          have hdv : (b : Int) / 268435456 = (Y : Int) := by omega
          have hY2 : Y < 4294967296 := by omega
          have hand := and15u hY2
          obtain ⟨Q, hQ⟩ : ∃ Q, Y % 16 = Q := ⟨_, rfl⟩
          rw [hQ] at hand
          have hQ16 : Q < 16 := by omega
          have hdg := dig16_at Q hQ16
          have HD := Lib.hid (show hdig b 0 = dig16 Q by rw [← hQ, ← hY]; rfl)
          obtain ⟨dd, hdd⟩ : ∃ dd, dig16 Q = dd := ⟨_, rfl⟩
          rw [hdd] at hdg HD
          have HNW := Lib.hid (World.news_of_block (heap_alloc_new wr (.cells #[.int .u8 (dd.toNat : Int)] 5)))
          have HN := Lib.hid (show M ++ [dd] = L ++ hexP b (0 + 1) by rw [hexP_succ, HD.out, HME.out, List.append_assoc])
          clear hQ hY hdd
          go_wp2_with (at_builtin; go_loud (refine wpList_append_lies _ rfl _ _ 50 rfl w.heap.size 5 i0 _ 1 1 Tryd.underlying50 hin hz0 hz1 hz2 rfl (by decide) (.slice Av2 O2 cv2) O2 (ubs M) rfl (HO2.out.alloc _) ⟨wr.heap.size, 0, none⟩ 1 1 [.int .u8 (dd.toNat : Int)] rfl rfl HNW.out (by simp [Value.oneCell']) (by omega) (by unfold maxLen; omega) (by omega) (by simp; omega) (wr.heap.size + 1) (by simp) ?_; intro gg cap2 w7 hown7 hgrow7 hat7 hlt7))
          have hb7 : Below w.heap.size w w7 := (HB2.out.alloc hw _).grown hgrow7 (by simp; omega) (fun q hq => (HO2.out.lt q hq).1)
          go_roundw
          case rel => exact ⟨0 + 1, O2 + 1, M ++ [dd], _, by omega, rfl, by omega, by have := HOJ.out; omega, by rw [List.length_append, HM.out]; rfl, HN.out, by rw [ubs_app]; exact hown7, hb7⟩
          case measure => simp [intOf]
        · obtain rfl : y = 24 := by omega
          clear hy
          obtain ⟨Y, hY⟩ : ∃ Y, b / 16777216 = Y := ⟨_, rfl⟩
          have hdv : (b : Int) / 16777216 = (Y : Int) := by omega
          have hY2 : Y < 4294967296 := by omega
          have hand := and15u hY2
          obtain ⟨Q, hQ⟩ : ∃ Q, Y % 16 = Q := ⟨_, rfl⟩
          rw [hQ] at hand
          have hQ16 : Q < 16 := by omega
          have hdg := dig16_at Q hQ16
          have HD := Lib.hid (show hdig b 1 = dig16 Q by rw [← hQ, ← hY]; rfl)
          obtain ⟨dd, hdd⟩ : ∃ dd, dig16 Q = dd := ⟨_, rfl⟩
          rw [hdd] at hdg HD
          have HNW := Lib.hid (World.news_of_block (heap_alloc_new wr (.cells #[.int .u8 (dd.toNat : Int)] 5)))
          have HN := Lib.hid (show M ++ [dd] = L ++ hexP b (1 + 1) by rw [hexP_succ, HD.out, HME.out, List.append_assoc])
          clear hQ hY hdd
          go_wp2_with (at_builtin; go_loud (refine wpList_append_lies _ rfl _ _ 50 rfl w.heap.size 5 i0 _ 1 1 Tryd.underlying50 hin hz0 hz1 hz2 rfl (by decide) (.slice Av2 O2 cv2) O2 (ubs M) rfl (HO2.out.alloc _) ⟨wr.heap.size, 0, none⟩ 1 1 [.int .u8 (dd.toNat : Int)] rfl rfl HNW.out (by simp [Value.oneCell']) (by omega) (by unfold maxLen; omega) (by omega) (by simp; omega) (wr.heap.size + 1) (by simp) ?_; intro gg cap2 w7 hown7 hgrow7 hat7 hlt7))
          have hb7 : Below w.heap.size w w7 := (HB2.out.alloc hw _).grown hgrow7 (by simp; omega) (fun q hq => (HO2.out.lt q hq).1)
          go_roundw
          case rel => exact ⟨1 + 1, O2 + 1, M ++ [dd], _, by omega, rfl, by omega, by have := HOJ.out; omega, by rw [List.length_append, HM.out]; rfl, HN.out, by rw [ubs_app]; exact hown7, hb7⟩
          case measure => simp [intOf]
        · obtain rfl : y = 20 := by omega
          clear hy
          obtain ⟨Y, hY⟩ : ∃ Y, b / 1048576 = Y := ⟨_, rfl⟩
          have hdv : (b : Int) / 1048576 = (Y : Int) := by omega
          have hY2 : Y < 4294967296 := by omega
          have hand := and15u hY2
          obtain ⟨Q, hQ⟩ : ∃ Q, Y % 16 = Q := ⟨_, rfl⟩
          rw [hQ] at hand
          have hQ16 : Q < 16 := by omega
          have hdg := dig16_at Q hQ16
          have HD := Lib.hid (show hdig b 2 = dig16 Q by rw [← hQ, ← hY]; rfl)
          obtain ⟨dd, hdd⟩ : ∃ dd, dig16 Q = dd := ⟨_, rfl⟩
          rw [hdd] at hdg HD
          have HNW := Lib.hid (World.news_of_block (heap_alloc_new wr (.cells #[.int .u8 (dd.toNat : Int)] 5)))
          have HN := Lib.hid (show M ++ [dd] = L ++ hexP b (2 + 1) by rw [hexP_succ, HD.out, HME.out, List.append_assoc])
          clear hQ hY hdd
          go_wp2_with (at_builtin; go_loud (refine wpList_append_lies _ rfl _ _ 50 rfl w.heap.size 5 i0 _ 1 1 Tryd.underlying50 hin hz0 hz1 hz2 rfl (by decide) (.slice Av2 O2 cv2) O2 (ubs M) rfl (HO2.out.alloc _) ⟨wr.heap.size, 0, none⟩ 1 1 [.int .u8 (dd.toNat : Int)] rfl rfl HNW.out (by simp [Value.oneCell']) (by omega) (by unfold maxLen; omega) (by omega) (by simp; omega) (wr.heap.size + 1) (by simp) ?_; intro gg cap2 w7 hown7 hgrow7 hat7 hlt7))
          have hb7 : Below w.heap.size w w7 := (HB2.out.alloc hw _).grown hgrow7 (by simp; omega) (fun q hq => (HO2.out.lt q hq).1)
          go_roundw
          case rel => exact ⟨2 + 1, O2 + 1, M ++ [dd], _, by omega, rfl, by omega, by have := HOJ.out; omega, by rw [List.length_append, HM.out]; rfl, HN.out, by rw [ubs_app]; exact hown7, hb7⟩
          case measure => simp [intOf]
        · obtain rfl : y = 16 := by omega
          clear hy
          obtain ⟨Y, hY⟩ : ∃ Y, b / 65536 = Y := ⟨_, rfl⟩
          have hdv : (b : Int) / 65536 = (Y : Int) := by omega
          have hY2 : Y < 4294967296 := by omega
          have hand := and15u hY2
          obtain ⟨Q, hQ⟩ : ∃ Q, Y % 16 = Q := ⟨_, rfl⟩
          rw [hQ] at hand
          have hQ16 : Q < 16 := by omega
          have hdg := dig16_at Q hQ16
          have HD := Lib.hid (show hdig b 3 = dig16 Q by rw [← hQ, ← hY]; rfl)
          obtain ⟨dd, hdd⟩ : ∃ dd, dig16 Q = dd := ⟨_, rfl⟩
          rw [hdd] at hdg HD
          have HNW := Lib.hid (World.news_of_block (heap_alloc_new wr (.cells #[.int .u8 (dd.toNat : Int)] 5)))
          have HN := Lib.hid (show M ++ [dd] = L ++ hexP b (3 + 1) by rw [hexP_succ, HD.out, HME.out, List.append_assoc])
          clear hQ hY hdd
          go_wp2_with (at_builtin; go_loud (refine wpList_append_lies _ rfl _ _ 50 rfl w.heap.size 5 i0 _ 1 1 Tryd.underlying50 hin hz0 hz1 hz2 rfl (by decide) (.slice Av2 O2 cv2) O2 (ubs M) rfl (HO2.out.alloc _) ⟨wr.heap.size, 0, none⟩ 1 1 [.int .u8 (dd.toNat : Int)] rfl rfl HNW.out (by simp [Value.oneCell']) (by omega) (by unfold maxLen; omega) (by omega) (by simp; omega) (wr.heap.size + 1) (by simp) ?_; intro gg cap2 w7 hown7 hgrow7 hat7 hlt7))
          have hb7 : Below w.heap.size w w7 := (HB2.out.alloc hw _).grown hgrow7 (by simp; omega) (fun q hq => (HO2.out.lt q hq).1)
          go_roundw
          case rel => exact ⟨3 + 1, O2 + 1, M ++ [dd], _, by omega, rfl, by omega, by have := HOJ.out; omega, by rw [List.length_append, HM.out]; rfl, HN.out, by rw [ubs_app]; exact hown7, hb7⟩
          case measure => simp [intOf]
        · obtain rfl : y = 12 := by omega
          clear hy
          obtain ⟨Y, hY⟩ : ∃ Y, b / 4096 = Y := ⟨_, rfl⟩
          have hdv : (b : Int) / 4096 = (Y : Int) := by omega
          have hY2 : Y < 4294967296 := by omega
          have hand := and15u hY2
          obtain ⟨Q, hQ⟩ : ∃ Q, Y % 16 = Q := ⟨_, rfl⟩
          rw [hQ] at hand
          have hQ16 : Q < 16 := by omega
          have hdg := dig16_at Q hQ16
          have HD := Lib.hid (show hdig b 4 = dig16 Q by rw [← hQ, ← hY]; rfl)
          obtain ⟨dd, hdd⟩ : ∃ dd, dig16 Q = dd := ⟨_, rfl⟩
          rw [hdd] at hdg HD
          have HNW := Lib.hid (World.news_of_block (heap_alloc_new wr (.cells #[.int .u8 (dd.toNat : Int)] 5)))
          have HN := Lib.hid (show M ++ [dd] = L ++ hexP b (4 + 1) by rw [hexP_succ, HD.out, HME.out, List.append_assoc])
          clear hQ hY hdd
          go_wp2_with (at_builtin; go_loud (refine wpList_append_lies _ rfl _ _ 50 rfl w.heap.size 5 i0 _ 1 1 Tryd.underlying50 hin hz0 hz1 hz2 rfl (by decide) (.slice Av2 O2 cv2) O2 (ubs M) rfl (HO2.out.alloc _) ⟨wr.heap.size, 0, none⟩ 1 1 [.int .u8 (dd.toNat : Int)] rfl rfl HNW.out (by simp [Value.oneCell']) (by omega) (by unfold maxLen; omega) (by omega) (by simp; omega) (wr.heap.size + 1) (by simp) ?_; intro gg cap2 w7 hown7 hgrow7 hat7 hlt7))
          have hb7 : Below w.heap.size w w7 := (HB2.out.alloc hw _).grown hgrow7 (by simp; omega) (fun q hq => (HO2.out.lt q hq).1)
          go_roundw
          case rel => exact ⟨4 + 1, O2 + 1, M ++ [dd], _, by omega, rfl, by omega, by have := HOJ.out; omega, by rw [List.length_append, HM.out]; rfl, HN.out, by rw [ubs_app]; exact hown7, hb7⟩
          case measure => simp [intOf]
        · obtain rfl : y = 8 := by omega
          clear hy
          obtain ⟨Y, hY⟩ : ∃ Y, b / 256 = Y := ⟨_, rfl⟩
          have hdv : (b : Int) / 256 = (Y : Int) := by omega
          have hY2 : Y < 4294967296 := by omega
          have hand := and15u hY2
          obtain ⟨Q, hQ⟩ : ∃ Q, Y % 16 = Q := ⟨_, rfl⟩
          rw [hQ] at hand
          have hQ16 : Q < 16 := by omega
          have hdg := dig16_at Q hQ16
          have HD := Lib.hid (show hdig b 5 = dig16 Q by rw [← hQ, ← hY]; rfl)
          obtain ⟨dd, hdd⟩ : ∃ dd, dig16 Q = dd := ⟨_, rfl⟩
          rw [hdd] at hdg HD
          have HNW := Lib.hid (World.news_of_block (heap_alloc_new wr (.cells #[.int .u8 (dd.toNat : Int)] 5)))
          have HN := Lib.hid (show M ++ [dd] = L ++ hexP b (5 + 1) by rw [hexP_succ, HD.out, HME.out, List.append_assoc])
          clear hQ hY hdd
          go_wp2_with (at_builtin; go_loud (refine wpList_append_lies _ rfl _ _ 50 rfl w.heap.size 5 i0 _ 1 1 Tryd.underlying50 hin hz0 hz1 hz2 rfl (by decide) (.slice Av2 O2 cv2) O2 (ubs M) rfl (HO2.out.alloc _) ⟨wr.heap.size, 0, none⟩ 1 1 [.int .u8 (dd.toNat : Int)] rfl rfl HNW.out (by simp [Value.oneCell']) (by omega) (by unfold maxLen; omega) (by omega) (by simp; omega) (wr.heap.size + 1) (by simp) ?_; intro gg cap2 w7 hown7 hgrow7 hat7 hlt7))
          have hb7 : Below w.heap.size w w7 := (HB2.out.alloc hw _).grown hgrow7 (by simp; omega) (fun q hq => (HO2.out.lt q hq).1)
          go_roundw
          case rel => exact ⟨5 + 1, O2 + 1, M ++ [dd], _, by omega, rfl, by omega, by have := HOJ.out; omega, by rw [List.length_append, HM.out]; rfl, HN.out, by rw [ubs_app]; exact hown7, hb7⟩
          case measure => simp [intOf]
        · obtain rfl : y = 4 := by omega
          clear hy
          obtain ⟨Y, hY⟩ : ∃ Y, b / 16 = Y := ⟨_, rfl⟩
          have hdv : (b : Int) / 16 = (Y : Int) := by omega
          have hY2 : Y < 4294967296 := by omega
          have hand := and15u hY2
          obtain ⟨Q, hQ⟩ : ∃ Q, Y % 16 = Q := ⟨_, rfl⟩
          rw [hQ] at hand
          have hQ16 : Q < 16 := by omega
          have hdg := dig16_at Q hQ16
          have HD := Lib.hid (show hdig b 6 = dig16 Q by rw [← hQ, ← hY]; rfl)
          obtain ⟨dd, hdd⟩ : ∃ dd, dig16 Q = dd := ⟨_, rfl⟩
          rw [hdd] at hdg HD
          have HNW := Lib.hid (World.news_of_block (heap_alloc_new wr (.cells #[.int .u8 (dd.toNat : Int)] 5)))
          have HN := Lib.hid (show M ++ [dd] = L ++ hexP b (6 + 1) by rw [hexP_succ, HD.out, HME.out, List.append_assoc])
          clear hQ hY hdd
          go_wp2_with (at_builtin; go_loud (refine wpList_append_lies _ rfl _ _ 50 rfl w.heap.size 5 i0 _ 1 1 Tryd.underlying50 hin hz0 hz1 hz2 rfl (by decide) (.slice Av2 O2 cv2) O2 (ubs M) rfl (HO2.out.alloc _) ⟨wr.heap.size, 0, none⟩ 1 1 [.int .u8 (dd.toNat : Int)] rfl rfl HNW.out (by simp [Value.oneCell']) (by omega) (by unfold maxLen; omega) (by omega) (by simp; omega) (wr.heap.size + 1) (by simp) ?_; intro gg cap2 w7 hown7 hgrow7 hat7 hlt7))
          have hb7 : Below w.heap.size w w7 := (HB2.out.alloc hw _).grown hgrow7 (by simp; omega) (fun q hq => (HO2.out.lt q hq).1)
          go_roundw
          case rel => exact ⟨6 + 1, O2 + 1, M ++ [dd], _, by omega, rfl, by omega, by have := HOJ.out; omega, by rw [List.length_append, HM.out]; rfl, HN.out, by rw [ubs_app]; exact hown7, hb7⟩
          case measure => simp [intOf]
        · obtain rfl : y = 0 := by omega
          clear hy
          obtain ⟨Y, hY⟩ : ∃ Y, b / 1 = Y := ⟨_, rfl⟩
          have hdv : (b : Int) / 1 = (Y : Int) := by omega
          have hY2 : Y < 4294967296 := by omega
          have hand := and15u hY2
          obtain ⟨Q, hQ⟩ : ∃ Q, Y % 16 = Q := ⟨_, rfl⟩
          rw [hQ] at hand
          have hQ16 : Q < 16 := by omega
          have hdg := dig16_at Q hQ16
          have HD := Lib.hid (show hdig b 7 = dig16 Q by rw [← hQ, ← hY]; rfl)
          obtain ⟨dd, hdd⟩ : ∃ dd, dig16 Q = dd := ⟨_, rfl⟩
          rw [hdd] at hdg HD
          have HNW := Lib.hid (World.news_of_block (heap_alloc_new wr (.cells #[.int .u8 (dd.toNat : Int)] 5)))
          have HN := Lib.hid (show M ++ [dd] = L ++ hexP b (7 + 1) by rw [hexP_succ, HD.out, HME.out, List.append_assoc])
          clear hQ hY hdd
          go_wp2_with (at_builtin; go_loud (refine wpList_append_lies _ rfl _ _ 50 rfl w.heap.size 5 i0 _ 1 1 Tryd.underlying50 hin hz0 hz1 hz2 rfl (by decide) (.slice Av2 O2 cv2) O2 (ubs M) rfl (HO2.out.alloc _) ⟨wr.heap.size, 0, none⟩ 1 1 [.int .u8 (dd.toNat : Int)] rfl rfl HNW.out (by simp [Value.oneCell']) (by omega) (by unfold maxLen; omega) (by omega) (by simp; omega) (wr.heap.size + 1) (by simp) ?_; intro gg cap2 w7 hown7 hgrow7 hat7 hlt7))
          have hb7 : Below w.heap.size w w7 := (HB2.out.alloc hw _).grown hgrow7 (by simp; omega) (fun q hq => (HO2.out.lt q hq).1)
          go_roundw
          case rel => exact ⟨7 + 1, O2 + 1, M ++ [dd], _, by omega, rfl, by omega, by have := HOJ.out; omega, by rw [List.length_append, HM.out]; rfl, HN.out, by rw [ubs_app]; exact hown7, hb7⟩
          case measure => simp [intOf]
        · obtain rfl : y = -4 := by omega
          clear hy
          have HT := Lib.hid (show M = hexA ([a, b, c, d].take (1 + 1)) by rw [HME.out, HLE.out]; show _ = hexA ([a, b, c, d].take 1 ++ [b]); rw [hexA_snoc])
          go_wp2_with fail
          go_roundw
          case rel => exact ⟨1 + 1, O2, M, _, by omega, rfl, by omega, by have := HOJ.out; have := HO8.out; omega, HM.out, HT.out, HO2.out, HB2.out⟩
          case measure => simp [intOf]
    · subst hwo
      obtain rfl : x = 2 := by omega
      clear hx
      have hix := fun wx => (at_st (.int .u32 (a : Int)) (.int .u32 (b : Int)) (.int .u32 (c : Int)) (.int .u32 (d : Int)) wx).2.2.1
      go_wp2_with fail
      go_loopw [3, 6] (fun v z wr => ∃ (j O2 : Nat) (M : List UInt8) (y : Int), j ≤ 8 ∧ z = .int .i64 y ∧ y = 28 - 4 * (j : Int) ∧ O2 = O + j ∧ M.length = O2 ∧ M = L ++ hexP c j ∧ wr.ownsRow w.heap.size 5 1 v O2 (ubs M) ∧ Below w.heap.size w wr) (fun _ z _ => (intOf z + 4).toNat)
      case atStart => exact ⟨0, O, L, 28, Nat.zero_le _, rfl, rfl, rfl, HLL.out, by simp [hexP], HOW.out, HBW.out⟩
      case round =>
        obtain ⟨j, O2, M, y, hj, rfl, hy, hO2, hM, hMe, hown2, hbw2⟩ := hrel
        have hw := hbw2.size
        obtain ⟨Av2, cv2, rfl⟩ := bslice_of_own hown2
        have HO2 := Lib.hid hown2
        have HB2 := Lib.hid hbw2
        have HM := Lib.hid hM
        have HME := Lib.hid hMe
        clear hown2 hbw2 hM hMe
        have hOb2 : O2 ≤ 40 := by omega
        have HOJ := Lib.hid hO2
        clear hO2
        have h9 : j = 0 ∨ j = 1 ∨ j = 2 ∨ j = 3 ∨ j = 4 ∨ j = 5 ∨ j = 6 ∨ j = 7 ∨ j = 8 := by omega
        rcases h9 with rfl | rfl | rfl | rfl | rfl | rfl | rfl | rfl | rfl
        · obtain rfl : y = 28 := by omega
          clear hy
          obtain ⟨Y, hY⟩ : ∃ Y, c / 268435456 = Y := ⟨_, rfl⟩
          have hdv : (c : Int) / 268435456 = (Y : Int) := by omega
          have hY2 : Y < 4294967296 := by omega
          have hand := and15u hY2
          obtain ⟨Q, hQ⟩ : ∃ Q, Y % 16 = Q := ⟨_, rfl⟩
          rw [hQ] at hand
          have hQ16 : Q < 16 := by omega
          have hdg := dig16_at Q hQ16
          have HD := Lib.hid (show hdig c 0 = dig16 Q by rw [← hQ, ← hY]; rfl)
          obtain ⟨dd, hdd⟩ : ∃ dd, dig16 Q = dd := ⟨_, rfl⟩
          rw [hdd] at hdg HD
          have HNW := Lib.hid (World.news_of_block (heap_alloc_new wr (.cells #[.int .u8 (dd.toNat : Int)] 5)))
          have HN := Lib.hid (show M ++ [dd] = L ++ hexP c (0 + 1) by rw [hexP_succ, HD.out, HME.out, List.append_assoc])
          clear hQ hY hdd
          go_wp2_with (at_builtin; go_loud (refine wpList_append_lies _ rfl _ _ 50 rfl w.heap.size 5 i0 _ 1 1 Tryd.underlying50 hin hz0 hz1 hz2 rfl (by decide) (.slice Av2 O2 cv2) O2 (ubs M) rfl (HO2.out.alloc _) ⟨wr.heap.size, 0, none⟩ 1 1 [.int .u8 (dd.toNat : Int)] rfl rfl HNW.out (by simp [Value.oneCell']) (by omega) (by unfold maxLen; omega) (by omega) (by simp; omega) (wr.heap.size + 1) (by simp) ?_; intro gg cap2 w7 hown7 hgrow7 hat7 hlt7))
          have hb7 : Below w.heap.size w w7 := (HB2.out.alloc hw _).grown hgrow7 (by simp; omega) (fun q hq => (HO2.out.lt q hq).1)
          go_roundw
          case rel => exact ⟨0 + 1, O2 + 1, M ++ [dd], _, by omega, rfl, by omega, by have := HOJ.out; omega, by rw [List.length_append, HM.out]; rfl, HN.out, by rw [ubs_app]; exact hown7, hb7⟩
          case measure => simp [intOf]
        · obtain rfl : y = 24 := by omega
          clear hy
          obtain ⟨Y, hY⟩ : ∃ Y, c / 16777216 = Y := ⟨_, rfl⟩
          have hdv : (c : Int) / 16777216 = (Y : Int) := by omega
          have hY2 : Y < 4294967296 := by omega
          have hand := and15u hY2
          obtain ⟨Q, hQ⟩ : ∃ Q, Y % 16 = Q := ⟨_, rfl⟩
          rw [hQ] at hand
          have hQ16 : Q < 16 := by omega
          have hdg := dig16_at Q hQ16
          have HD := Lib.hid (show hdig c 1 = dig16 Q by rw [← hQ, ← hY]; rfl)
          obtain ⟨dd, hdd⟩ : ∃ dd, dig16 Q = dd := ⟨_, rfl⟩
          rw [hdd] at hdg HD
          have HNW := Lib.hid (World.news_of_block (heap_alloc_new wr (.cells #[.int .u8 (dd.toNat : Int)] 5)))
          have HN := Lib.hid (show M ++ [dd] = L ++ hexP c (1 + 1) by rw [hexP_succ, HD.out, HME.out, List.append_assoc])
          clear hQ hY hdd
          go_wp2_with (at_builtin; go_loud (refine wpList_append_lies _ rfl _ _ 50 rfl w.heap.size 5 i0 _ 1 1 Tryd.underlying50 hin hz0 hz1 hz2 rfl (by decide) (.slice Av2 O2 cv2) O2 (ubs M) rfl (HO2.out.alloc _) ⟨wr.heap.size, 0, none⟩ 1 1 [.int .u8 (dd.toNat : Int)] rfl rfl HNW.out (by simp [Value.oneCell']) (by omega) (by unfold maxLen; omega) (by omega) (by simp; omega) (wr.heap.size + 1) (by simp) ?_; intro gg cap2 w7 hown7 hgrow7 hat7 hlt7))
          have hb7 : Below w.heap.size w w7 := (HB2.out.alloc hw _).grown hgrow7 (by simp; omega) (fun q hq => (HO2.out.lt q hq).1)
          go_roundw
          case rel => exact ⟨1 + 1, O2 + 1, M ++ [dd], _, by omega, rfl, by omega, by have := HOJ.out; omega, by rw [List.length_append, HM.out]; rfl, HN.out, by rw [ubs_app]; exact hown7, hb7⟩
          case measure => simp [intOf]
        · obtain rfl : y = 20 := by omega
          clear hy
          obtain ⟨Y, hY⟩ : ∃ Y, c / 1048576 = Y := ⟨_, rfl⟩
          have hdv : (c : Int) / 1048576 = (Y : Int) := by omega
          have hY2 : Y < 4294967296 := by omega
          have hand := and15u hY2
          obtain ⟨Q, hQ⟩ : ∃ Q, Y % 16 = Q := ⟨_, rfl⟩
          rw [hQ] at hand
          have hQ16 : Q < 16 := by omega
          have hdg := dig16_at Q hQ16
          have HD := Lib.hid (show hdig c 2 = dig16 Q by rw [← hQ, ← hY]; rfl)
          obtain ⟨dd, hdd⟩ : ∃ dd, dig16 Q = dd := ⟨_, rfl⟩
          rw [hdd] at hdg HD
          have HNW := Lib.hid (World.news_of_block (heap_alloc_new wr (.cells #[.int .u8 (dd.toNat : Int)] 5)))
          have HN := Lib.hid (show M ++ [dd] = L ++ hexP c (2 + 1) by rw [hexP_succ, HD.out, HME.out, List.append_assoc])
          clear hQ hY hdd
          go_wp2_with (at_builtin; go_loud (refine wpList_append_lies _ rfl _ _ 50 rfl w.heap.size 5 i0 _ 1 1 Tryd.underlying50 hin hz0 hz1 hz2 rfl (by decide) (.slice Av2 O2 cv2) O2 (ubs M) rfl (HO2.out.alloc _) ⟨wr.heap.size, 0, none⟩ 1 1 [.int .u8 (dd.toNat : Int)] rfl rfl HNW.out (by simp [Value.oneCell']) (by omega) (by unfold maxLen; omega) (by omega) (by simp; omega) (wr.heap.size + 1) (by simp) ?_; intro gg cap2 w7 hown7 hgrow7 hat7 hlt7))
          have hb7 : Below w.heap.size w w7 := (HB2.out.alloc hw _).grown hgrow7 (by simp; omega) (fun q hq => (HO2.out.lt q hq).1)
          go_roundw
          case rel => exact ⟨2 + 1, O2 + 1, M ++ [dd], _, by omega, rfl, by omega, by have := HOJ.out; omega, by rw [List.length_append, HM.out]; rfl, HN.out, by rw [ubs_app]; exact hown7, hb7⟩
          case measure => simp [intOf]
        · obtain rfl : y = 16 := by omega
          clear hy
          obtain ⟨Y, hY⟩ : ∃ Y, c / 65536 = Y := ⟨_, rfl⟩
          have hdv : (c : Int) / 65536 = (Y : Int) := by omega
          have hY2 : Y < 4294967296 := by omega
          have hand := and15u hY2
          obtain ⟨Q, hQ⟩ : ∃ Q, Y % 16 = Q := ⟨_, rfl⟩
          rw [hQ] at hand
          have hQ16 : Q < 16 := by omega
          have hdg := dig16_at Q hQ16
          have HD := Lib.hid (show hdig c 3 = dig16 Q by rw [← hQ, ← hY]; rfl)
          obtain ⟨dd, hdd⟩ : ∃ dd, dig16 Q = dd := ⟨_, rfl⟩
          rw [hdd] at hdg HD
          have HNW := Lib.hid (World.news_of_block (heap_alloc_new wr (.cells #[.int .u8 (dd.toNat : Int)] 5)))
          have HN := Lib.hid (show M ++ [dd] = L ++ hexP c (3 + 1) by rw [hexP_succ, HD.out, HME.out, List.append_assoc])
          clear hQ hY hdd
          go_wp2_with (at_builtin; go_loud (refine wpList_append_lies _ rfl _ _ 50 rfl w.heap.size 5 i0 _ 1 1 Tryd.underlying50 hin hz0 hz1 hz2 rfl (by decide) (.slice Av2 O2 cv2) O2 (ubs M) rfl (HO2.out.alloc _) ⟨wr.heap.size, 0, none⟩ 1 1 [.int .u8 (dd.toNat : Int)] rfl rfl HNW.out (by simp [Value.oneCell']) (by omega) (by unfold maxLen; omega) (by omega) (by simp; omega) (wr.heap.size + 1) (by simp) ?_; intro gg cap2 w7 hown7 hgrow7 hat7 hlt7))
          have hb7 : Below w.heap.size w w7 := (HB2.out.alloc hw _).grown hgrow7 (by simp; omega) (fun q hq => (HO2.out.lt q hq).1)
          go_roundw
          case rel => exact ⟨3 + 1, O2 + 1, M ++ [dd], _, by omega, rfl, by omega, by have := HOJ.out; omega, by rw [List.length_append, HM.out]; rfl, HN.out, by rw [ubs_app]; exact hown7, hb7⟩
          case measure => simp [intOf]
        · obtain rfl : y = 12 := by omega
          clear hy
          obtain ⟨Y, hY⟩ : ∃ Y, c / 4096 = Y := ⟨_, rfl⟩
          have hdv : (c : Int) / 4096 = (Y : Int) := by omega
          have hY2 : Y < 4294967296 := by omega
          have hand := and15u hY2
          obtain ⟨Q, hQ⟩ : ∃ Q, Y % 16 = Q := ⟨_, rfl⟩
          rw [hQ] at hand
          have hQ16 : Q < 16 := by omega
          have hdg := dig16_at Q hQ16
          have HD := Lib.hid (show hdig c 4 = dig16 Q by rw [← hQ, ← hY]; rfl)
          obtain ⟨dd, hdd⟩ : ∃ dd, dig16 Q = dd := ⟨_, rfl⟩
          rw [hdd] at hdg HD
          have HNW := Lib.hid (World.news_of_block (heap_alloc_new wr (.cells #[.int .u8 (dd.toNat : Int)] 5)))
          have HN := Lib.hid (show M ++ [dd] = L ++ hexP c (4 + 1) by rw [hexP_succ, HD.out, HME.out, List.append_assoc])
          clear hQ hY hdd
          go_wp2_with (at_builtin; go_loud (refine wpList_append_lies _ rfl _ _ 50 rfl w.heap.size 5 i0 _ 1 1 Tryd.underlying50 hin hz0 hz1 hz2 rfl (by decide) (.slice Av2 O2 cv2) O2 (ubs M) rfl (HO2.out.alloc _) ⟨wr.heap.size, 0, none⟩ 1 1 [.int .u8 (dd.toNat : Int)] rfl rfl HNW.out (by simp [Value.oneCell']) (by omega) (by unfold maxLen; omega) (by omega) (by simp; omega) (wr.heap.size + 1) (by simp) ?_; intro gg cap2 w7 hown7 hgrow7 hat7 hlt7))
          have hb7 : Below w.heap.size w w7 := (HB2.out.alloc hw _).grown hgrow7 (by simp; omega) (fun q hq => (HO2.out.lt q hq).1)
          go_roundw
          case rel => exact ⟨4 + 1, O2 + 1, M ++ [dd], _, by omega, rfl, by omega, by have := HOJ.out; omega, by rw [List.length_append, HM.out]; rfl, HN.out, by rw [ubs_app]; exact hown7, hb7⟩
          case measure => simp [intOf]
        · obtain rfl : y = 8 := by omega
          clear hy
          obtain ⟨Y, hY⟩ : ∃ Y, c / 256 = Y := ⟨_, rfl⟩
          have hdv : (c : Int) / 256 = (Y : Int) := by omega
          have hY2 : Y < 4294967296 := by omega
          have hand := and15u hY2
          obtain ⟨Q, hQ⟩ : ∃ Q, Y % 16 = Q := ⟨_, rfl⟩
          rw [hQ] at hand
          have hQ16 : Q < 16 := by omega
          have hdg := dig16_at Q hQ16
          have HD := Lib.hid (show hdig c 5 = dig16 Q by rw [← hQ, ← hY]; rfl)
          obtain ⟨dd, hdd⟩ : ∃ dd, dig16 Q = dd := ⟨_, rfl⟩
          rw [hdd] at hdg HD
          have HNW := Lib.hid (World.news_of_block (heap_alloc_new wr (.cells #[.int .u8 (dd.toNat : Int)] 5)))
          have HN := Lib.hid (show M ++ [dd] = L ++ hexP c (5 + 1) by rw [hexP_succ, HD.out, HME.out, List.append_assoc])
          clear hQ hY hdd
          go_wp2_with (at_builtin; go_loud (refine wpList_append_lies _ rfl _ _ 50 rfl w.heap.size 5 i0 _ 1 1 Tryd.underlying50 hin hz0 hz1 hz2 rfl (by decide) (.slice Av2 O2 cv2) O2 (ubs M) rfl (HO2.out.alloc _) ⟨wr.heap.size, 0, none⟩ 1 1 [.int .u8 (dd.toNat : Int)] rfl rfl HNW.out (by simp [Value.oneCell']) (by omega) (by unfold maxLen; omega) (by omega) (by simp; omega) (wr.heap.size + 1) (by simp) ?_; intro gg cap2 w7 hown7 hgrow7 hat7 hlt7))
          have hb7 : Below w.heap.size w w7 := (HB2.out.alloc hw _).grown hgrow7 (by simp; omega) (fun q hq => (HO2.out.lt q hq).1)
          go_roundw
          case rel => exact ⟨5 + 1, O2 + 1, M ++ [dd], _, by omega, rfl, by omega, by have := HOJ.out; omega, by rw [List.length_append, HM.out]; rfl, HN.out, by rw [ubs_app]; exact hown7, hb7⟩
          case measure => simp [intOf]
        · obtain rfl : y = 4 := by omega
          clear hy
          obtain ⟨Y, hY⟩ : ∃ Y, c / 16 = Y := ⟨_, rfl⟩
          have hdv : (c : Int) / 16 = (Y : Int) := by omega
          have hY2 : Y < 4294967296 := by omega
          have hand := and15u hY2
          obtain ⟨Q, hQ⟩ : ∃ Q, Y % 16 = Q := ⟨_, rfl⟩
          rw [hQ] at hand
          have hQ16 : Q < 16 := by omega
          have hdg := dig16_at Q hQ16
          have HD := Lib.hid (show hdig c 6 = dig16 Q by rw [← hQ, ← hY]; rfl)
          obtain ⟨dd, hdd⟩ : ∃ dd, dig16 Q = dd := ⟨_, rfl⟩
          rw [hdd] at hdg HD
          have HNW := Lib.hid (World.news_of_block (heap_alloc_new wr (.cells #[.int .u8 (dd.toNat : Int)] 5)))
          have HN := Lib.hid (show M ++ [dd] = L ++ hexP c (6 + 1) by rw [hexP_succ, HD.out, HME.out, List.append_assoc])
          clear hQ hY hdd
          go_wp2_with (at_builtin; go_loud (refine wpList_append_lies _ rfl _ _ 50 rfl w.heap.size 5 i0 _ 1 1 Tryd.underlying50 hin hz0 hz1 hz2 rfl (by decide) (.slice Av2 O2 cv2) O2 (ubs M) rfl (HO2.out.alloc _) ⟨wr.heap.size, 0, none⟩ 1 1 [.int .u8 (dd.toNat : Int)] rfl rfl HNW.out (by simp [Value.oneCell']) (by omega) (by unfold maxLen; omega) (by omega) (by simp; omega) (wr.heap.size + 1) (by simp) ?_; intro gg cap2 w7 hown7 hgrow7 hat7 hlt7))
          have hb7 : Below w.heap.size w w7 := (HB2.out.alloc hw _).grown hgrow7 (by simp; omega) (fun q hq => (HO2.out.lt q hq).1)
          go_roundw
          case rel => exact ⟨6 + 1, O2 + 1, M ++ [dd], _, by omega, rfl, by omega, by have := HOJ.out; omega, by rw [List.length_append, HM.out]; rfl, HN.out, by rw [ubs_app]; exact hown7, hb7⟩
          case measure => simp [intOf]
        · obtain rfl : y = 0 := by omega
          clear hy
          obtain ⟨Y, hY⟩ : ∃ Y, c / 1 = Y := ⟨_, rfl⟩
          have hdv : (c : Int) / 1 = (Y : Int) := by omega
          have hY2 : Y < 4294967296 := by omega
          have hand := and15u hY2
          obtain ⟨Q, hQ⟩ : ∃ Q, Y % 16 = Q := ⟨_, rfl⟩
          rw [hQ] at hand
          have hQ16 : Q < 16 := by omega
          have hdg := dig16_at Q hQ16
          have HD := Lib.hid (show hdig c 7 = dig16 Q by rw [← hQ, ← hY]; rfl)
          obtain ⟨dd, hdd⟩ : ∃ dd, dig16 Q = dd := ⟨_, rfl⟩
          rw [hdd] at hdg HD
          have HNW := Lib.hid (World.news_of_block (heap_alloc_new wr (.cells #[.int .u8 (dd.toNat : Int)] 5)))
          have HN := Lib.hid (show M ++ [dd] = L ++ hexP c (7 + 1) by rw [hexP_succ, HD.out, HME.out, List.append_assoc])
          clear hQ hY hdd
          go_wp2_with (at_builtin; go_loud (refine wpList_append_lies _ rfl _ _ 50 rfl w.heap.size 5 i0 _ 1 1 Tryd.underlying50 hin hz0 hz1 hz2 rfl (by decide) (.slice Av2 O2 cv2) O2 (ubs M) rfl (HO2.out.alloc _) ⟨wr.heap.size, 0, none⟩ 1 1 [.int .u8 (dd.toNat : Int)] rfl rfl HNW.out (by simp [Value.oneCell']) (by omega) (by unfold maxLen; omega) (by omega) (by simp; omega) (wr.heap.size + 1) (by simp) ?_; intro gg cap2 w7 hown7 hgrow7 hat7 hlt7))
          have hb7 : Below w.heap.size w w7 := (HB2.out.alloc hw _).grown hgrow7 (by simp; omega) (fun q hq => (HO2.out.lt q hq).1)
          go_roundw
          case rel => exact ⟨7 + 1, O2 + 1, M ++ [dd], _, by omega, rfl, by omega, by have := HOJ.out; omega, by rw [List.length_append, HM.out]; rfl, HN.out, by rw [ubs_app]; exact hown7, hb7⟩
          case measure => simp [intOf]
        · obtain rfl : y = -4 := by omega
          clear hy
          have HT := Lib.hid (show M = hexA ([a, b, c, d].take (2 + 1)) by rw [HME.out, HLE.out]; show _ = hexA ([a, b, c, d].take 2 ++ [c]); rw [hexA_snoc])
          go_wp2_with fail
          go_roundw
          case rel => exact ⟨2 + 1, O2, M, _, by omega, rfl, by omega, by have := HOJ.out; have := HO8.out; omega, HM.out, HT.out, HO2.out, HB2.out⟩
          case measure => simp [intOf]
    · subst hwo
      obtain rfl : x = 3 := by omega
      clear hx
      have hix := fun wx => (at_st (.int .u32 (a : Int)) (.int .u32 (b : Int)) (.int .u32 (c : Int)) (.int .u32 (d : Int)) wx).2.2.2
      go_wp2_with fail
      go_loopw [3, 6] (fun v z wr => ∃ (j O2 : Nat) (M : List UInt8) (y : Int), j ≤ 8 ∧ z = .int .i64 y ∧ y = 28 - 4 * (j : Int) ∧ O2 = O + j ∧ M.length = O2 ∧ M = L ++ hexP d j ∧ wr.ownsRow w.heap.size 5 1 v O2 (ubs M) ∧ Below w.heap.size w wr) (fun _ z _ => (intOf z + 4).toNat)
      case atStart => exact ⟨0, O, L, 28, Nat.zero_le _, rfl, rfl, rfl, HLL.out, by simp [hexP], HOW.out, HBW.out⟩
      case round =>
        obtain ⟨j, O2, M, y, hj, rfl, hy, hO2, hM, hMe, hown2, hbw2⟩ := hrel
        have hw := hbw2.size
        obtain ⟨Av2, cv2, rfl⟩ := bslice_of_own hown2
        have HO2 := Lib.hid hown2
        have HB2 := Lib.hid hbw2
        have HM := Lib.hid hM
        have HME := Lib.hid hMe
        clear hown2 hbw2 hM hMe
        have hOb2 : O2 ≤ 40 := by omega
        have HOJ := Lib.hid hO2
        clear hO2
        have h9 : j = 0 ∨ j = 1 ∨ j = 2 ∨ j = 3 ∨ j = 4 ∨ j = 5 ∨ j = 6 ∨ j = 7 ∨ j = 8 := by omega
        rcases h9 with rfl | rfl | rfl | rfl | rfl | rfl | rfl | rfl | rfl
        · obtain rfl : y = 28 := by omega
          clear hy
          obtain ⟨Y, hY⟩ : ∃ Y, d / 268435456 = Y := ⟨_, rfl⟩
          have hdv : (d : Int) / 268435456 = (Y : Int) := by omega
          have hY2 : Y < 4294967296 := by omega
          have hand := and15u hY2
          obtain ⟨Q, hQ⟩ : ∃ Q, Y % 16 = Q := ⟨_, rfl⟩
          rw [hQ] at hand
          have hQ16 : Q < 16 := by omega
          have hdg := dig16_at Q hQ16
          have HD := Lib.hid (show hdig d 0 = dig16 Q by rw [← hQ, ← hY]; rfl)
          obtain ⟨dd, hdd⟩ : ∃ dd, dig16 Q = dd := ⟨_, rfl⟩
          rw [hdd] at hdg HD
          have HNW := Lib.hid (World.news_of_block (heap_alloc_new wr (.cells #[.int .u8 (dd.toNat : Int)] 5)))
          have HN := Lib.hid (show M ++ [dd] = L ++ hexP d (0 + 1) by rw [hexP_succ, HD.out, HME.out, List.append_assoc])
          clear hQ hY hdd
          go_wp2_with (at_builtin; go_loud (refine wpList_append_lies _ rfl _ _ 50 rfl w.heap.size 5 i0 _ 1 1 Tryd.underlying50 hin hz0 hz1 hz2 rfl (by decide) (.slice Av2 O2 cv2) O2 (ubs M) rfl (HO2.out.alloc _) ⟨wr.heap.size, 0, none⟩ 1 1 [.int .u8 (dd.toNat : Int)] rfl rfl HNW.out (by simp [Value.oneCell']) (by omega) (by unfold maxLen; omega) (by omega) (by simp; omega) (wr.heap.size + 1) (by simp) ?_; intro gg cap2 w7 hown7 hgrow7 hat7 hlt7))
          have hb7 : Below w.heap.size w w7 := (HB2.out.alloc hw _).grown hgrow7 (by simp; omega) (fun q hq => (HO2.out.lt q hq).1)
          go_roundw
          case rel => exact ⟨0 + 1, O2 + 1, M ++ [dd], _, by omega, rfl, by omega, by have := HOJ.out; omega, by rw [List.length_append, HM.out]; rfl, HN.out, by rw [ubs_app]; exact hown7, hb7⟩
          case measure => simp [intOf]
        · obtain rfl : y = 24 := by omega
          clear hy
          obtain ⟨Y, hY⟩ : ∃ Y, d / 16777216 = Y := ⟨_, rfl⟩
          have hdv : (d : Int) / 16777216 = (Y : Int) := by omega
          have hY2 : Y < 4294967296 := by omega
          have hand := and15u hY2
          obtain ⟨Q, hQ⟩ : ∃ Q, Y % 16 = Q := ⟨_, rfl⟩
          rw [hQ] at hand
          have hQ16 : Q < 16 := by omega
          have hdg := dig16_at Q hQ16
          have HD := Lib.hid (show hdig d 1 = dig16 Q by rw [← hQ, ← hY]; rfl)
          obtain ⟨dd, hdd⟩ : ∃ dd, dig16 Q = dd := ⟨_, rfl⟩
          rw [hdd] at hdg HD
          have HNW := Lib.hid (World.news_of_block (heap_alloc_new wr (.cells #[.int .u8 (dd.toNat : Int)] 5)))
          have HN := Lib.hid (show M ++ [dd] = L ++ hexP d (1 + 1) by rw [hexP_succ, HD.out, HME.out, List.append_assoc])
          clear hQ hY hdd
          go_wp2_with (at_builtin; go_loud (refine wpList_append_lies _ rfl _ _ 50 rfl w.heap.size 5 i0 _ 1 1 Tryd.underlying50 hin hz0 hz1 hz2 rfl (by decide) (.slice Av2 O2 cv2) O2 (ubs M) rfl (HO2.out.alloc _) ⟨wr.heap.size, 0, none⟩ 1 1 [.int .u8 (dd.toNat : Int)] rfl rfl HNW.out (by simp [Value.oneCell']) (by omega) (by unfold maxLen; omega) (by omega) (by simp; omega) (wr.heap.size + 1) (by simp) ?_; intro gg cap2 w7 hown7 hgrow7 hat7 hlt7))
          have hb7 : Below w.heap.size w w7 := (HB2.out.alloc hw _).grown hgrow7 (by simp; omega) (fun q hq => (HO2.out.lt q hq).1)
          go_roundw
          case rel => exact ⟨1 + 1, O2 + 1, M ++ [dd], _, by omega, rfl, by omega, by have := HOJ.out; omega, by rw [List.length_append, HM.out]; rfl, HN.out, by rw [ubs_app]; exact hown7, hb7⟩
          case measure => simp [intOf]
        · obtain rfl : y = 20 := by omega
          clear hy
          obtain ⟨Y, hY⟩ : ∃ Y, d / 1048576 = Y := ⟨_, rfl⟩
          have hdv : (d : Int) / 1048576 = (Y : Int) := by omega
          have hY2 : Y < 4294967296 := by omega
          have hand := and15u hY2
          obtain ⟨Q, hQ⟩ : ∃ Q, Y % 16 = Q := ⟨_, rfl⟩
          rw [hQ] at hand
          have hQ16 : Q < 16 := by omega
          have hdg := dig16_at Q hQ16
          have HD := Lib.hid (show hdig d 2 = dig16 Q by rw [← hQ, ← hY]; rfl)
          obtain ⟨dd, hdd⟩ : ∃ dd, dig16 Q = dd := ⟨_, rfl⟩
          rw [hdd] at hdg HD
          have HNW := Lib.hid (World.news_of_block (heap_alloc_new wr (.cells #[.int .u8 (dd.toNat : Int)] 5)))
          have HN := Lib.hid (show M ++ [dd] = L ++ hexP d (2 + 1) by rw [hexP_succ, HD.out, HME.out, List.append_assoc])
          clear hQ hY hdd
          go_wp2_with (at_builtin; go_loud (refine wpList_append_lies _ rfl _ _ 50 rfl w.heap.size 5 i0 _ 1 1 Tryd.underlying50 hin hz0 hz1 hz2 rfl (by decide) (.slice Av2 O2 cv2) O2 (ubs M) rfl (HO2.out.alloc _) ⟨wr.heap.size, 0, none⟩ 1 1 [.int .u8 (dd.toNat : Int)] rfl rfl HNW.out (by simp [Value.oneCell']) (by omega) (by unfold maxLen; omega) (by omega) (by simp; omega) (wr.heap.size + 1) (by simp) ?_; intro gg cap2 w7 hown7 hgrow7 hat7 hlt7))
          have hb7 : Below w.heap.size w w7 := (HB2.out.alloc hw _).grown hgrow7 (by simp; omega) (fun q hq => (HO2.out.lt q hq).1)
          go_roundw
          case rel => exact ⟨2 + 1, O2 + 1, M ++ [dd], _, by omega, rfl, by omega, by have := HOJ.out; omega, by rw [List.length_append, HM.out]; rfl, HN.out, by rw [ubs_app]; exact hown7, hb7⟩
          case measure => simp [intOf]
        · obtain rfl : y = 16 := by omega
          clear hy
          obtain ⟨Y, hY⟩ : ∃ Y, d / 65536 = Y := ⟨_, rfl⟩
          have hdv : (d : Int) / 65536 = (Y : Int) := by omega
          have hY2 : Y < 4294967296 := by omega
          have hand := and15u hY2
          obtain ⟨Q, hQ⟩ : ∃ Q, Y % 16 = Q := ⟨_, rfl⟩
          rw [hQ] at hand
          have hQ16 : Q < 16 := by omega
          have hdg := dig16_at Q hQ16
          have HD := Lib.hid (show hdig d 3 = dig16 Q by rw [← hQ, ← hY]; rfl)
          obtain ⟨dd, hdd⟩ : ∃ dd, dig16 Q = dd := ⟨_, rfl⟩
          rw [hdd] at hdg HD
          have HNW := Lib.hid (World.news_of_block (heap_alloc_new wr (.cells #[.int .u8 (dd.toNat : Int)] 5)))
          have HN := Lib.hid (show M ++ [dd] = L ++ hexP d (3 + 1) by rw [hexP_succ, HD.out, HME.out, List.append_assoc])
          clear hQ hY hdd
          go_wp2_with (at_builtin; go_loud (refine wpList_append_lies _ rfl _ _ 50 rfl w.heap.size 5 i0 _ 1 1 Tryd.underlying50 hin hz0 hz1 hz2 rfl (by decide) (.slice Av2 O2 cv2) O2 (ubs M) rfl (HO2.out.alloc _) ⟨wr.heap.size, 0, none⟩ 1 1 [.int .u8 (dd.toNat : Int)] rfl rfl HNW.out (by simp [Value.oneCell']) (by omega) (by unfold maxLen; omega) (by omega) (by simp; omega) (wr.heap.size + 1) (by simp) ?_; intro gg cap2 w7 hown7 hgrow7 hat7 hlt7))
          have hb7 : Below w.heap.size w w7 := (HB2.out.alloc hw _).grown hgrow7 (by simp; omega) (fun q hq => (HO2.out.lt q hq).1)
          go_roundw
          case rel => exact ⟨3 + 1, O2 + 1, M ++ [dd], _, by omega, rfl, by omega, by have := HOJ.out; omega, by rw [List.length_append, HM.out]; rfl, HN.out, by rw [ubs_app]; exact hown7, hb7⟩
          case measure => simp [intOf]
        · obtain rfl : y = 12 := by omega
          clear hy
          obtain ⟨Y, hY⟩ : ∃ Y, d / 4096 = Y := ⟨_, rfl⟩
          have hdv : (d : Int) / 4096 = (Y : Int) := by omega
          have hY2 : Y < 4294967296 := by omega
          have hand := and15u hY2
          obtain ⟨Q, hQ⟩ : ∃ Q, Y % 16 = Q := ⟨_, rfl⟩
          rw [hQ] at hand
          have hQ16 : Q < 16 := by omega
          have hdg := dig16_at Q hQ16
          have HD := Lib.hid (show hdig d 4 = dig16 Q by rw [← hQ, ← hY]; rfl)
          obtain ⟨dd, hdd⟩ : ∃ dd, dig16 Q = dd := ⟨_, rfl⟩
          rw [hdd] at hdg HD
          have HNW := Lib.hid (World.news_of_block (heap_alloc_new wr (.cells #[.int .u8 (dd.toNat : Int)] 5)))
          have HN := Lib.hid (show M ++ [dd] = L ++ hexP d (4 + 1) by rw [hexP_succ, HD.out, HME.out, List.append_assoc])
          clear hQ hY hdd
          go_wp2_with (at_builtin; go_loud (refine wpList_append_lies _ rfl _ _ 50 rfl w.heap.size 5 i0 _ 1 1 Tryd.underlying50 hin hz0 hz1 hz2 rfl (by decide) (.slice Av2 O2 cv2) O2 (ubs M) rfl (HO2.out.alloc _) ⟨wr.heap.size, 0, none⟩ 1 1 [.int .u8 (dd.toNat : Int)] rfl rfl HNW.out (by simp [Value.oneCell']) (by omega) (by unfold maxLen; omega) (by omega) (by simp; omega) (wr.heap.size + 1) (by simp) ?_; intro gg cap2 w7 hown7 hgrow7 hat7 hlt7))
          have hb7 : Below w.heap.size w w7 := (HB2.out.alloc hw _).grown hgrow7 (by simp; omega) (fun q hq => (HO2.out.lt q hq).1)
          go_roundw
          case rel => exact ⟨4 + 1, O2 + 1, M ++ [dd], _, by omega, rfl, by omega, by have := HOJ.out; omega, by rw [List.length_append, HM.out]; rfl, HN.out, by rw [ubs_app]; exact hown7, hb7⟩
          case measure => simp [intOf]
        · obtain rfl : y = 8 := by omega
          clear hy
          obtain ⟨Y, hY⟩ : ∃ Y, d / 256 = Y := ⟨_, rfl⟩
          have hdv : (d : Int) / 256 = (Y : Int) := by omega
          have hY2 : Y < 4294967296 := by omega
          have hand := and15u hY2
          obtain ⟨Q, hQ⟩ : ∃ Q, Y % 16 = Q := ⟨_, rfl⟩
          rw [hQ] at hand
          have hQ16 : Q < 16 := by omega
          have hdg := dig16_at Q hQ16
          have HD := Lib.hid (show hdig d 5 = dig16 Q by rw [← hQ, ← hY]; rfl)
          obtain ⟨dd, hdd⟩ : ∃ dd, dig16 Q = dd := ⟨_, rfl⟩
          rw [hdd] at hdg HD
          have HNW := Lib.hid (World.news_of_block (heap_alloc_new wr (.cells #[.int .u8 (dd.toNat : Int)] 5)))
          have HN := Lib.hid (show M ++ [dd] = L ++ hexP d (5 + 1) by rw [hexP_succ, HD.out, HME.out, List.append_assoc])
          clear hQ hY hdd
          go_wp2_with (at_builtin; go_loud (refine wpList_append_lies _ rfl _ _ 50 rfl w.heap.size 5 i0 _ 1 1 Tryd.underlying50 hin hz0 hz1 hz2 rfl (by decide) (.slice Av2 O2 cv2) O2 (ubs M) rfl (HO2.out.alloc _) ⟨wr.heap.size, 0, none⟩ 1 1 [.int .u8 (dd.toNat : Int)] rfl rfl HNW.out (by simp [Value.oneCell']) (by omega) (by unfold maxLen; omega) (by omega) (by simp; omega) (wr.heap.size + 1) (by simp) ?_; intro gg cap2 w7 hown7 hgrow7 hat7 hlt7))
          have hb7 : Below w.heap.size w w7 := (HB2.out.alloc hw _).grown hgrow7 (by simp; omega) (fun q hq => (HO2.out.lt q hq).1)
          go_roundw
          case rel => exact ⟨5 + 1, O2 + 1, M ++ [dd], _, by omega, rfl, by omega, by have := HOJ.out; omega, by rw [List.length_append, HM.out]; rfl, HN.out, by rw [ubs_app]; exact hown7, hb7⟩
          case measure => simp [intOf]
        · obtain rfl : y = 4 := by omega
          clear hy
          obtain ⟨Y, hY⟩ : ∃ Y, d / 16 = Y := ⟨_, rfl⟩
          have hdv : (d : Int) / 16 = (Y : Int) := by omega
          have hY2 : Y < 4294967296 := by omega
          have hand := and15u hY2
          obtain ⟨Q, hQ⟩ : ∃ Q, Y % 16 = Q := ⟨_, rfl⟩
          rw [hQ] at hand
          have hQ16 : Q < 16 := by omega
          have hdg := dig16_at Q hQ16
          have HD := Lib.hid (show hdig d 6 = dig16 Q by rw [← hQ, ← hY]; rfl)
          obtain ⟨dd, hdd⟩ : ∃ dd, dig16 Q = dd := ⟨_, rfl⟩
          rw [hdd] at hdg HD
          have HNW := Lib.hid (World.news_of_block (heap_alloc_new wr (.cells #[.int .u8 (dd.toNat : Int)] 5)))
          have HN := Lib.hid (show M ++ [dd] = L ++ hexP d (6 + 1) by rw [hexP_succ, HD.out, HME.out, List.append_assoc])
          clear hQ hY hdd
          go_wp2_with (at_builtin; go_loud (refine wpList_append_lies _ rfl _ _ 50 rfl w.heap.size 5 i0 _ 1 1 Tryd.underlying50 hin hz0 hz1 hz2 rfl (by decide) (.slice Av2 O2 cv2) O2 (ubs M) rfl (HO2.out.alloc _) ⟨wr.heap.size, 0, none⟩ 1 1 [.int .u8 (dd.toNat : Int)] rfl rfl HNW.out (by simp [Value.oneCell']) (by omega) (by unfold maxLen; omega) (by omega) (by simp; omega) (wr.heap.size + 1) (by simp) ?_; intro gg cap2 w7 hown7 hgrow7 hat7 hlt7))
          have hb7 : Below w.heap.size w w7 := (HB2.out.alloc hw _).grown hgrow7 (by simp; omega) (fun q hq => (HO2.out.lt q hq).1)
          go_roundw
          case rel => exact ⟨6 + 1, O2 + 1, M ++ [dd], _, by omega, rfl, by omega, by have := HOJ.out; omega, by rw [List.length_append, HM.out]; rfl, HN.out, by rw [ubs_app]; exact hown7, hb7⟩
          case measure => simp [intOf]
        · obtain rfl : y = 0 := by omega
          clear hy
          obtain ⟨Y, hY⟩ : ∃ Y, d / 1 = Y := ⟨_, rfl⟩
          have hdv : (d : Int) / 1 = (Y : Int) := by omega
          have hY2 : Y < 4294967296 := by omega
          have hand := and15u hY2
          obtain ⟨Q, hQ⟩ : ∃ Q, Y % 16 = Q := ⟨_, rfl⟩
          rw [hQ] at hand
          have hQ16 : Q < 16 := by omega
          have hdg := dig16_at Q hQ16
          have HD := Lib.hid (show hdig d 7 = dig16 Q by rw [← hQ, ← hY]; rfl)
          obtain ⟨dd, hdd⟩ : ∃ dd, dig16 Q = dd := ⟨_, rfl⟩
          rw [hdd] at hdg HD
          have HNW := Lib.hid (World.news_of_block (heap_alloc_new wr (.cells #[.int .u8 (dd.toNat : Int)] 5)))
          have HN := Lib.hid (show M ++ [dd] = L ++ hexP d (7 + 1) by rw [hexP_succ, HD.out, HME.out, List.append_assoc])
          clear hQ hY hdd
          go_wp2_with (at_builtin; go_loud (refine wpList_append_lies _ rfl _ _ 50 rfl w.heap.size 5 i0 _ 1 1 Tryd.underlying50 hin hz0 hz1 hz2 rfl (by decide) (.slice Av2 O2 cv2) O2 (ubs M) rfl (HO2.out.alloc _) ⟨wr.heap.size, 0, none⟩ 1 1 [.int .u8 (dd.toNat : Int)] rfl rfl HNW.out (by simp [Value.oneCell']) (by omega) (by unfold maxLen; omega) (by omega) (by simp; omega) (wr.heap.size + 1) (by simp) ?_; intro gg cap2 w7 hown7 hgrow7 hat7 hlt7))
          have hb7 : Below w.heap.size w w7 := (HB2.out.alloc hw _).grown hgrow7 (by simp; omega) (fun q hq => (HO2.out.lt q hq).1)
          go_roundw
          case rel => exact ⟨7 + 1, O2 + 1, M ++ [dd], _, by omega, rfl, by omega, by have := HOJ.out; omega, by rw [List.length_append, HM.out]; rfl, HN.out, by rw [ubs_app]; exact hown7, hb7⟩
          case measure => simp [intOf]
        · obtain rfl : y = -4 := by omega
          clear hy
          have HT := Lib.hid (show M = hexA ([a, b, c, d].take (3 + 1)) by rw [HME.out, HLE.out]; show _ = hexA ([a, b, c, d].take 3 ++ [d]); rw [hexA_snoc])
          go_wp2_with fail
          go_roundw
          case rel => exact ⟨3 + 1, O2, M, _, by omega, rfl, by omega, by have := HOJ.out; have := HO8.out; omega, HM.out, HT.out, HO2.out, HB2.out⟩
          case measure => simp [intOf]
    · obtain rfl : x = 4 := by omega
      clear hx
      have hcv := conv_own HOW.out HLL.out
      go_wp2_with fail
      go_ret
      exact ⟨by rw [HLE.out]; rfl, HBW.out⟩
end Go.Proofs.YthlkibadiiiohaaDoor
