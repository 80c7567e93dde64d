/- DERIVED. The reference's testsIn, testForm, testRange. Condition: at most 2^40 tests. -/
import Derived.Test.YtlifjhglpflplaaDoorTstForm
namespace Go.Proofs.YtlifjhglpflplaaDoor
open Go.RowKit
set_option linter.unusedVariables false
set_option linter.unusedSimpArgs false
set_option maxRecDepth 100000 in
set_option maxHeartbeats 1600000 in
theorem testsIn_any (N : Nat) : ∀ (k md lo hi : Int) (A : Option Addr) (n c : Nat) (kd : Tst) (w : World), kd.nodes < N → kd.nodes ≤ 1099511627776 → kd.At w w.heap.size A n →
    Calls Tryd.prog 80 #[eV k md lo hi A n c] w fun e w' => e = .returned (.tuple #[.int .i64 ((kd.nodes + 1 : Nat) : Int), .int .i64 ((kd.depth + 1 : Nat) : Int)]) ∧ Below w.heap.size w w' := by
  induction N with
  | zero => intro k md lo hi A n c kd w h; omega
  | succ N ih =>
    intro k md lo hi A n c kd w hN hbig ha
    have IH := Lib.hid ih; clear ih
    have hnl := ha.len_eq
    have hn : n ≤ 1099511627776 := Nat.le_trans (by rw [hnl]; exact Tst.len_le kd) hbig
    have hdl := depth_le kd
    have hw0 : Below w.heap.size w (w.alloc (.cells #[.int .i64 k, .int .i64 md, .int .i64 lo, .int .i64 hi, .slice A n c] 88)) := (Below.refl _ _).alloc (Nat.le_refl _) _
    have HNL := Lib.hid hnl; clear hnl
    have HA := Lib.hid ha; clear ha
    have H0 := Lib.hid hw0; clear hw0
    unfold eV
    go_enter Tryd.func80, Tryd.ntmps80
    go_wp2_with fail
    go_loopw [2, 3, 11] (fun u v i wr => ∃ (j y x : Nat), j ≤ n ∧ i = .int .i64 j ∧ u = .int .i64 y ∧ v = .int .i64 x ∧ y + (kd.drop j).nodes = kd.nodes + 1 ∧ x ≤ kd.depth ∧ max x (kd.drop j).depth = kd.depth ∧ Below w.heap.size w wr) (fun _ _ i _ => n - (intOf i).toNat)
    case atStart => exact ⟨0, 1, 0, Nat.zero_le _, rfl, rfl, rfl, by rw [Tst.drop_zero']; omega, Nat.zero_le _, by rw [Tst.drop_zero']; omega, H0.out⟩
    case round =>
      obtain ⟨j, y, x, hj, rfl, rfl, rfl, hy, hxd, hmx, hbw⟩ := hrel
      by_cases hlt : j < n
      · obtain ⟨b, off, k1, md1, lo1, hi1, A1, n1, c1, kd1, r, rfl, e1, e2, E⟩ := HA.out.el j hlt
        have E' := E.below hbw
        obtain ⟨hlb, x0, x1, x2, x3, x4, hnc, hcm, g0, g1, g2, g3, hat⟩ := E'
        clear E
        have hsb : b < wr.heap.size := Nat.lt_of_lt_of_le hlb hbw.size
        have hdn := Tst.nodes_drop' j kd
        rw [e1] at hdn hmx hy
        simp only [Tst.nodes, Tst.depth] at hdn hmx hy
        have hcall := fun wX (hX : Below w.heap.size wr wX) => IH.out k1 md1 lo1 hi1 A1 n1 c1 kd1 wX (by omega) (by omega) ((hat.below hX).more (Nat.le_trans hbw.size hX.size))
        have HC := Lib.hid hcall
        have HE2 := Lib.hid e2
        have HMX := Lib.hid hmx
        have hd1 := depth_le kd1
        unfold eV at HC
        clear hcall e1 e2 hat hnc hcm g0 g1 g2 g3
        obtain ⟨d, hd⟩ : ∃ d, kd1.depth = d := ⟨_, rfl⟩
        obtain ⟨nn, hnn⟩ : ∃ nn, kd1.nodes = nn := ⟨_, rfl⟩
        rw [hd, hnn] at HC
        rw [hd] at HMX hmx hd1
        rw [hnn] at hy hdn hd1
        clear hd hnn
        by_cases hxd1 : x ≤ d + 1
        · have hmax : (x : Int) ≤ ((d + 1 : Nat) : Int) := by omega
          go_wp2_with fail
          refine (HC.out _ ((Below.refl _ _).alloc hbw.size _)).mono ?_
          rintro e w2 ⟨rfl, hb2⟩
          have hb3 := (hbw.alloc hbw.size _).trans (hb2.mono (by have := hbw.size; simp; omega))
          have HB3 := Lib.hid hb3
          clear hb2 hb3
          go_wp2_with fail
          all_goals (first | (exfalso; omega) | skip)
          go_roundw
          case rel => exact ⟨j + 1, y + (nn + 1), d + 1, by omega, by go_num, by first | rfl | go_num, by first | rfl | go_num, by rw [HE2.out]; omega, by omega, by rw [HE2.out]; have := HMX.out; omega, HB3.out⟩
          case measure => simp [intOf]; omega
        · have hmax : ¬ (x : Int) ≤ ((d + 1 : Nat) : Int) := by omega
          go_wp2_with fail
          refine (HC.out _ ((Below.refl _ _).alloc hbw.size _)).mono ?_
          rintro e w2 ⟨rfl, hb2⟩
          have hb3 := (hbw.alloc hbw.size _).trans (hb2.mono (by have := hbw.size; simp; omega))
          have HB3 := Lib.hid hb3
          clear hb2 hb3
          go_wp2_with fail
          all_goals (first | (exfalso; omega) | skip)
          go_roundw
          case rel => exact ⟨j + 1, y + (nn + 1), x, by omega, by go_num, by first | rfl | go_num, by first | rfl | go_num, by rw [HE2.out]; omega, by omega, by rw [HE2.out]; have := HMX.out; omega, HB3.out⟩
          case measure => simp [intOf]; omega
      · obtain rfl : j = n := by omega
        have hd : kd.drop j = .nil := by rw [HNL.out, Tst.drop_len']
        rw [hd] at hmx hy
        have hx : x = kd.depth := by simpa [Tst.depth] using hmx
        have hyy : y = kd.nodes + 1 := by simpa [Tst.nodes] using hy
        have HBW := Lib.hid hbw
        clear hbw hmx hd hy
        have hxb : x ≤ 1099511627776 := by omega
        subst hx
        subst hyy
        go_wp2_with fail
        go_ret2
        exact ⟨by first | rfl | simp, HBW.out⟩
set_option maxRecDepth 100000 in
set_option maxHeartbeats 800000 in
theorem testRange_gen (k md lo hi : Int) (A : Option Addr) (n c : Nat) (kd : Tst) (w : World) (hbig : kd.nodes ≤ 1099511627776) (ha : kd.At w w.heap.size A n) (P : TP)
    (hc : ∀ (i : Nat) (k1 md1 lo1 hi1 : Int) (kd1 r : Tst), kd.drop i = .cons k1 md1 lo1 hi1 kd1 r → ∀ (A1 : Option Addr) (n1 c1 : Nat) (wX : World), kd1.At wX wX.heap.size A1 n1 → CallsEv 82 k1 md1 lo1 hi1 A1 n1 c1 wX (!P k1 md1 lo1 hi1 kd1)) :
    CallsEv 82 k md lo hi A n c w (if k = 1 then rangeB md lo hi else !anyE P kd) := by
  have ea : ∀ args w, (callFunc 110 args).run Tryd.prog w = .ok (.enter 110 args) w := enters_of Tryd.func110 (by kernel_rfl) rfl
  have hn : n ≤ 1099511627776 := Nat.le_trans (by rw [ha.len_eq]; exact Tst.len_le kd) hbig
  have hw0 : Below w.heap.size w (w.alloc (.cells #[.int .i64 k, .int .i64 md, .int .i64 lo, .int .i64 hi, .slice A n c] 88)) := (Below.refl _ _).alloc (Nat.le_refl _) _
  have hcl := containsT_any kd P 110 #[] A n c (w.alloc (.cells #[.int .i64 k, .int .i64 md, .int .i64 lo, .int .i64 hi, .slice A n c] 88)) ea hn ((ha.below hw0).more hw0.size) (fun wX i hX k1 m1 l1 h1 A1 n1 c1 kd1 r he hat _ _ _ _ _ _ => by
    have hw1 : Below wX.heap.size wX (wX.alloc (.cells #[.int .i64 k1, .int .i64 m1, .int .i64 l1, .int .i64 h1, .slice A1 n1 c1] 88)) := (Below.refl _ _).alloc (Nat.le_refl _) _
    have HC := Lib.hid (hc i k1 m1 l1 h1 kd1 r he A1 n1 c1 _ ((hat.below hw1).more hw1.size))
    have H1 := Lib.hid hw1
    unfold CallsEv at HC
    unfold eV at HC ⊢
    show Calls Tryd.prog 110 #[.agg #[.int .i64 k1, .int .i64 m1, .int .i64 l1, .int .i64 h1, .slice A1 n1 c1]] wX _
    generalize P k1 m1 l1 h1 kd1 = b at HC ⊢
    clear hw1 hat he hc hX ea hw0 ha
    go_enter Tryd.func110, Tryd.ntmps110
    go_wp2_with fail
    refine HC.out.mono ?_
    rintro e w2 ⟨rfl, hb⟩
    have HB := Lib.hid (H1.out.trans (hb.mono H1.out.size))
    clear hb
    go_wp2_with fail
    go_ret
    exact ⟨by cases b <;> rfl, HB.out⟩)
  have HC := Lib.hid hcl
  have H0 := Lib.hid hw0
  clear hcl hw0 hc ha ea
  unfold CallsEv eV
  by_cases h1 : k = 1
  · subst h1
    rw [if_pos rfl]
    clear HC
    unfold rangeB
    go_enter Tryd.func82, Tryd.ntmps82
    go_wp2_with fail
    all_goals (go_ret; exact ⟨by first | rfl | (simp_all; done) | (simp_all; omega), (Below.refl _ _).alloc (Nat.le_refl _) _⟩)
  · have hk1 : (k == 1) = false := by simpa using h1
    rw [if_neg h1]
    generalize anyE P kd = b at HC ⊢
    go_enter Tryd.func82, Tryd.ntmps82
    go_wp2_with fail
    refine HC.out.mono ?_
    rintro e w2 ⟨rfl, hb⟩
    have HB := Lib.hid (H0.out.trans (hb.mono H0.out.size))
    clear hb
    go_wp2_with fail
    go_ret
    exact ⟨by cases b <;> rfl, HB.out⟩
end Go.Proofs.YtlifjhglpflplaaDoor
