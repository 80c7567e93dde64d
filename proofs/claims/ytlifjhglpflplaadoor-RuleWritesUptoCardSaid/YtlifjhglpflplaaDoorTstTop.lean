/- DERIVED. How many tests there are, and how deep: lang.countTests, levels. Condition: at most 2^40 tests. -/
import Derived.Test.YtlifjhglpflplaaDoorTstChk
namespace Go.Proofs.YtlifjhglpflplaaDoor
open Go.RowKit
set_option linter.unusedVariables false
set_option linter.unusedSimpArgs false
def tstObj (k md lo hi : Int) (A : Option Addr) (n c : Nat) : Obj := .cells #[.int .i64 k, .int .i64 md, .int .i64 lo, .int .i64 hi, .slice A n c] 88
set_option maxRecDepth 100000 in
set_option maxHeartbeats 1600000 in
theorem countTests_any (N : Nat) : ∀ (k md lo hi : Int) (A : Option Addr) (n c : Nat) (kd : Tst) (m : Nat) (w : World), kd.nodes < N → kd.nodes ≤ 1099511627776 → m ≤ 20 → kd.At w w.heap.size A n →
    Calls Tryd.prog 71 #[eV k md lo hi A n c, .int .i64 m] w fun e w' => ∃ r : Nat, e = .returned (.int .i64 r) ∧ r ≤ kd.nodes + 1 ∧ 1 ≤ r ∧ (kd.nodes + 1 ≤ m → r = kd.nodes + 1) ∧ (m < kd.nodes + 1 → m < r) ∧ Below w.heap.size w w' := by
  induction N with
  | zero => intro k md lo hi A n c kd m w h; omega
  | succ N ih =>
    intro k md lo hi A n c kd m w hN hbig hm ha
    have IH := Lib.hid ih; clear ih
    have hnl := ha.len_eq
    have hn : n ≤ 1099511627776 := Nat.le_trans (by rw [hnl]; exact Tst.len_le kd) hbig
    have hw0 : Below w.heap.size w (w.alloc (.cells #[.int .i64 k, .int .i64 md, .int .i64 lo, .int .i64 hi, .slice A n c] 88)) := (Below.refl _ _).alloc (Nat.le_refl _) _
    have hbx := heap_alloc_new w (.cells #[.int .i64 k, .int .i64 md, .int .i64 lo, .int .i64 hi, .slice A n c] 88)
    have HNL := Lib.hid hnl; clear hnl
    have HA := Lib.hid ha; clear ha
    have H0 := Lib.hid hw0; clear hw0
    have HBX := Lib.hid hbx; clear hbx
    unfold eV
    go_enter Tryd.func71, Tryd.ntmps71
    go_wp2_with fail
    go_loopw [5, 6] (fun v i wr => ∃ (j x : Nat), j ≤ n ∧ i = .int .i64 j ∧ v = .int .i64 x ∧ 1 ≤ x ∧ x + (kd.drop j).nodes ≤ kd.nodes + 1 ∧ (x + (kd.drop j).nodes = kd.nodes + 1 ∨ m < x) ∧ Below (w.heap.size + 1) (w.alloc (.cells #[.int .i64 k, .int .i64 md, .int .i64 lo, .int .i64 hi, .slice A n c] 88)) wr) (fun _ i _ => n - (intOf i).toNat)
    case atStart => exact ⟨0, 1, Nat.zero_le _, rfl, rfl, Nat.le_refl _, by rw [Tst.drop_zero']; omega, .inl (by rw [Tst.drop_zero']; omega), Below.refl _ _⟩
    case round =>
      obtain ⟨j, x, hj, rfl, rfl, hx1, hxle, hxc, hbw⟩ := hrel
      have hbw2 : Below w.heap.size w wr := H0.out.trans (hbw.mono (by omega))
      have hsz := hbw.size
      simp only [World.size_alloc] at hsz
      obtain ⟨y0, y1, y2, y3, y4⟩ := box5 ((hbw.block w.heap.size (by omega)).trans HBX.out)
      have HBW := Lib.hid hbw; clear hbw
      by_cases hlt : j < n
      · obtain ⟨b, off, k1, md1, lo1, hi1, A1, n1, c1, kd1, r, rfl, e1, e2, E⟩ := HA.out.el j hlt
        have E' := E.below hbw2
        obtain ⟨hlb, x0, x1, x2, x3, x4, hnc, hcm, g0, g1, g2, g3, hat⟩ := E'
        clear E
        have hdn := Tst.nodes_drop' j kd
        rw [e1] at hdn hxle hxc
        simp only [Tst.nodes] at hdn hxle hxc
        by_cases hxm : x ≤ m
        · have hcall := fun wX (hX : Below w.heap.size wr wX) => IH.out k1 md1 lo1 hi1 A1 n1 c1 kd1 (m - x) wX (by omega) (by omega) (by omega) ((hat.below hX).more (Nat.le_trans hbw2.size hX.size))
          have HC := Lib.hid hcall
          have HE2 := Lib.hid e2
          have HXC := Lib.hid hxc
          have hsub : (m : Int) - (x : Int) = ((m - x : Nat) : Int) := by omega
          have hxmi : (x : Int) ≤ (m : Int) := by omega
          unfold eV at HC
          clear hcall e1 e2 hat hxc hnc hcm g0 g1 g2 g3
          go_wp2_with fail
          refine (HC.out _ (Below.refl _ _)).mono ?_
          rintro e w2 ⟨r1, rfl, q1, q2, q3, q4, hb2⟩
          have hb3 := HBW.out.trans (hb2.mono (by omega))
          have HB3 := Lib.hid hb3
          have HQ := Lib.hid (And.intro q3 q4)
          clear hb2 hb3 q3 q4
          go_wp2_with fail
          go_roundw
          case rel =>
            refine ⟨j + 1, x + r1, by omega, by go_num, by go_num, by omega, by rw [HE2.out]; omega, ?_, HB3.out⟩
            rw [HE2.out]
            obtain ⟨q3, q4⟩ := HQ.out
            rcases HXC.out with h | h
            · by_cases h5 : kd1.nodes + 1 ≤ m - x
              · left; have := q3 h5; omega
              · right; have := q4 (by omega); omega
            · right; omega
          case measure => simp [intOf]; omega
        · have hxmi : ¬ (x : Int) ≤ (m : Int) := by omega
          have HXC := Lib.hid hxc
          clear e1 e2 hat hxc hnc hcm g0 g1 g2 g3
          go_wp2_with fail
          go_ret
          exact ⟨x, rfl, by omega, hx1, fun h => by rcases HXC.out with h2 | h2 <;> omega, fun _ => by omega, H0.out.trans (HBW.out.mono (by omega))⟩
      · obtain rfl : j = n := by omega
        have hd : kd.drop j = .nil := by rw [HNL.out, Tst.drop_len']
        rw [hd] at hxle hxc
        simp only [Tst.nodes, Nat.add_zero] at hxle hxc
        have HXC := Lib.hid hxc
        clear hxc hd
        go_wp2_with fail
        go_ret
        exact ⟨x, rfl, hxle, hx1, fun h => by rcases HXC.out with h2 | h2 <;> omega, fun h => by rcases HXC.out with h2 | h2 <;> omega, H0.out.trans (HBW.out.mono (by omega))⟩
set_option maxRecDepth 100000 in
set_option maxHeartbeats 1600000 in
theorem levels_any (N : Nat) : ∀ (k md lo hi : Int) (A : Option Addr) (n c : Nat) (kd : Tst) (w : World), kd.nodes < N → kd.nodes ≤ 1099511627776 → kd.At w w.heap.size A n →
    Calls Tryd.prog 73 #[eV k md lo hi A n c] w fun e w' => e = .returned (.int .i64 ((kd.depth + 1 : Nat) : Int)) ∧ Below w.heap.size w w' := by
  induction N with
  | zero => intro k md lo hi A n c kd w h; omega
  | succ N ih =>
    intro k md lo hi A n c kd w hN hbig ha
    have IH := Lib.hid ih; clear ih
    have hnl := ha.len_eq
    have hn : n ≤ 1099511627776 := Nat.le_trans (by rw [hnl]; exact Tst.len_le kd) hbig
    have hdl := depth_le kd
    have hw0 : Below w.heap.size w (w.alloc (.cells #[.int .i64 k, .int .i64 md, .int .i64 lo, .int .i64 hi, .slice A n c] 88)) := (Below.refl _ _).alloc (Nat.le_refl _) _
    have HNL := Lib.hid hnl; clear hnl
    have HA := Lib.hid ha; clear ha
    have H0 := Lib.hid hw0; clear hw0
    unfold eV
    go_enter Tryd.func73, Tryd.ntmps73
    go_wp2_with fail
    go_loopw [3, 9] (fun v i wr => ∃ (j x : Nat), j ≤ n ∧ i = .int .i64 j ∧ v = .int .i64 x ∧ x ≤ kd.depth ∧ max x (kd.drop j).depth = kd.depth ∧ Below w.heap.size w wr) (fun _ i _ => n - (intOf i).toNat)
    case atStart => exact ⟨0, 0, Nat.zero_le _, rfl, rfl, Nat.zero_le _, by rw [Tst.drop_zero']; omega, H0.out⟩
    case round =>
      obtain ⟨j, x, hj, rfl, rfl, hxd, hmx, hbw⟩ := hrel
      by_cases hlt : j < n
      · obtain ⟨b, off, k1, md1, lo1, hi1, A1, n1, c1, kd1, r, rfl, e1, e2, E⟩ := HA.out.el j hlt
        have E' := E.below hbw
        obtain ⟨hlb, x0, x1, x2, x3, x4, hnc, hcm, g0, g1, g2, g3, hat⟩ := E'
        clear E
        have hsb : b < wr.heap.size := Nat.lt_of_lt_of_le hlb hbw.size
        have hdn := Tst.nodes_drop' j kd
        rw [e1] at hdn hmx
        simp only [Tst.nodes, Tst.depth] at hdn hmx
        have hcall := fun wX (hX : Below w.heap.size wr wX) => IH.out k1 md1 lo1 hi1 A1 n1 c1 kd1 wX (by omega) (by omega) ((hat.below hX).more (Nat.le_trans hbw.size hX.size))
        have HC := Lib.hid hcall
        have HE2 := Lib.hid e2
        have HMX := Lib.hid hmx
        have hd1 := depth_le kd1
        unfold eV at HC
        clear hcall e1 e2 hat hnc hcm g0 g1 g2 g3
        obtain ⟨d, hd⟩ : ∃ d, kd1.depth = d := ⟨_, rfl⟩
        rw [hd] at HC HMX hmx hd1
        clear hd
        by_cases hxd1 : x ≤ d + 1
        · have hmax : (x : Int) ≤ ((d + 1 : Nat) : Int) := by omega
          go_wp2_with fail
          refine (HC.out _ ((Below.refl _ _).alloc hbw.size _)).mono ?_
          rintro e w2 ⟨rfl, hb2⟩
          have hb3 := (hbw.alloc hbw.size _).trans (hb2.mono (by have := hbw.size; simp; omega))
          have HB3 := Lib.hid hb3
          clear hb2 hb3
          go_wp2_with fail
          all_goals (first | (exfalso; omega) | skip)
          go_roundw
          case rel => exact ⟨j + 1, d + 1, by omega, by go_num, by first | rfl | go_num, by omega, by rw [HE2.out]; have := HMX.out; omega, HB3.out⟩
          case measure => simp [intOf]; omega
        · have hmax : ¬ (x : Int) ≤ ((d + 1 : Nat) : Int) := by omega
          go_wp2_with fail
          refine (HC.out _ ((Below.refl _ _).alloc hbw.size _)).mono ?_
          rintro e w2 ⟨rfl, hb2⟩
          have hb3 := (hbw.alloc hbw.size _).trans (hb2.mono (by have := hbw.size; simp; omega))
          have HB3 := Lib.hid hb3
          clear hb2 hb3
          go_wp2_with fail
          all_goals (first | (exfalso; omega) | skip)
          go_roundw
          case rel => exact ⟨j + 1, x, by omega, by go_num, by first | rfl | go_num, by omega, by rw [HE2.out]; have := HMX.out; omega, HB3.out⟩
          case measure => simp [intOf]; omega
      · obtain rfl : j = n := by omega
        have hd : kd.drop j = .nil := by rw [HNL.out, Tst.drop_len']
        rw [hd] at hmx
        have hx : x = kd.depth := by simpa [Tst.depth] using hmx
        have HBW := Lib.hid hbw
        clear hbw hmx hd
        have hxb : x ≤ 1099511627776 := by omega
        subst hx
        go_wp2_with fail
        go_ret
        exact ⟨by first | rfl | simp, HBW.out⟩
end Go.Proofs.YtlifjhglpflplaaDoor
