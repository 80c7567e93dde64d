/- DERIVED. The reference's testForm. Condition: at most 2^40 tests. -/
import Derived.Test.YtlifjhglpflplaaDoorTstRefA
import Derived.Test.YtlifjhglpflplaaDoorTstMap
namespace Go.Proofs.YtlifjhglpflplaaDoor
open Go.RowKit
set_option linter.unusedVariables false
set_option linter.unusedSimpArgs false
/-- What is wrong with the kids from some one on. -/
def gB (k : Int) (r : Tst) : Bool := (decide (k ≠ 4) && r.hasOp k) || r.anyT badF
theorem gB_cons (k k1 md1 lo1 hi1 : Int) (c r : Tst) : gB k (.cons k1 md1 lo1 hi1 c r) = ((badF k1 md1 lo1 hi1 c || c.anyT badF) || (decide (k1 = k) && decide (k ≠ 4)) || gB k r) := by
  unfold gB
  show ((decide (k ≠ 4) && (decide (k1 = k) || r.hasOp k)) || ((badF k1 md1 lo1 hi1 c || c.anyT badF) || r.anyT badF)) = _
  cases decide (k ≠ 4) <;> cases decide (k1 = k) <;> cases r.hasOp k <;> cases (badF k1 md1 lo1 hi1 c || c.anyT badF) <;> cases r.anyT badF <;> rfl
theorem tf_1 (md lo hi : Int) (kd : Tst) (n : Nat) (hn : n = kd.len) : (!(badF 1 md lo hi kd || kd.anyT badF)) = decide ((n : Int) = 0) := by
  unfold badF
  rw [if_pos rfl, ← hn]
  cases kd with
  | nil => subst hn; rfl
  | cons a b c d e f =>
    have : 0 < n := by rw [hn]; simp [Tst.len]
    rw [decide_eq_true this, decide_eq_false (by omega)]
    rfl
theorem bad_fields {k md lo hi : Int} {kd : Tst} (h1 : k ≠ 1) (h : md ≠ 0 ∨ lo ≠ 0 ∨ hi ≠ 0) : badF k md lo hi kd = true := by
  unfold badF
  rw [if_neg h1, if_pos h]
theorem bad_few {k : Int} {kd : Tst} (h : k = 2 ∨ k = 3) (hl : kd.len < 2) : badF k 0 0 0 kd = true := by
  unfold badF
  rw [if_neg (by omega), if_neg (by omega), if_pos h, decide_eq_true hl]
  rfl
theorem bad_few4 {kd : Tst} (hl : kd.len < 1) : badF 4 0 0 0 kd = true := by
  unfold badF
  rw [if_neg (by omega), if_neg (by omega), if_neg (by omega), if_pos rfl, decide_eq_true hl]
theorem bad_op {k md lo hi : Int} {kd : Tst} (h1 : k ≠ 1) (h2 : k ≠ 2) (h3 : k ≠ 3) (h4 : k ≠ 4) : badF k md lo hi kd = true := by
  unfold badF
  rw [if_neg h1]
  split
  · rfl
  · simp [h2, h3, h4]
theorem good_g {k : Int} {kd : Tst} (h : k = 2 ∨ k = 3) (hl : ¬ kd.len < 2) : (badF k 0 0 0 kd || kd.anyT badF) = gB k kd := by
  unfold badF gB
  rw [if_neg (by omega), if_neg (by omega), if_pos h, decide_eq_false hl, decide_eq_true (show k ≠ 4 by omega)]
  rfl
theorem good_g4 {kd : Tst} (hl : ¬ kd.len < 1) : (badF 4 0 0 0 kd || kd.anyT badF) = gB 4 kd := by
  unfold badF gB
  rw [if_neg (by omega), if_neg (by omega), if_neg (by omega), if_pos rfl, decide_eq_false hl]
  rfl
set_option maxRecDepth 100000 in
set_option maxHeartbeats 3200000 in
theorem testForm_any (N : Nat) : ∀ (k md lo hi : Int) (A : Option Addr) (n c : Nat) (kd : Tst) (w : World), kd.nodes < N → kd.nodes ≤ 1099511627776 → kd.At w w.heap.size A n → CallsEv 81 k md lo hi A n c w (!(badF k md lo hi kd || kd.anyT badF)) := by
  induction N with
  | zero => intro k md lo hi A n c kd w h; omega
  | succ N ih =>
    intro k md lo hi A n c kd w hN hbig ha
    have IH := Lib.hid ih; clear ih
    have hnl := ha.len_eq
    have hn : n ≤ 1099511627776 := Nat.le_trans (by rw [hnl]; exact Tst.len_le kd) hbig
    obtain ⟨W0, hW0⟩ : ∃ W0, w.alloc (.cells #[.int .i64 k, .int .i64 md, .int .i64 lo, .int .i64 hi, .slice A n c] 88) = W0 := ⟨_, rfl⟩
    have hw0 : Below w.heap.size w W0 := by rw [← hW0]; exact (Below.refl _ _).alloc (Nat.le_refl _) _
    have hs0 : W0.heap.size = w.heap.size + 1 := by rw [← hW0]; simp
    have hb0 := heap_alloc_new w (.cells #[.int .i64 k, .int .i64 md, .int .i64 lo, .int .i64 hi, .slice A n c] 88)
    rw [hW0] at hb0
    obtain ⟨W1, hW1⟩ : ∃ W1, W0.alloc (.map leastM 3) = W1 := ⟨_, rfl⟩
    have hw1 : Below w.heap.size w W1 := by rw [← hW1]; exact hw0.alloc (by omega) _
    have hs1 : W1.heap.size = w.heap.size + 2 := by rw [← hW1]; simp; omega
    have hb1 : W1.heap[w.heap.size]? = some (.cells #[.int .i64 k, .int .i64 md, .int .i64 lo, .int .i64 hi, .slice A n c] 88) := by rw [← hW1]; exact (Below.heap_alloc _ _ _ (by omega)).trans hb0
    have hm1 : W1.heap[W0.heap.size]? = some (.map leastM 3) := by rw [← hW1]; exact heap_alloc_new _ _
    have HW1 := Lib.hid hw1
    have HB1 := Lib.hid hb1
    have HNL := Lib.hid hnl
    have HA := Lib.hid ha
    have q1 := put1 W0
    have q2 := put2 W0
    have q3 := put3 W0
    rw [hW1] at q3
    rw [hs0] at q1 q2 q3 hm1
    have hmm := @run_makeMap Tryd.prog
    have HM1 := Lib.hid hm1
    obtain ⟨y0, y1, y2, y3, y4⟩ := box5 hb1
    have HW0 := Lib.hid hW0
    clear hnl ha hb0 hW0 hW1 hw1 hm1 hb1 hw0
    unfold CallsEv eV
    by_cases h1 : k = 1
    · have hv := tf_1 md lo hi kd n HNL.out
      rw [h1, hv]
      have g := getN W1 (w.heap.size + 1) 1 (by decide) (by decide) (by decide) HM1.out
      subst h1
      go_enter Tryd.func81, Tryd.ntmps81
      go_upto_region 1 with (fail)
      rw [HW0.out]
      go_wp2_with fail
      go_ret
      exact ⟨rfl, HW1.out⟩
    · have hk1 : (k == 1) = false := by simpa using h1
      by_cases hj : k = 2 ∨ k = 3 ∨ k = 4
      · obtain ⟨m0, g, hm0, hlt0, hge0⟩ : ∃ m0 : Nat, (Instr.lookup 117 (.map (some (w.heap.size + 1))) (.int .i64 k) true).run Tryd.prog W1 = .ok (.tuple #[.int .i64 (m0 : Int), .bool true]) W1 ∧ m0 ≤ 2 ∧ (kd.len < m0 → badF k 0 0 0 kd = true) ∧ (¬ kd.len < m0 → (badF k 0 0 0 kd || kd.anyT badF) = gB k kd) := by
          rcases hj with rfl | rfl | rfl
          · exact ⟨2, get2 W1 _ HM1.out, by omega, bad_few (.inl rfl), good_g (.inl rfl)⟩
          · exact ⟨2, get3 W1 _ HM1.out, by omega, bad_few (.inr rfl), good_g (.inr rfl)⟩
          · exact ⟨1, get4 W1 _ HM1.out, by omega, bad_few4, good_g4⟩
        have HLT := Lib.hid hlt0
        have HGE := Lib.hid hge0
        have HJ := Lib.hid hj
        clear hlt0 hge0 hj
        by_cases hf : md = 0 ∧ lo = 0 ∧ hi = 0
        · obtain ⟨rfl, rfl, rfl⟩ := hf
          by_cases hl : n < m0
          · have HV := Lib.hid (show (!(badF k 0 0 0 kd || kd.anyT badF)) = false by rw [HLT.out (by rw [← HNL.out]; exact hl)]; rfl)
            have hli : (n : Int) < (m0 : Int) := by omega
            rw [HV.out]
            go_enter Tryd.func81, Tryd.ntmps81
            go_upto_region 1 with (fail)
            rw [HW0.out]
            go_wp2_with fail
            go_ret
            exact ⟨rfl, HW1.out⟩
          · have HV := Lib.hid (HGE.out (by rw [← HNL.out]; exact hl))
            have hli : ¬ (n : Int) < (m0 : Int) := by omega
            rw [HV.out]
            go_enter Tryd.func81, Tryd.ntmps81
            go_upto_region 1 with (fail)
            rw [HW0.out]
            go_wp2_with fail
            clear q1 q2 q3 g hmm y0 y1 y2 y3 y4
            go_loopw [51] (fun i wr => ∃ j : Nat, j ≤ n ∧ i = .int .i64 j ∧ gB k kd = gB k (kd.drop j) ∧ Below (w.heap.size + 2) W1 wr) (fun i _ => n - (intOf i).toNat)
            case atStart => exact ⟨0, Nat.zero_le _, rfl, by rw [Tst.drop_zero'], Below.refl _ _⟩
            case round =>
              obtain ⟨j, hj, rfl, hx, hbw⟩ := hrel
              have hbw2 : Below w.heap.size w wr := HW1.out.trans (hbw.mono (by omega))
              have hsz := hbw.size
              rw [hs1] at hsz
              obtain ⟨z0, z1, z2, z3, z4⟩ := box5 ((hbw.block w.heap.size (by omega)).trans HB1.out)
              have HX := Lib.hid hx
              have HBW := Lib.hid hbw
              clear hx hbw
              by_cases hlt : j < n
              · obtain ⟨b, off, k1, md1, lo1, hi1, A1, n1, c1, kd1, r, rfl, e1, e2, E⟩ := HA.out.el j hlt
                have E' := E.below hbw2
                obtain ⟨hlb, x0, x1, x2, x3, x4, hnc, hcm, g0, g1, g2, g3, hat⟩ := E'
                clear E
                have hsb : b < wr.heap.size := Nat.lt_of_lt_of_le hlb hbw2.size
                have hdn := Tst.nodes_drop' j kd
                rw [e1] at hdn
                simp only [Tst.nodes] at hdn
                have hGC : gB k kd = ((badF k1 md1 lo1 hi1 kd1 || kd1.anyT badF) || (decide (k1 = k) && decide (k ≠ 4)) || gB k r) := by rw [HX.out, e1, gB_cons]
                have hwe : Below wr.heap.size wr (wr.alloc (.cells #[.int .i64 k1, .int .i64 md1, .int .i64 lo1, .int .i64 hi1, .slice A1 n1 c1] 88)) := (Below.refl _ _).alloc (Nat.le_refl _) _
                have hbe := heap_alloc_new wr (.cells #[.int .i64 k1, .int .i64 md1, .int .i64 lo1, .int .i64 hi1, .slice A1 n1 c1] 88)
                have HC := Lib.hid (IH.out k1 md1 lo1 hi1 A1 n1 c1 kd1 _ (by omega) (by omega) ((hat.below (hwe.mono (by omega))).more (by simp; omega)))
                have hz0 : (wr.alloc (.cells #[.int .i64 k1, .int .i64 md1, .int .i64 lo1, .int .i64 hi1, .slice A1 n1 c1] 88)).heap[w.heap.size]? = some (.cells #[.int .i64 k, .int .i64 0, .int .i64 0, .int .i64 0, .slice (some ⟨b, off, none⟩) n c] 88) := (hwe.block w.heap.size (by omega)).trans ((HBW.out.block w.heap.size (by omega)).trans HB1.out)
                have HBE := Lib.hid hbe
                have HZ0 := Lib.hid hz0
                have HGC := Lib.hid hGC
                have HE2 := Lib.hid e2
                have HWE := Lib.hid hwe
                unfold CallsEv eV at HC
                clear hbe hz0 hGC e1 e2 hwe hat hnc hcm g0 g1 g2 g3
                obtain ⟨bb, hbb⟩ : ∃ bb, (badF k1 md1 lo1 hi1 kd1 || kd1.anyT badF) = bb := ⟨_, rfl⟩
                rw [hbb] at HC HGC
                clear hbb
                cases bb with
                | true =>
                  go_wp2_with fail
                  refine HC.out.mono ?_
                  rintro e w2 ⟨rfl, hb2⟩
                  have HB2 := Lib.hid (hbw2.trans ((HWE.out.mono hbw2.size).trans (hb2.mono (by simp; omega))))
                  clear hb2
                  go_wp2_with fail
                  go_ret
                  exact ⟨by rw [HGC.out]; rfl, HB2.out⟩
                | false =>
                  go_wp2_with fail
                  refine HC.out.mono ?_
                  rintro e w2 ⟨rfl, hb2⟩
                  obtain ⟨u0, u1, u2, u3, u4⟩ := box5 ((hb2.block wr.heap.size (by simp)).trans HBE.out)
                  obtain ⟨v0, v1, v2, v3, v4⟩ := box5 ((hb2.block w.heap.size (by simp; omega)).trans HZ0.out)
                  have HB2 := Lib.hid (HBW.out.trans ((HWE.out.mono (by omega)).trans (hb2.mono (by simp; omega))))
                  clear hb2
                  by_cases hkk : k1 = k
                  · by_cases hk4 : k = 4
                    · have HG2 := Lib.hid (show gB k kd = gB k r by rw [HGC.out, decide_eq_false (show ¬ k ≠ 4 from fun h => h hk4)]; simp)
                      subst hkk
                      subst hk4
                      go_wp2_with fail
                      go_roundw
                      case rel => exact ⟨j + 1, by omega, by go_num, by rw [HG2.out, HE2.out], HB2.out⟩
                      case measure => simp [intOf]; omega
                    · have HG2 := Lib.hid (show gB k kd = true by rw [HGC.out, decide_eq_true hkk, decide_eq_true (show k ≠ 4 from hk4)]; simp)
                      have hk4b : (k == 4) = false := by simpa using hk4
                      subst hkk
                      go_wp2_with fail
                      go_ret
                      exact ⟨by rw [HG2.out]; rfl, HW1.out.trans (HB2.out.mono (by omega))⟩
                  · have HG2 := Lib.hid (show gB k kd = gB k r by rw [HGC.out, decide_eq_false hkk]; simp)
                    have hkkb : (k1 == k) = false := by simpa using hkk
                    go_wp2_with fail
                    go_roundw
                    case rel => exact ⟨j + 1, by omega, by go_num, by rw [HG2.out, HE2.out], HB2.out⟩
                    case measure => simp [intOf]; omega
              · obtain rfl : j = n := by omega
                have hd : kd.drop j = .nil := by rw [HNL.out, Tst.drop_len']
                have HG2 := Lib.hid (show gB k kd = false by rw [HX.out, hd]; unfold gB; simp [Tst.hasOp, Tst.anyT])
                clear hd
                go_wp2_with fail
                go_ret
                exact ⟨by rw [HG2.out]; rfl, HW1.out.trans (HBW.out.mono (by omega))⟩
        · have HV := Lib.hid (show (!(badF k md lo hi kd || kd.anyT badF)) = false by rw [bad_fields h1 (by omega)]; rfl)
          rw [HV.out]
          have hf2 : md ≠ 0 ∨ lo ≠ 0 ∨ hi ≠ 0 := by omega
          go_enter Tryd.func81, Tryd.ntmps81
          go_upto_region 1 with (fail)
          rw [HW0.out]
          by_cases hl : (n : Int) < (m0 : Int)
          · go_wp2_with fail
            go_ret
            exact ⟨rfl, HW1.out⟩
          · by_cases hmd : md = 0
            · by_cases hlo : lo = 0
              · have hhi : (hi == 0) = false := by have : hi ≠ 0 := by omega
                                                   simpa using this
                subst hmd
                subst hlo
                go_wp2_with fail
                go_ret
                exact ⟨rfl, HW1.out⟩
              · have hlob : (lo == 0) = false := by simpa using hlo
                subst hmd
                go_wp2_with fail
                go_ret
                exact ⟨rfl, HW1.out⟩
            · have hmdb : (md == 0) = false := by simpa using hmd
              go_wp2_with fail
              go_ret
              exact ⟨rfl, HW1.out⟩
      · have hk2 : k ≠ 2 := fun h => hj (.inl h)
        have hk3 : k ≠ 3 := fun h => hj (.inr (.inl h))
        have hk4 : k ≠ 4 := fun h => hj (.inr (.inr h))
        have HV := Lib.hid (show (!(badF k md lo hi kd || kd.anyT badF)) = false by rw [bad_op h1 hk2 hk3 hk4]; rfl)
        have g := getN W1 (w.heap.size + 1) k hk2 hk3 hk4 HM1.out
        rw [HV.out]
        clear hj hk2 hk3 hk4
        go_enter Tryd.func81, Tryd.ntmps81
        go_upto_region 1 with (fail)
        rw [HW0.out]
        go_wp2_with fail
        go_ret
        exact ⟨rfl, HW1.out⟩
end Go.Proofs.YtlifjhglpflplaaDoor
