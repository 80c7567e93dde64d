/- DERIVED. The reference's testRange, RuleFault. Condition: at most 2^40 - 1 tests. -/
import Derived.Test.YtlifjhglpflplaaDoorTstRefB
namespace Go.Proofs.YtlifjhglpflplaaDoor
open Go.RowKit
set_option linter.unusedVariables false
set_option linter.unusedSimpArgs false
/-- All numbers are within their bounds, as the reference asks it. -/
def Tst.farB : Tst → Bool
  | .nil => true
  | .cons k md lo hi c r => (if k = 1 then rangeB md lo hi else c.farB) && r.farB
theorem farB_any : ∀ d : Tst, anyE (fun k md lo hi c => !(if k = 1 then rangeB md lo hi else c.farB)) d = !d.farB
  | .nil => rfl
  | .cons k md lo hi c r => by
    show ((!(if k = 1 then rangeB md lo hi else c.farB)) || anyE (fun k md lo hi c => !(if k = 1 then rangeB md lo hi else c.farB)) r) = !((if k = 1 then rangeB md lo hi else c.farB) && r.farB)
    rw [farB_any r, Bool.not_and]
theorem badF_zero {k md lo hi : Int} {c : Tst} (h : badF k md lo hi c = false) (hk : k ≠ 1) : md = 0 ∧ lo = 0 ∧ hi = 0 := by
  unfold badF at h
  rw [if_neg hk] at h
  split at h
  · cases h
  · omega
theorem farB_right : ∀ d : Tst, d.anyT badF = false → d.farB = !d.anyT badR
  | .nil, _ => rfl
  | .cons k md lo hi c r, h => by
    obtain ⟨h1, h2, h3⟩ := anyT_cons h
    have ic := farB_right c h2
    have ir := farB_right r h3
    show ((if k = 1 then rangeB md lo hi else c.farB) && r.farB) = !((badR k md lo hi c || c.anyT badR) || r.anyT badR)
    rw [ir]
    by_cases hk : k = 1
    · rw [if_pos hk]
      subst hk
      have hl : c.len = 0 := by
        rcases badF_ops h1 with ⟨_, h0⟩ | h0
        · exact h0
        · omega
      have hc : c = .nil := by
        cases c with
        | nil => rfl
        | cons => simp [Tst.len] at hl
      subst hc
      unfold badR
      show (rangeB md lo hi && !r.anyT badR) = !((!rangeB md lo hi || false) || r.anyT badR)
      cases rangeB md lo hi <;> cases r.anyT badR <;> rfl
    · rw [if_neg hk, ic]
      obtain ⟨rfl, rfl, rfl⟩ := badF_zero h1 hk
      have hb : badR k 0 0 0 c = false := by unfold badR; rfl
      rw [hb]
      cases c.anyT badR <;> cases r.anyT badR <;> rfl
theorem testRange_any (N : Nat) : ∀ (k md lo hi : Int) (A : Option Addr) (n c : Nat) (kd : Tst) (w : World), kd.nodes ≤ N → kd.nodes ≤ 1099511627776 → kd.At w w.heap.size A n → CallsEv 82 k md lo hi A n c w (if k = 1 then rangeB md lo hi else kd.farB) := by
  induction N with
  | zero =>
    intro k md lo hi A n c kd w hN hbig ha
    have h := testRange_gen k md lo hi A n c kd w hbig ha (fun k md lo hi c => !(if k = 1 then rangeB md lo hi else c.farB)) (fun i k1 m1 l1 h1 kd1 r he => by
      have h2 := Tst.nodes_drop' i kd
      rw [he] at h2
      simp only [Tst.nodes] at h2
      omega)
    rw [farB_any, Bool.not_not] at h
    exact h
  | succ N ih =>
    intro k md lo hi A n c kd w hN hbig ha
    have h := testRange_gen k md lo hi A n c kd w hbig ha (fun k md lo hi c => !(if k = 1 then rangeB md lo hi else c.farB)) (fun i k1 m1 l1 h1 kd1 r he A1 n1 c1 wX hat => by
      have h2 := Tst.nodes_drop' i kd
      rw [he] at h2
      simp only [Tst.nodes] at h2
      have h3 := ih k1 m1 l1 h1 A1 n1 c1 kd1 wX (by omega) (by omega) hat
      rw [Bool.not_not]
      exact h3)
    rw [farB_any, Bool.not_not] at h
    exact h
theorem anyC_cons (k md lo hi : Int) (c r : Tst) : anyC (.cons k md lo hi c r) = (decide (20 < c.nodes + 1) || anyC r) := rfl
theorem anyL_cons (k md lo hi : Int) (c r : Tst) : anyL (.cons k md lo hi c r) = (decide (12 < c.depth + 1) || anyL r) := rfl
theorem farB_cons (k md lo hi : Int) (c r : Tst) : (Tst.cons k md lo hi c r).farB = ((if k = 1 then rangeB md lo hi else c.farB) && r.farB) := rfl
theorem badF_cons (k md lo hi : Int) (c r : Tst) : (Tst.cons k md lo hi c r).anyT badF = ((badF k md lo hi c || c.anyT badF) || r.anyT badF) := rfl
set_option maxRecDepth 100000 in
set_option maxHeartbeats 3200000 in
theorem ruleFault_any (d : Tst) (A : Option Addr) (n c : Nat) (w : World) (hbig : d.nodes ≤ 1099511627775) (ha : d.At w w.heap.size A n) :
    Calls Tryd.prog 46 #[.agg #[.slice A n c]] w fun e w' => e = .returned (.int .i64 (ruleErr d)) ∧ Below w.heap.size w w' := by
  have hnl := ha.len_eq
  have hn : n ≤ 1099511627776 := Nat.le_trans (by rw [hnl]; exact Tst.len_le d) (by omega)
  have hw0 : Below w.heap.size w (w.alloc (.cells #[.slice A n c] 35)) := (Below.refl _ _).alloc (Nat.le_refl _) _
  by_cases h6 : 6 < n
  · have h6i : (6 : Int) < (n : Int) := by omega
    have HE := Lib.hid (ruleErr_a (d := d) (by omega))
    have H0 := Lib.hid hw0
    clear hnl hw0 ha
    go_enter Tryd.func46, Tryd.ntmps46
    go_wp2_with fail
    go_ret
    exact ⟨by rw [HE.out]; rfl, H0.out⟩
  · have h6i : ¬ (6 : Int) < (n : Int) := by omega
    have HE := Lib.hid (ruleErr_b (d := d) (by omega))
    have HNL := Lib.hid hnl
    have HA := Lib.hid ha
    have H0 := Lib.hid hw0
    clear hnl ha hw0
    go_enter Tryd.func46, Tryd.ntmps46
    go_wp2_with fail
    go_loopw [3, 4, 5, 17] (fun u v x i wr => ∃ (j : Nat) (D F R : Bool), j ≤ n ∧ i = .int .i64 j ∧ u = .bool D ∧ v = .bool F ∧ x = .bool R ∧ anyC d = anyC (d.drop j) ∧ anyL d = (D || anyL (d.drop j)) ∧ d.anyT badF = (!F || (d.drop j).anyT badF) ∧ d.farB = (R && (d.drop j).farB) ∧ Below w.heap.size w wr) (fun _ _ _ i _ => n - (intOf i).toNat)
    case atStart => exact ⟨0, false, true, true, Nat.zero_le _, rfl, rfl, rfl, rfl, by rw [Tst.drop_zero'], by rw [Tst.drop_zero']; rfl, by rw [Tst.drop_zero']; rfl, by rw [Tst.drop_zero']; rfl, H0.out⟩
    case round =>
      obtain ⟨j, D, F, R, hj, rfl, rfl, rfl, rfl, g1, g2, g3, g4, hbw⟩ := hrel
      have G1 := Lib.hid g1
      have G2 := Lib.hid g2
      have G3 := Lib.hid g3
      have G4 := Lib.hid g4
      clear g1 g2 g3 g4
      by_cases hlt : j < n
      · obtain ⟨b, off, k1, md1, lo1, hi1, A1, n1, c1, kd1, r, rfl, e1, e2, E⟩ := HA.out.el j hlt
        have E' := E.below hbw
        obtain ⟨hlb, x0, x1, x2, x3, x4, hnc, hcm, _, _, _, _, hat⟩ := E'
        clear E
        have hsb : b < wr.heap.size := Nat.lt_of_lt_of_le hlb hbw.size
        have hdn := Tst.nodes_drop' j d
        rw [e1] at hdn
        simp only [Tst.nodes] at hdn
        have hwe : Below wr.heap.size wr (wr.alloc (.cells #[.int .i64 k1, .int .i64 md1, .int .i64 lo1, .int .i64 hi1, .slice A1 n1 c1] 88)) := (Below.refl _ _).alloc (Nat.le_refl _) _
        have hbe := heap_alloc_new wr (.cells #[.int .i64 k1, .int .i64 md1, .int .i64 lo1, .int .i64 hi1, .slice A1 n1 c1] 88)
        have hse : (wr.alloc (.cells #[.int .i64 k1, .int .i64 md1, .int .i64 lo1, .int .i64 hi1, .slice A1 n1 c1] 88)).heap.size = wr.heap.size + 1 := by simp
        have hatX : ∀ wX, Below (wr.heap.size + 1) (wr.alloc (.cells #[.int .i64 k1, .int .i64 md1, .int .i64 lo1, .int .i64 hi1, .slice A1 n1 c1] 88)) wX → kd1.At wX wX.heap.size A1 n1 := fun wX hX =>
          ((hat.below (hwe.mono hbw.size)).below (hX.mono (by have := hbw.size; omega))).more (by have := hX.size; rw [hse] at this; have := hbw.size; omega)
        have HCI := Lib.hid (testsIn_any (kd1.nodes + 1) k1 md1 lo1 hi1 A1 n1 c1 kd1 _ (by omega) (by omega) (hatX _ (Below.refl _ _)))
        have HCF := Lib.hid (fun wX hX => testForm_any (kd1.nodes + 1) k1 md1 lo1 hi1 A1 n1 c1 kd1 wX (by omega) (by omega) (hatX wX hX))
        have HCR := Lib.hid (fun wX hX => testRange_any kd1.nodes k1 md1 lo1 hi1 A1 n1 c1 kd1 wX (by omega) (by omega) (hatX wX hX))
        have keep : ∀ wX, Below (wr.heap.size + 1) (wr.alloc (.cells #[.int .i64 k1, .int .i64 md1, .int .i64 lo1, .int .i64 hi1, .slice A1 n1 c1] 88)) wX → wX.heap[wr.heap.size]? = some (.cells #[.int .i64 k1, .int .i64 md1, .int .i64 lo1, .int .i64 hi1, .slice A1 n1 c1] 88) := fun wX hX => (hX.block wr.heap.size (by omega)).trans hbe
        have KP := Lib.hid keep
        have HWE := Lib.hid hwe
        have h1 := G1.out
        have h2 := G2.out
        have h3 := G3.out
        have h4 := G4.out
        rw [e1, anyC_cons] at h1
        rw [e1, anyL_cons] at h2
        rw [e1, badF_cons] at h3
        rw [e1, farB_cons] at h4
        have HE2 := Lib.hid e2
        have hd1 := depth_le kd1
        clear G1 G2 G3 G4 keep hbe hwe hatX hat e1 e2 hnc hcm
        obtain ⟨dp, hdp⟩ : ∃ dp, kd1.depth = dp := ⟨_, rfl⟩
        obtain ⟨nn, hnn⟩ : ∃ nn, kd1.nodes = nn := ⟨_, rfl⟩
        obtain ⟨bf, hbf⟩ : ∃ bf, (badF k1 md1 lo1 hi1 kd1 || kd1.anyT badF) = bf := ⟨_, rfl⟩
        obtain ⟨br, hbr⟩ : ∃ br, (if k1 = 1 then rangeB md1 lo1 hi1 else kd1.farB) = br := ⟨_, rfl⟩
        rw [hdp, hnn] at HCI
        rw [hbf] at HCF h3
        rw [hbr] at HCR h4
        rw [hdp] at h2 hd1
        rw [hnn] at h1 hdn hd1
        clear hdp hnn hbf hbr
        have N1 := Lib.hid h1
        have N2 := Lib.hid h2
        have N3 := Lib.hid h3
        have N4 := Lib.hid h4
        unfold CallsEv eV at HCF HCR
        unfold eV at HCI
        clear h1 h2 h3 h4
        by_cases h20 : 20 < nn + 1
        · have h20i : (20 : Int) < ((nn + 1 : Nat) : Int) := by omega
          have HE4 := Lib.hid (HE.out.trans (if_pos (by rw [N1.out, decide_eq_true h20]; rfl)))
          go_wp2_with fail
          refine HCI.out.mono ?_
          rintro e w2 ⟨rfl, hb2⟩
          have HB2 := Lib.hid (hbw.trans ((HWE.out.mono hbw.size).trans (hb2.mono (by rw [hse]; have := hbw.size; omega))))
          clear hb2
          go_wp2_with fail
          go_ret
          exact ⟨by rw [HE4.out]; rfl, HB2.out⟩
        · have h20i : ¬ (20 : Int) < ((nn + 1 : Nat) : Int) := by omega
          have NC := Lib.hid (show anyC d = anyC r by rw [N1.out, decide_eq_false h20]; rfl)
          have HDP := Lib.hid (show decide (12 < dp + 1) = decide ((12 : Int) < ((dp + 1 : Nat) : Int)) from by
            by_cases h : 12 < dp + 1
            · rw [decide_eq_true h, decide_eq_true (by omega)]
            · rw [decide_eq_false h, decide_eq_false (by omega)])
          obtain ⟨bd, hbd⟩ : ∃ bd, decide ((12 : Int) < ((dp + 1 : Nat) : Int)) = bd := ⟨_, rfl⟩
          have NL := Lib.hid (show anyL d = ((D || bd) || anyL r) by rw [N2.out, HDP.out, hbd, Bool.or_assoc])
          have NF := Lib.hid (show d.anyT badF = (!(F && !bf) || r.anyT badF) by rw [N3.out]; cases F <;> cases bf <;> rfl)
          have NR := Lib.hid (show d.farB = ((R && br) && r.farB) by rw [N4.out, Bool.and_assoc])
          clear N1 N2 N3 N4 HDP
          cases D <;> cases F <;> cases R <;> (
            go_wp2_with fail
            refine HCI.out.mono ?_
            rintro e w2 ⟨rfl, hb2⟩
            rw [hse] at hb2
            obtain ⟨y0, y1, y2, y3, y4⟩ := box5 (KP.out _ hb2)
            have HB2 := Lib.hid hb2
            clear hb2
            go_wp2_with fail
            first
              | (refine (HCF.out _ HB2.out).mono ?_
                 rintro e w3 ⟨rfl, hb3⟩
                 have hb3' := HB2.out.trans (hb3.mono (by have := HB2.out.size; rw [hse] at this; omega))
                 obtain ⟨z0, z1, z2, z3, z4⟩ := box5 (KP.out _ hb3')
                 have HB3 := Lib.hid hb3'
                 clear hb3 hb3'
                 go_wp2_with fail
                 first
                   | (refine (HCR.out _ HB3.out).mono ?_
                      rintro e w4 ⟨rfl, hb4⟩
                      have HB9 := Lib.hid (hbw.trans ((HWE.out.mono hbw.size).trans ((HB3.out.trans (hb4.mono (by have := HB3.out.size; rw [hse] at this; omega))).mono (by have := hbw.size; omega))))
                      clear hb4
                      go_wp2_with fail
                      go_roundw)
                   | (have HB9 := Lib.hid (hbw.trans ((HWE.out.mono hbw.size).trans (HB3.out.mono (by have := hbw.size; omega))))
                      go_roundw))
              | (refine (HCR.out _ HB2.out).mono ?_
                 rintro e w4 ⟨rfl, hb4⟩
                 have HB9 := Lib.hid (hbw.trans ((HWE.out.mono hbw.size).trans ((HB2.out.trans (hb4.mono (by have := HB2.out.size; rw [hse] at this; omega))).mono (by have := hbw.size; omega))))
                 clear hb4
                 go_wp2_with fail
                 go_roundw)
              | (have HB9 := Lib.hid (hbw.trans ((HWE.out.mono hbw.size).trans (HB2.out.mono (by have := hbw.size; omega))))
                 go_roundw)
            case rel => exact ⟨j + 1, _, _, _, by omega, by go_num, by first | rfl | (rw [← hbd]) | (rw [hbd]), rfl, rfl, by rw [NC.out, HE2.out], by first | (rw [NL.out, HE2.out]; rfl) | (rw [NL.out, HE2.out, ← hbd]; rfl), by rw [NF.out, HE2.out]; rfl, by rw [NR.out, HE2.out]; rfl, HB9.out⟩
            case measure => simp [intOf]; omega)
      · obtain rfl : j = n := by omega
        have hd : d.drop j = .nil := by rw [HNL.out, Tst.drop_len']
        have h1 := G1.out
        have h2 := G2.out
        have h3 := G3.out
        have h4 := G4.out
        rw [hd] at h1 h2 h3 h4
        have c1 : anyC d = false := h1
        have c2 : anyL d = D := by rw [h2]; cases D <;> rfl
        have c3 : d.anyT badF = !F := by rw [h3]; cases F <;> rfl
        have c4 : d.farB = R := by rw [h4]; cases R <;> rfl
        have HV := Lib.hid (show ruleErr d = if D = true then 13 else if F = false then 1 else if R = false then 2 else 0 by
          rw [HE.out, c1, c2, c3]
          cases D with
          | true => rfl
          | false =>
            cases F with
            | false => rfl
            | true =>
              have h5 := farB_right d (by rw [c3]; rfl)
              rw [c4] at h5
              rw [show d.anyT badR = !R by rw [h5, Bool.not_not]]
              cases R <;> rfl)
        have HBW := Lib.hid hbw
        clear h1 h2 h3 h4 c1 c2 c3 c4 hd G1 G2 G3 G4 hbw
        cases D with
        | true =>
          go_wp2_with fail
          go_ret
          exact ⟨by rw [HV.out]; rfl, HBW.out⟩
        | false =>
          cases F with
          | false =>
            go_wp2_with fail
            go_ret
            exact ⟨by rw [HV.out]; rfl, HBW.out⟩
          | true =>
            cases R <;> (
              go_wp2_with fail
              go_ret
              exact ⟨by rw [HV.out]; rfl, HBW.out⟩)
end Go.Proofs.YtlifjhglpflplaaDoor
