/- DERIVED. The reference's sizeOfInt, testHolds, FormOf. Condition: at most 2^40 - 1 tests, all of them right. -/
import Derived.Test.YtlifjhglpflplaaTstRefC
namespace Go.Proofs.Ytlifjhglpflplaa
open Go.RowKit
set_option linter.unusedVariables false
set_option linter.unusedSimpArgs false
set_option maxRecDepth 100000 in
theorem sizeOfInt_any (n : Int) (w : World) (h0 : -9223372036854775808 ≤ n) (h1 : n ≤ 9223372036854775807) : Calls Try.prog 47 #[.int .i64 n] w fun e w' => e = .returned (.int .u64 (n.natAbs : Int)) ∧ w = w' := by
  by_cases hn : n < 0
  · obtain ⟨m, rfl⟩ : ∃ m : Int, n = -(m + 1) := ⟨-n - 1, by omega⟩
    have hm0 : 0 ≤ m := by omega
    have hm1 : m ≤ 9223372036854775807 := by omega
    have e0 : -(-(m + 1) + 1) = m := by omega
    have e1 : IntKind.u64.wrap m = m := wrapU_id hm0 (by omega)
    have e2 : IntKind.u64.wrap (m + 1) = m + 1 := wrapU_id (by omega) (by omega)
    have e3 : ((-(m + 1)).natAbs : Int) = m + 1 := by omega
    rw [e3]
    clear e3
    go_enter Try.func47, Try.ntmps47
    go_wp2_with fail
    go_ret
    exact ⟨by first | rfl | simp, rfl⟩
  · have e1 : IntKind.u64.wrap n = n := wrapU_id (by omega) (by omega)
    have e3 : (n.natAbs : Int) = n := by omega
    rw [e3]
    clear e3
    go_enter Try.func47, Try.ntmps47
    go_wp2_with fail
    go_ret
    exact ⟨rfl, rfl⟩
set_option maxRecDepth 100000 in
theorem heldR_any (k md lo hi : Int) (A : Option Addr) (n c x p : Nat) (b : Bool) (w : World) (hp : w.cell? ⟨p, 0, none⟩ = some (.int .u64 (x : Int)))
    (hc : ∀ wX, Below w.heap.size w wX → Holds 46 k md lo hi A n c x wX b) :
    Calls Try.prog 91 #[eV k md lo hi A n c, .pointer (some ⟨p, 0, none⟩)] w fun e w' => e = .returned (.bool b) ∧ Below w.heap.size w w' := by
  have hpl := World.block_lt_of_cell? w _ hp
  have hw0 : Below w.heap.size w (w.alloc (.cells #[.int .i64 k, .int .i64 md, .int .i64 lo, .int .i64 hi, .slice A n c] 127)) := (Below.refl _ _).alloc (Nat.le_refl _) _
  have h2 := (hw0.cell (p := ⟨p, 0, none⟩) hpl).trans hp
  have HC := Lib.hid (hc _ hw0)
  have H0 := Lib.hid hw0
  clear hw0 hc hp
  unfold Holds at HC
  unfold eV at HC ⊢
  go_enter Try.func91, Try.ntmps91
  go_wp2_with fail
  refine HC.out.mono ?_
  rintro e w1 ⟨rfl, hb⟩
  have HB := Lib.hid (H0.out.trans (hb.mono H0.out.size))
  clear hb
  go_wp2_with fail
  go_ret
  exact ⟨rfl, HB.out⟩
set_option maxRecDepth 100000 in
theorem notHeldR_any (k md lo hi : Int) (A : Option Addr) (n c x p r : Nat) (b : Bool) (w : World) (hp : w.cell? ⟨p, 0, none⟩ = some (.int .u64 (x : Int))) (hr : w.cell? ⟨r, 0, none⟩ = some (.func (.func 91) #[] #[.pointer (some ⟨p, 0, none⟩)]))
    (hc : ∀ wX, Below w.heap.size w wX → Holds 46 k md lo hi A n c x wX b) :
    Calls Try.prog 92 #[eV k md lo hi A n c, .pointer (some ⟨r, 0, none⟩)] w fun e w' => e = .returned (.bool (!b)) ∧ Below w.heap.size w w' := by
  have eg : ∀ args w, (callFunc 91 args).run Try.prog w = .ok (.enter 91 args) w := enters_of Try.func91 (by kernel_rfl) rfl
  have hpl := World.block_lt_of_cell? w _ hp
  have hrl := World.block_lt_of_cell? w _ hr
  have hw0 : Below w.heap.size w (w.alloc (.cells #[.int .i64 k, .int .i64 md, .int .i64 lo, .int .i64 hi, .slice A n c] 127)) := (Below.refl _ _).alloc (Nat.le_refl _) _
  have h2 := (hw0.cell (p := ⟨p, 0, none⟩) hpl).trans hp
  have h3 := (hw0.cell (p := ⟨r, 0, none⟩) hrl).trans hr
  have HC := Lib.hid (heldR_any k md lo hi A n c x p b _ h2 (fun wX hX => hc wX (hw0.trans (hX.mono hw0.size))))
  have H0 := Lib.hid hw0
  clear hw0 hc hp hr
  unfold eV at HC ⊢
  go_enter Try.func92, Try.ntmps92
  go_wp2_with fail
  refine HC.out.mono ?_
  rintro e w1 ⟨rfl, hb⟩
  have HB := Lib.hid (H0.out.trans (hb.mono H0.out.size))
  clear hb
  go_wp2_with fail
  go_ret
  exact ⟨by cases b <;> rfl, HB.out⟩
set_option maxRecDepth 100000 in
set_option maxHeartbeats 3200000 in
theorem holdsR_gen (k md lo hi : Int) (A : Option Addr) (n c x : Nat) (kd : Tst) (w : World) (hx : x ≤ 9223372036854775808) (hbig : kd.nodes ≤ 1099511627776) (hok : Right k md lo hi kd) (ha : kd.At w w.heap.size A n)
    (hc : ∀ (i : Nat) (k1 md1 lo1 hi1 : Int) (kd1 r : Tst), kd.drop i = .cons k1 md1 lo1 hi1 kd1 r → ∀ (A1 : Option Addr) (n1 c1 : Nat) (wX : World), kd1.At wX wX.heap.size A1 n1 → Holds 46 k1 md1 lo1 hi1 A1 n1 c1 x wX (hd x k1 md1 lo1 hi1 kd1)) :
    Holds 46 k md lo hi A n c x w (hd x k md lo hi kd) := by
  have ea : ∀ args w, (callFunc 91 args).run Try.prog w = .ok (.enter 91 args) w := enters_of Try.func91 (by kernel_rfl) rfl
  have eb : ∀ args w, (callFunc 92 args).run Try.prog w = .ok (.enter 92 args) w := enters_of Try.func92 (by kernel_rfl) rfl
  have hn : n ≤ 1099511627776 := Nat.le_trans (by rw [ha.len_eq]; exact Tst.len_le kd) hbig
  obtain ⟨hF, hR, _, _⟩ := hok
  unfold Holds eV
  rcases badF_ops hF with ⟨rfl, h0⟩ | hk
  · obtain ⟨hm, hl0, hlh, hh⟩ := rangeB_inv hR
    rw [hd_1]
    have u1 : IntKind.u64.wrap md = md := wrapU_id (by omega) (by omega)
    have u2 : IntKind.u64.wrap lo = lo := wrapU_id (by omega) (by omega)
    have u3 : IntKind.u64.wrap hi = hi := wrapU_id (by omega) (by omega)
    have hW : withinB md lo hi x = (decide (lo ≤ (if md = 0 then (x : Int) else (x : Int) % md)) && decide ((if md = 0 then (x : Int) else (x : Int) % md) ≤ hi)) := rfl
    clear hc ha hF ea eb
    rcases Int.lt_or_le 0 md with hmd | hmd
    · have hmn : ¬ md = 0 := by omega
      have hmb : (md == 0) = false := by simpa using hmn
      rw [hW, if_neg hmn]
      obtain ⟨m, hmm⟩ : ∃ m : Int, (x : Int) % md = m := ⟨_, rfl⟩
      have hm0 : 0 ≤ m := by rw [← hmm]; exact Int.emod_nonneg _ hmn
      have hm1 : m < md := by rw [← hmm]; exact Int.emod_lt_of_pos _ hmd
      rw [hmm]
      clear hW u2 u3
      have u2 : IntKind.u64.wrap lo = lo := wrapU_id (by omega) (by omega)
      have u3 : IntKind.u64.wrap hi = hi := wrapU_id (by omega) (by omega)
      go_enter Try.func46, Try.ntmps46
      go_wp2_with fail
      all_goals (go_ret; exact ⟨by first | rfl | (simp_all; done) | (simp_all; omega), ((((Below.refl _ _).alloc (Nat.le_refl _) _).alloc (by simp) _).alloc (by simp; omega) _)⟩)
    · have hmz : md = 0 := by omega
      subst hmz
      rw [hW, if_pos rfl]
      clear hW
      go_enter Try.func46, Try.ntmps46
      go_wp2_with fail
      all_goals (go_ret; exact ⟨by first | rfl | (simp_all; done) | (simp_all; omega), ((((Below.refl _ _).alloc (Nat.le_refl _) _).alloc (by simp) _).alloc (by simp; omega) _)⟩)
  · obtain ⟨W, hW⟩ : ∃ W, ((w.alloc (.cells #[.int .i64 k, .int .i64 md, .int .i64 lo, .int .i64 hi, .slice A n c] 127)).alloc (.cells #[.int .u64 (x : Int)] 132)).alloc (.cells #[.func (.func 91) #[] #[.pointer (some ⟨w.heap.size + 1, 0, none⟩)]] 130) = W := ⟨_, rfl⟩
    have hbW : Below w.heap.size w W := by rw [← hW]; exact ((((Below.refl _ _).alloc (Nat.le_refl _) _).alloc (by simp) _).alloc (by simp; omega) _)
    have hsW : W.heap.size = w.heap.size + 3 := by rw [← hW]; simp
    have y1 : W.cell? ⟨w.heap.size + 1, 0, none⟩ = some (.int .u64 (x : Int)) := by rw [← hW]; exact box1 (three_objs w _ _ _).1
    have y2 : W.cell? ⟨w.heap.size + 2, 0, none⟩ = some (.func (.func 91) #[] #[.pointer (some ⟨w.heap.size + 1, 0, none⟩)]) := by rw [← hW]; exact box1 (three_objs w _ _ _).2
    have hatW : kd.At W W.heap.size A n := (ha.below hbW).more hbW.size
    have hnot := containsT_any kd (fun k1 m1 l1 h1 c1 => !hd x k1 m1 l1 h1 c1) 92 #[.pointer (some ⟨w.heap.size + 2, 0, none⟩)] A n c W eb hn hatW (fun wX i hX k1 m1 l1 h1 A1 n1 c1 kd1 r he hat _ _ _ _ _ _ =>
      notHeldR_any k1 m1 l1 h1 A1 n1 c1 x (w.heap.size + 1) (w.heap.size + 2) _ wX ((hX.cell (p := ⟨w.heap.size + 1, 0, none⟩) (by show w.heap.size + 1 < W.heap.size; omega)).trans y1) ((hX.cell (p := ⟨w.heap.size + 2, 0, none⟩) (by show w.heap.size + 2 < W.heap.size; omega)).trans y2)
        (fun wY hY => hc i k1 m1 l1 h1 kd1 r he A1 n1 c1 wY ((hat.below hY).more hY.size)))
    have hyes := containsT_any kd (hd x) 91 #[.pointer (some ⟨w.heap.size + 1, 0, none⟩)] A n c W ea hn hatW (fun wX i hX k1 m1 l1 h1 A1 n1 c1 kd1 r he hat _ _ _ _ _ _ =>
      heldR_any k1 m1 l1 h1 A1 n1 c1 x (w.heap.size + 1) _ wX ((hX.cell (p := ⟨w.heap.size + 1, 0, none⟩) (by show w.heap.size + 1 < W.heap.size; omega)).trans y1)
        (fun wY hY => hc i k1 m1 l1 h1 kd1 r he A1 n1 c1 wY ((hat.below hY).more hY.size)))
    rw [anyE_all] at hnot
    rw [anyE_some] at hyes
    rw [← hW] at hnot hyes hbW
    have HN := Lib.hid hnot
    have HY := Lib.hid hyes
    have HB := Lib.hid hbW
    clear hnot hyes hbW hatW hsW y1 y2 hW W hc ha hF hR ea eb
    rcases hk with rfl | rfl | rfl
    · rw [hd_2]
      go_enter Try.func46, Try.ntmps46
      go_wp2_with fail
      refine HN.out.mono ?_
      rintro e w2 ⟨rfl, hb2⟩
      have HB2 := Lib.hid (HB.out.trans (hb2.mono HB.out.size))
      clear hb2
      go_wp2_with fail
      go_ret
      exact ⟨by cases kd.q x true <;> rfl, HB2.out⟩
    · rw [hd_3]
      go_enter Try.func46, Try.ntmps46
      go_wp2_with fail
      refine HY.out.mono ?_
      rintro e w2 ⟨rfl, hb2⟩
      have HB2 := Lib.hid (HB.out.trans (hb2.mono HB.out.size))
      clear hb2
      go_wp2_with fail
      go_ret
      exact ⟨by cases kd.q x false <;> rfl, HB2.out⟩
    · rw [hd_4]
      go_enter Try.func46, Try.ntmps46
      go_wp2_with fail
      refine HY.out.mono ?_
      rintro e w2 ⟨rfl, hb2⟩
      have HB2 := Lib.hid (HB.out.trans (hb2.mono HB.out.size))
      clear hb2
      go_wp2_with fail
      go_ret
      exact ⟨by cases kd.q x false <;> rfl, HB2.out⟩
theorem holdsR_any (x : Nat) (hx : x ≤ 9223372036854775808) (N : Nat) : ∀ (k md lo hi : Int) (A : Option Addr) (n c : Nat) (kd : Tst) (w : World), kd.nodes ≤ N → kd.nodes ≤ 1099511627776 → Right k md lo hi kd → kd.At w w.heap.size A n → Holds 46 k md lo hi A n c x w (hd x k md lo hi kd) := by
  induction N with
  | zero =>
    intro k md lo hi A n c kd w hN hbig hok ha
    refine holdsR_gen k md lo hi A n c x kd w hx hbig hok ha fun i k1 m1 l1 h1 kd1 r he => ?_
    have h2 := Tst.nodes_drop' i kd
    rw [he] at h2
    simp only [Tst.nodes] at h2
    omega
  | succ N ih =>
    intro k md lo hi A n c kd w hN hbig hok ha
    refine holdsR_gen k md lo hi A n c x kd w hx hbig hok ha fun i k1 m1 l1 h1 kd1 r he A1 n1 c1 wX hat => ?_
    have h2 := Tst.nodes_drop' i kd
    rw [he] at h2
    simp only [Tst.nodes] at h2
    exact ih k1 m1 l1 h1 A1 n1 c1 kd1 wX (by omega) (by omega) (right_kid hok he) hat
set_option maxRecDepth 100000 in
set_option maxHeartbeats 1600000 in
theorem formOfR_any (d : Tst) (A : Option Addr) (n c : Nat) (y : Int) (w : World) (h0 : -9223372036854775808 ≤ y) (h1 : y ≤ 9223372036854775807) (hbig : d.nodes ≤ 1099511627775) (hF : d.anyT badF = false) (hR : d.anyT badR = false) (ha : d.At w w.heap.size A n) :
    Calls Try.prog 15 #[.agg #[.slice A n c], .int .i64 y] w fun e w' => e = .returned (.int .i64 (formN y.natAbs d)) ∧ Below w.heap.size w w' := by
  have hnl := ha.len_eq
  have hn : n ≤ 1099511627776 := Nat.le_trans (by rw [hnl]; exact Tst.len_le d) (by omega)
  have hw0 : Below w.heap.size w (w.alloc (.cells #[.slice A n c] 37)) := (Below.refl _ _).alloc (Nat.le_refl _) _
  have hb0 := heap_alloc_new w (.cells #[.slice A n c] 37)
  have HS := Lib.hid (fun wX => sizeOfInt_any y wX h0 h1)
  have HH := Lib.hid (fun (i : Nat) (k1 m1 l1 e1 : Int) (A1 : Option Addr) (n1 c1 : Nat) (kd r : Tst) (wX : World) (he : d.drop i = .cons k1 m1 l1 e1 kd r) (hak : kd.At wX wX.heap.size A1 n1) =>
    holdsR_any y.natAbs (by omega) kd.nodes k1 m1 l1 e1 A1 n1 c1 kd wX (Nat.le_refl _) (by have h1 := Tst.nodes_drop' i d; rw [he] at h1; simp only [Tst.nodes] at h1; omega) (right_el hF hR he) hak)
  have hfn : formN y.natAbs d = if fst (hd y.natAbs) d 0 < 0 then (n : Int) else fst (hd y.natAbs) d 0 := by unfold formN; rw [hnl]
  have HFN := Lib.hid hfn
  have HNL := Lib.hid hnl
  have HA := Lib.hid ha
  have H0 := Lib.hid hw0
  have HB0 := Lib.hid hb0
  clear hnl ha hw0 hb0 hF hR hfn
  generalize y.natAbs = x at HS HH HFN ⊢
  go_enter Try.func15, Try.ntmps15
  go_wp2_with fail
  go_loopw [10] (fun i wr => ∃ j : Nat, j ≤ n ∧ i = .int .i64 j ∧ fst (hd x) d 0 = fst (hd x) (d.drop j) j ∧ Below (w.heap.size + 1) (w.alloc (.cells #[.slice A n c] 37)) wr) (fun i _ => n - (intOf i).toNat)
  case atStart => exact ⟨0, Nat.zero_le _, rfl, by rw [Tst.drop_zero'], Below.refl _ _⟩
  case round =>
    obtain ⟨j, hj, rfl, hx, hbw⟩ := hrel
    have hbw2 : Below w.heap.size w wr := H0.out.trans (hbw.mono (by omega))
    have hsz := hbw.size
    simp only [World.size_alloc] at hsz
    have zr := box1 ((hbw.block w.heap.size (by omega)).trans HB0.out)
    have HX := Lib.hid hx
    have HBW := Lib.hid hbw
    clear hx hbw
    by_cases hlt : j < n
    · obtain ⟨b, off, k1, md1, lo1, hi1, A1, n1, c1, kd, r, rfl, e1, e2, E⟩ := HA.out.el j hlt
      have E' := E.below hbw2
      obtain ⟨hlb, x0, x1, x2, x3, x4, hnc, hcm, _, _, _, _, hat⟩ := E'
      clear E
      have hsb : b < wr.heap.size := Nat.lt_of_lt_of_le hlb hbw2.size
      have hcons : fst (hd x) d 0 = if hd x k1 md1 lo1 hi1 kd = true then (j : Int) else fst (hd x) r (j + 1) := by
        rw [HX.out, e1]; rfl
      obtain ⟨W, hW⟩ : ∃ W, wr.alloc (.cells #[.int .i64 k1, .int .i64 md1, .int .i64 lo1, .int .i64 hi1, .slice A1 n1 c1] 127) = W := ⟨_, rfl⟩
      have hwe : Below wr.heap.size wr W := by rw [← hW]; exact (Below.refl _ _).alloc (Nat.le_refl _) _
      have hbe : W.heap[wr.heap.size]? = some (.cells #[.int .i64 k1, .int .i64 md1, .int .i64 lo1, .int .i64 hi1, .slice A1 n1 c1] 127) := by rw [← hW]; exact heap_alloc_new _ _
      obtain ⟨y0, y1, y2, y3, y4⟩ := box5 hbe
      have HC := Lib.hid (HH.out j k1 md1 lo1 hi1 A1 n1 c1 kd r W.drew e1 ((hat.below (hwe.drew.mono (by omega))).more (by have := hwe.drew.size; omega)))
      have HCO := Lib.hid hcons
      have HE2 := Lib.hid e2
      have HWE := Lib.hid hwe.drew
      have HW := Lib.hid hW
      unfold Holds eV at HC
      clear hcons e1 e2 hat hnc hcm hbe hwe hW
      go_upto_region 4 with (fail)
      rw [HW.out]
      refine wp_region_still_tail 3 (by kernel_rfl) (by kernel_rfl) ?_
      simp only [List.take_succ_cons, List.take_zero, List.drop_succ_cons, List.drop_zero]
      change wpStill _ _ W.drew _ _ _
      repeat still_step
      still_call ((HS.out _).mono fun _ _ h => ⟨h.1, h.2.symm⟩)
      repeat still_step
      refine wpStill_nil ?_
      change wpList _ _ _ _ _ W.drew
      go_wp2_with fail
      refine HC.out.mono ?_
      rintro e w2 ⟨rfl, hb2⟩
      have HB2 := Lib.hid (HBW.out.trans ((HWE.out.mono (by omega)).trans (hb2.mono (by have := HWE.out.size; omega))))
      clear hb2
      cases hz : hd x k1 md1 lo1 hi1 kd with
      | true =>
        have HZ := Lib.hid (show fst (hd x) d 0 = (j : Int) from HCO.out.trans (if_pos hz))
        clear hz
        go_wp2_with fail
        go_ret
        exact ⟨by rw [HFN.out, HZ.out, if_neg (by omega)]; rfl, H0.out.trans (HB2.out.mono (by omega))⟩
      | false =>
        have HZ := Lib.hid (show fst (hd x) d 0 = fst (hd x) r (j + 1) from HCO.out.trans (if_neg (by rw [hz]; decide)))
        clear hz
        go_wp2_with fail
        go_roundw
        case rel => exact ⟨j + 1, by omega, by go_num, by rw [HZ.out, HE2.out], HB2.out⟩
        case measure => simp [intOf]; omega
    · obtain rfl : j = n := by omega
      have hd' : d.drop j = .nil := by rw [HNL.out, Tst.drop_len']
      have HZ := Lib.hid (show fst (hd x) d 0 = -1 by rw [HX.out, hd']; rfl)
      clear hd'
      go_wp2_with fail
      go_ret
      exact ⟨by rw [HFN.out, HZ.out, if_pos (by omega)]; rfl, H0.out.trans (HBW.out.mono (by omega))⟩
end Go.Proofs.Ytlifjhglpflplaa
