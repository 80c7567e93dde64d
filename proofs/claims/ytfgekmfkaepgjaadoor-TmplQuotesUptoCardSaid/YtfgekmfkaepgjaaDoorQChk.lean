/- DERIVED. What checkQuoted of package tmpl returns for every value, by induction over the value. Condition: the library's table of powers of ten. -/
import Derived.Test.YtfgekmfkaepgjaaDoorQPlain
namespace Go.Proofs.YtfgekmfkaepgjaaDoor
set_option linter.unusedVariables false
open Go.RowKit
theorem i64_wf {n : Int} (h : (Lit.int .i64 n).wf = true) : -9223372036854775808 ≤ n ∧ n ≤ 9223372036854775807 := by
  have h2 : (decide (-9223372036854775808 ≤ n) && decide (n ≤ 9223372036854775807)) = true := h
  simpa using h2
theorem ret_i {a b : Int} (h : a = b) : Ending.returned (.int .i64 b) = .returned (.int .i64 a) := by rw [h]
theorem nest_no {k : Int} (h5 : k ≠ 5) (h6 : k ≠ 6) : nestB k = false := by unfold nestB; simp [h5, h6]

set_option maxRecDepth 100000 in
set_option maxHeartbeats 2000000 in
theorem qchk_gen (d : Int) (k : Int) (bo : Bool) (i : Int) (t : ByteArray) (A1 : Option Addr) (n1 c1 : Nat) (A2 : Option Addr) (n2 c2 : Nat) (items : Vals) (keys : List ByteArray) (w : World)
    (hv : VOk w w.heap.size k i t A1 n1 c1 A2 n2 c2 items keys) (hd0 : 0 ≤ d) (hd : d ≤ 13) (ht : PowTab w)
    (hc : ∀ (j : Nat) (k : Int) (bo : Bool) (i : Int) (t : ByteArray) (it : Vals) (ks : List ByteArray) (rest : Vals), j < n1 → items.drop j = .cons k bo i t it ks rest →
      ∀ (A1 : Option Addr) (n1 c1 : Nat) (A2 : Option Addr) (n2 c2 : Nat) (wX : World), VOk wX wX.heap.size k i t A1 n1 c1 A2 n2 c2 it ks → PowTab wX → d ≤ 12 →
        Calls Tryd.prog 16 #[.agg #[.int .i64 k, .bool bo, .int .i64 i, .string t, .slice A1 n1 c1, .slice A2 n2 c2], .int .i64 (d + 1)] wX fun e w' => e = .returned (.int .i64 (vE k bo i t it (d + 1))) ∧ Below wX.heap.size wX w') :
    Calls Tryd.prog 16 #[.agg #[.int .i64 k, .bool bo, .int .i64 i, .string t, .slice A1 n1 c1, .slice A2 n2 c2], .int .i64 d] w fun e w' => e = .returned (.int .i64 (vE k bo i t items d)) ∧ Below w.heap.size w w' := by
  have HC := Lib.hid hc; clear hc
  have ha := hv.at_
  have hnl := ha.len_eq
  have hcm : n1 ≤ maxLen := Nat.le_trans hv.nc1 hv.cm1
  have hi := i64_wf hv.iwf
  unfold maxLen at hcm
  have HNL := Lib.hid hnl; clear hnl
  have HA := Lib.hid ha; clear ha hv
  have HT := Lib.hid ht; clear ht
  have HR := Lib.hid (Below.refl (w.heap.size + 1) (w.alloc (.cells #[.int .i64 k, .bool bo, .int .i64 i, .string t, .slice A1 n1 c1, .slice A2 n2 c2] 25)))
  have HB0 := Lib.hid ((Below.refl w.heap.size w).alloc (Nat.le_refl _) (.cells #[.int .i64 k, .bool bo, .int .i64 i, .string t, .slice A1 n1 c1, .slice A2 n2 c2] 25))
  by_cases h5 : k = 5
  · subst h5
    have hvE : vE 5 bo i t items d = if 12 < d then 13 else items.qe (d + 1) := rfl
    have HVE := Lib.hid hvE; clear hvE
    by_cases hdd : 12 < d
    · go_enter Tryd.func16, Tryd.ntmps16
      go_wp2_with fail
      go_ret
      exact ⟨ret_i (by rw [HVE.out, if_pos hdd]), HB0.out⟩
    · go_enter Tryd.func16, Tryd.ntmps16
      go_wp2_with fail
      go_loopw [29] (fun i' wr => ∃ j : Nat, j ≤ n1 ∧ i' = .int .i64 j ∧ (items.drop j).qe (d + 1) = items.qe (d + 1) ∧ Below (w.heap.size + 1) (w.alloc (.cells #[.int .i64 5, .bool bo, .int .i64 i, .string t, .slice A1 n1 c1, .slice A2 n2 c2] 25)) wr) (fun i' _ => n1 - (intOf i').toNat)
      case atStart => exact ⟨0, Nat.zero_le _, rfl, by rw [Vals.drop_zero], HR.out⟩
      case round =>
        obtain ⟨j, hj, rfl, hx, hbx⟩ := hrel
        obtain ⟨hbw, hsz⟩ := below_top hbx
        by_cases hlt : j < n1
        · obtain ⟨b, off, k1, bo1, i1, t1, B1, m1, d1, B2, m2, d2, it, ks, r, rfl, e1, e2, E⟩ := HA.out.el j hlt
          have E' := E.below hbw
          obtain ⟨hlb, x0, x1, x2, x3, x4, x5, hok⟩ := E'
          clear E
          have hsb : b < wr.heap.size := Nat.lt_of_lt_of_le hlb hbw.size
          have hcall := fun wX (hX : Below w.heap.size wr wX) => HC.out j k1 bo1 i1 t1 it ks r hlt e1 B1 m1 d1 B2 m2 d2 wX ((hok.below hX).more (Nat.le_trans hbw.size hX.size)) (HT.out.on (hbw.trans hX)) (by omega)
          have HCL := Lib.hid hcall; clear hcall
          rw [e1, qe_cons] at hx
          have HE2 := Lib.hid e2; clear e1 e2 hok
          have HBX := Lib.hid hbx; clear hbx
          generalize vE k1 bo1 i1 t1 it (d + 1) = y at HCL hx
          have HX := Lib.hid hx; clear hx
          by_cases hy : y = 0
          · subst hy
            go_wp2_with fail
            refine (HCL.out _ ((Below.refl _ _).alloc hbw.size _)).mono ?_
            rintro e w1 ⟨rfl, hb1⟩
            have hb2 := HBX.out.trans (((Below.refl _ wr).alloc (Nat.le_refl _) _).mono hsz |>.trans (hb1.mono (by simp; omega)))
            clear hb1
            go_wp2_with fail
            go_roundw
            case rel => exact ⟨j + 1, by omega, by go_num, by rw [HE2.out, ← HX.out]; rfl, hb2⟩
            case measure => simp [intOf]; omega
          · go_wp2_with fail
            refine (HCL.out _ ((Below.refl _ _).alloc hbw.size _)).mono ?_
            rintro e w1 ⟨rfl, hb1⟩
            have hb2 := hbw.trans (((Below.refl _ wr).alloc hbw.size _).trans (hb1.mono (Nat.le_trans hbw.size (by simp))))
            clear hb1
            go_wp2_with fail
            go_ret
            exact ⟨ret_i (by rw [HVE.out, if_neg (by omega), ← HX.out, if_pos hy]), hb2⟩
        · obtain rfl : j = n1 := by omega
          have hd1 : (items.drop j).qe (d + 1) = 0 := by rw [HNL.out, Vals.drop_len]; rfl
          rw [hd1] at hx
          have HX := Lib.hid hx; clear hx hd1
          go_wp2_with fail
          go_ret
          exact ⟨ret_i (by rw [HVE.out, if_neg (by omega), ← HX.out]), hbw⟩
  · by_cases h6 : k = 6
    · subst h6
      have hvE : vE 6 bo i t items d = if 12 < d then 13 else items.qe (d + 1) := rfl
      have HVE := Lib.hid hvE; clear hvE
      by_cases hdd : 12 < d
      · go_enter Tryd.func16, Tryd.ntmps16
        go_wp2_with fail
        go_ret
        exact ⟨ret_i (by rw [HVE.out, if_pos hdd]), HB0.out⟩
      · go_enter Tryd.func16, Tryd.ntmps16
        go_wp2_with fail
        go_loopw [29] (fun i' wr => ∃ j : Nat, j ≤ n1 ∧ i' = .int .i64 j ∧ (items.drop j).qe (d + 1) = items.qe (d + 1) ∧ Below (w.heap.size + 1) (w.alloc (.cells #[.int .i64 6, .bool bo, .int .i64 i, .string t, .slice A1 n1 c1, .slice A2 n2 c2] 25)) wr) (fun i' _ => n1 - (intOf i').toNat)
        case atStart => exact ⟨0, Nat.zero_le _, rfl, by rw [Vals.drop_zero], HR.out⟩
        case round =>
          obtain ⟨j, hj, rfl, hx, hbx⟩ := hrel
          obtain ⟨hbw, hsz⟩ := below_top hbx
          by_cases hlt : j < n1
          · obtain ⟨b, off, k1, bo1, i1, t1, B1, m1, d1, B2, m2, d2, it, ks, r, rfl, e1, e2, E⟩ := HA.out.el j hlt
            have E' := E.below hbw
            obtain ⟨hlb, x0, x1, x2, x3, x4, x5, hok⟩ := E'
            clear E
            have hsb : b < wr.heap.size := Nat.lt_of_lt_of_le hlb hbw.size
            have hcall := fun wX (hX : Below w.heap.size wr wX) => HC.out j k1 bo1 i1 t1 it ks r hlt e1 B1 m1 d1 B2 m2 d2 wX ((hok.below hX).more (Nat.le_trans hbw.size hX.size)) (HT.out.on (hbw.trans hX)) (by omega)
            have HCL := Lib.hid hcall; clear hcall
            rw [e1, qe_cons] at hx
            have HE2 := Lib.hid e2; clear e1 e2 hok
            have HBX := Lib.hid hbx; clear hbx
            generalize vE k1 bo1 i1 t1 it (d + 1) = y at HCL hx
            have HX := Lib.hid hx; clear hx
            by_cases hy : y = 0
            · subst hy
              go_wp2_with fail
              refine (HCL.out _ ((Below.refl _ _).alloc hbw.size _)).mono ?_
              rintro e w1 ⟨rfl, hb1⟩
              have hb2 := HBX.out.trans (((Below.refl _ wr).alloc (Nat.le_refl _) _).mono hsz |>.trans (hb1.mono (by simp; omega)))
              clear hb1
              go_wp2_with fail
              go_roundw
              case rel => exact ⟨j + 1, by omega, by go_num, by rw [HE2.out, ← HX.out]; rfl, hb2⟩
              case measure => simp [intOf]; omega
            · go_wp2_with fail
              refine (HCL.out _ ((Below.refl _ _).alloc hbw.size _)).mono ?_
              rintro e w1 ⟨rfl, hb1⟩
              have hb2 := hbw.trans (((Below.refl _ wr).alloc hbw.size _).trans (hb1.mono (Nat.le_trans hbw.size (by simp))))
              clear hb1
              go_wp2_with fail
              go_ret
              exact ⟨ret_i (by rw [HVE.out, if_neg (by omega), ← HX.out, if_pos hy]), hb2⟩
          · obtain rfl : j = n1 := by omega
            have hd1 : (items.drop j).qe (d + 1) = 0 := by rw [HNL.out, Vals.drop_len]; rfl
            rw [hd1] at hx
            have HX := Lib.hid hx; clear hx hd1
            go_wp2_with fail
            go_ret
            exact ⟨ret_i (by rw [HVE.out, if_neg (by omega), ← HX.out]), hbw⟩
    · have HN := Lib.hid (show vE k bo i t items d = shX k bo i t by unfold vE; rw [nest_no h5 h6]; rfl)
      have hcall := fun wX (hX : Below w.heap.size w wX) => show_any ⟨k, bo, i, t, A1, n1, c1, A2, n2, c2⟩ _ _ wX hi (shIs_top _) (HT.out.on hX)
      simp only [Top.val] at hcall
      have HCL := Lib.hid hcall; clear hcall hi
      have hkk : (k != 5 && k != 6) = true := by simp [h5, h6]
      go_enter Tryd.func16, Tryd.ntmps16
      go_wp2_with fail
      refine (HCL.out _ HB0.out).mono ?_
      rintro e w1 ⟨rfl, hb1⟩
      have hb2 := HB0.out.trans (hb1.mono (by simp))
      clear hb1
      go_wp2_with fail
      go_ret
      exact ⟨ret_i HN.out, hb2⟩
theorem qchk_any (N : Nat) : ∀ (d k : Int) (bo : Bool) (i : Int) (t : ByteArray) (A1 : Option Addr) (n1 c1 : Nat) (A2 : Option Addr) (n2 c2 : Nat) (items : Vals) (keys : List ByteArray) (w : World),
    VOk w w.heap.size k i t A1 n1 c1 A2 n2 c2 items keys → items.nodes ≤ N → 0 ≤ d → d ≤ 13 → PowTab w →
    Calls Tryd.prog 16 #[.agg #[.int .i64 k, .bool bo, .int .i64 i, .string t, .slice A1 n1 c1, .slice A2 n2 c2], .int .i64 d] w fun e w' => e = .returned (.int .i64 (vE k bo i t items d)) ∧ Below w.heap.size w w' := by
  induction N with
  | zero =>
    intro d k bo i t A1 n1 c1 A2 n2 c2 items keys w hv hN hd0 hd ht
    have h1 := Vals.len_le items
    have h2 := hv.at_.len_eq
    exact qchk_gen d k bo i t A1 n1 c1 A2 n2 c2 items keys w hv hd0 hd ht fun _ _ _ _ _ _ _ _ h => absurd h (by omega)
  | succ N ih =>
    intro d k bo i t A1 n1 c1 A2 n2 c2 items keys w hv hN hd0 hd ht
    refine qchk_gen d k bo i t A1 n1 c1 A2 n2 c2 items keys w hv hd0 hd ht fun j k' bo' i' t' it ks r hj he A1' n1' c1' A2' n2' c2' wX hv' ht' hd' => ?_
    have h1 := Vals.nodes_drop j items
    rw [he] at h1
    simp only [Vals.nodes] at h1
    exact ih (d + 1) k' bo' i' t' A1' n1' c1' A2' n2' c2' it ks wX hv' (by omega) (by omega) (by omega) ht'
end Go.Proofs.YtfgekmfkaepgjaaDoor
