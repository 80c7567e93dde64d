/- DERIVED. What the reference's CompareOf returns: the order of two values, by induction over the first. Condition: at most 2^40 values and letters. -/
import Derived.Test.YtohkdckllmmfhaaGreatDoorConfBox
namespace Go.Proofs.YtohkdckllmmfhaaGreatDoor
set_option linter.unusedVariables false
open Go.RowKit
/-- What is asked of CompareOf at the items. -/
def CmpItems (items items' : Vals) (n n' : Nat) : Prop :=
  ∀ (j : Nat) (k : Int) (bo : Bool) (i : Int) (t : ByteArray) (it : Vals) (ks : List ByteArray) (rest : Vals) (k' : Int) (bo' : Bool) (i' : Int) (t' : ByteArray) (it' : Vals) (ks' : List ByteArray) (rest' : Vals),
    j < n → j < n' → items.drop j = .cons k bo i t it ks rest → items'.drop j = .cons k' bo' i' t' it' ks' rest' →
    ∀ (A1 : Option Addr) (n1 c1 : Nat) (A2 : Option Addr) (n2 c2 : Nat) (A1' : Option Addr) (n1' c1' : Nat) (A2' : Option Addr) (n2' c2' : Nat) (wX : World),
      VOk wX wX.heap.size k i t A1 n1 c1 A2 n2 c2 it ks → VOk wX wX.heap.size k' i' t' A1' n1' c1' A2' n2' c2' it' ks' →
      Calls Tryz.prog 24 #[.agg #[.int .i64 k, .bool bo, .int .i64 i, .string t, .slice A1 n1 c1, .slice A2 n2 c2], .agg #[.int .i64 k', .bool bo', .int .i64 i', .string t', .slice A1' n1' c1', .slice A2' n2' c2']] wX
        fun e w' => e = .returned (.int .i64 (cOne k bo i t it ks k' bo' i' t' it' ks')) ∧ Below wX.heap.size wX w'

set_option maxRecDepth 100000 in
set_option maxHeartbeats 2000000 in
theorem compareOf_gen (k : Int) (bo : Bool) (i : Int) (t : ByteArray) (A1 : Option Addr) (n1 c1 : Nat) (A2 : Option Addr) (n2 c2 : Nat) (items : Vals) (keys : List ByteArray)
    (k' : Int) (bo' : Bool) (i' : Int) (t' : ByteArray) (A1' : Option Addr) (n1' c1' : Nat) (A2' : Option Addr) (n2' c2' : Nat) (items' : Vals) (keys' : List ByteArray) (w : World)
    (hv : VOk w w.heap.size k i t A1 n1 c1 A2 n2 c2 items keys) (hv' : VOk w w.heap.size k' i' t' A1' n1' c1' A2' n2' c2' items' keys')
    (hm : n1 ≤ 1099511627776) (hm' : n1' ≤ 1099511627776) (hn : n2 ≤ 1099511627776) (hn' : n2' ≤ 1099511627776) (hc : CmpItems items items' n1 n1') :
    Calls Tryz.prog 24 #[.agg #[.int .i64 k, .bool bo, .int .i64 i, .string t, .slice A1 n1 c1, .slice A2 n2 c2], .agg #[.int .i64 k', .bool bo', .int .i64 i', .string t', .slice A1' n1' c1', .slice A2' n2' c2']] w
      fun e w' => e = .returned (.int .i64 (cOne k bo i t items keys k' bo' i' t' items' keys')) ∧ Below w.heap.size w w' := by
  have HC := Lib.hid hc; clear hc
  have ha := hv.at_
  have ha' := hv'.at_
  have hnl := ha.len_eq
  have hnl' := ha'.len_eq
  have CI := Lib.hid (fun (a b : Int) (wX : World) => Tryz.cmp_Compare_int a b wX)
  have CS := Lib.hid (fun (a b : ByteArray) (wX : World) => Tryz.strings_Compare a b wX)
  have CK := Lib.hid (fun (wX : World) (hX : Below w.heap.size w wX) => compareK_any keys keys' A2 n2 c2 A2' n2' c2' w.heap.size wX hn hn' (hv.ks.below hX) (hv'.ks.below hX))
  have HA := Lib.hid ha; clear ha hv
  have HA' := Lib.hid ha'; clear ha' hv'
  have HNL := Lib.hid hnl; clear hnl
  have HNL' := Lib.hid hnl'; clear hnl'
  have HX := Lib.hid (fun (w1 : World) (hb : Below (w.heap.size + 2) ((w.alloc (boxV k bo i t A1 n1 c1 A2 n2 c2)).alloc (boxV k' bo' i' t' A1' n1' c1' A2' n2' c2')) w1) => boxV12 hb)
  have HBW := Lib.hid (fun (w1 : World) (hb : Below (w.heap.size + 2) ((w.alloc (boxV k bo i t A1 n1 c1 A2 n2 c2)).alloc (boxV k' bo' i' t' A1' n1' c1' A2' n2' c2')) w1) => below_box2 hb)
  have hb0 := Below.refl (w.heap.size + 2) ((w.alloc (boxV k bo i t A1 n1 c1 A2 n2 c2)).alloc (boxV k' bo' i' t' A1' n1' c1' A2' n2' c2'))
  generalize hW2 : (w.alloc (boxV k bo i t A1 n1 c1 A2 n2 c2)).alloc (boxV k' bo' i' t' A1' n1' c1' A2' n2' c2') = W2 at HX HBW hb0
  unfold boxV at hW2
  unfold Six at HX
  simp only [Nat.zero_add] at HX
  obtain ⟨⟨x0, x1, x2, x3, x4, x5⟩, y0, y1, y2, y3, y4, y5⟩ := HX.out _ hb0
  have HB0 := Lib.hid hb0; clear hb0
  by_cases hk : k = k'
  · subst hk
    have hci : Lib.compareInt k k = 0 := by simp [Lib.compareInt]
    have CI1 := Lib.hid (fun wX => CI.out k k wX)
    rw [hci] at CI1
    by_cases hb : bo = bo'
    · subst hb
      have hF : cF k bo i t keys k bo i' t' keys' = c3 (Lib.compareInt i i') (Lib.compareBytes t.data.toList t'.data.toList) (cK keys keys') := by
        unfold cF
        rw [hci, if_neg (by simp), if_pos rfl]
      obtain ⟨p, hp⟩ : ∃ p, Lib.compareInt i i' = p := ⟨_, rfl⟩
      obtain ⟨q, hq⟩ : ∃ q, Lib.compareBytes t.data.toList t'.data.toList = q := ⟨_, rfl⟩
      obtain ⟨r, hr⟩ : ∃ r, cK keys keys' = r := ⟨_, rfl⟩
      have CI2 := Lib.hid (fun wX => CI.out i i' wX)
      have CS2 := Lib.hid (fun wX => CS.out t t' wX)
      rw [hp] at CI2 hF
      rw [hq] at CS2 hF
      rw [hr] at CK hF
      obtain ⟨v, hvv⟩ : ∃ v, c3 p q r = v := ⟨_, rfl⟩
      have hor := fun (g : Nat) (wX : World) h0 h1 h2 => or3_any p q r g wX h0 h1 h2
      rw [hvv] at hor hF
      have HOR := Lib.hid hor; clear hor
      have HF := Lib.hid hF; clear hF hci hp hq hr hvv CS
      go_enter Tryz.func24, Tryz.ntmps24
      go_wp2_with fail
      refine (CI1.out _).mono ?_
      rintro e w1 ⟨rfl, rfl⟩
      go_wp2_with fail
      have hb2 : Below (w.heap.size + 2) w1 w1.drew := (Below.refl _ _).drew
      refine wp_region_still_tail 15 (by kernel_rfl) (by kernel_rfl) ?_
      simp only [List.take_succ_cons, List.take_zero, List.drop_succ_cons, List.drop_zero]
      change wpStill _ _ w1.drew _ _ _
      repeat still_step
      still_call (CI2.out _)
      repeat still_step
      still_call (CS2.out _)
      repeat still_step
      still_call (CK.out _ (HBW.out _ (HB0.out.trans hb2)).1)
      repeat still_step
      refine wpStill_nil ?_
      change wpList _ _ _ _ _ w1.drew
      have hb3 := HB0.out.trans hb2
      clear hb2
      generalize w1.drew = w2 at hb3 ⊢
      have hs2 := (HBW.out _ hb3).2
      have hb4 := hb3.alloc hs2 (.cells #[.int .i64 p, .int .i64 q, .int .i64 r] 3)
      go_wp2_with fail
      refine (HOR.out w2.heap.size _ (by simp) (by simp) (by simp)).mono ?_
      rintro e w3 ⟨rfl, rfl⟩
      generalize w2.alloc (.cells #[.int .i64 p, .int .i64 q, .int .i64 r] 3) = w4 at hb4 ⊢
      clear hb3 hs2 x0 x1 x2 x3 x4 x5 y0 y1 y2 y3 y4 y5 HOR CI1 CI2 CS2 CK hW2
      have hbw4 := (HBW.out _ hb4).1
      by_cases hv0 : v = 0
      · subst hv0
        obtain ⟨⟨x0, x1, x2, x3, x4, x5⟩, y0, y1, y2, y3, y4, y5⟩ := HX.out _ hb4
        clear x0 x1 x2 x3 x5 y0 y1 y2 y3 y5
        go_wp2_with fail
        go_loopw [7] (fun i' wr => ∃ j : Nat, j ≤ n1 ∧ j ≤ n1' ∧ i' = .int .i64 j ∧ items.cmp items' = (items.drop j).cmp (items'.drop j) ∧ Below (w.heap.size + 2) w1 wr) (fun i' _ => n1 - (intOf i').toNat)
        case atStart => exact ⟨0, Nat.zero_le _, Nat.zero_le _, rfl, cmp_zero _ _, hb4⟩
        case round =>
          clear x4 y4 hb4 hbw4
          obtain ⟨j, hj, hj', rfl, hx, hbx⟩ := hrel
          have HXX := Lib.hid hx; clear hx
          obtain ⟨⟨x0, x1, x2, x3, x4, x5⟩, y0, y1, y2, y3, y4, y5⟩ := HX.out _ hbx
          clear x0 x1 x2 x3 x5 y0 y1 y2 y3 y5
          obtain ⟨hbw, hsz⟩ := HBW.out _ hbx
          by_cases hlt : j < n1
          · by_cases hlt' : j < n1'
            · obtain ⟨b, off, k1, bo1, i1, t1, B1, m1, d1, B2, m2, d2, it1, ks1, r1, rfl, e1, e2, E⟩ := HA.out.el j hlt
              obtain ⟨b', off', k1', bo1', i1', t1', B1', m1', d1', B2', m2', d2', it1', ks1', r1', rfl, e1', e2', E'⟩ := HA'.out.el j hlt'
              obtain ⟨hlb, z0, z1, z2, z3, z4, z5, hok⟩ := E.below hbw
              obtain ⟨hlb', u0, u1, u2, u3, u4, u5, hok'⟩ := E'.below hbw
              clear E E'
              have hsb : b < wr.heap.size := Nat.lt_of_lt_of_le hlb hbw.size
              have hsb' : b' < wr.heap.size := Nat.lt_of_lt_of_le hlb' hbw.size
              obtain ⟨x, hx⟩ : ∃ x, cOne k1 bo1 i1 t1 it1 ks1 k1' bo1' i1' t1' it1' ks1' = x := ⟨_, rfl⟩
              have hcall : ∀ wX, Below w.heap.size wr wX → Calls Tryz.prog 24 #[.agg #[.int .i64 k1, .bool bo1, .int .i64 i1, .string t1, .slice B1 m1 d1, .slice B2 m2 d2], .agg #[.int .i64 k1', .bool bo1', .int .i64 i1', .string t1', .slice B1' m1' d1', .slice B2' m2' d2']] wX
                  fun e w' => e = .returned (.int .i64 x) ∧ Below wX.heap.size wX w' := fun wX hX => by
                rw [← hx]
                exact HC.out j k1 bo1 i1 t1 it1 ks1 r1 k1' bo1' i1' t1' it1' ks1' r1' hlt hlt' e1 e1' _ _ _ _ _ _ _ _ _ _ _ _ wX ((hok.below hX).more (Nat.le_trans hbw.size hX.size)) ((hok'.below hX).more (Nat.le_trans hbw.size hX.size))
              have hat := cmp_at e1 e2 e1' e2' hx
              have HAT := Lib.hid hat; clear hat
              have HCL := Lib.hid hcall; clear hcall e1 e2 e1' e2' hx hok hok'
              go_wp2_with fail
              go_still_tail 10, (by kernel_rfl)
              change wpList _ _ _ _ _ wr.drew
              have hbd : Below wr.heap.size wr wr.drew := (Below.refl _ _).drew
              generalize wr.drew = wd at hbd ⊢
              go_wp2_with fail
              refine (HCL.out _ (hbd.mono hbw.size)).mono ?_
              rintro e w5 ⟨rfl, hb5⟩
              have hbx5 := hbx.trans ((hbd.trans (hb5.mono hbd.size)).mono hsz)
              have hbw5 := (HBW.out _ hbx5).1
              by_cases hx0 : x = 0
              · subst hx0
                go_wp2_with fail
                go_roundw
                case rel => exact ⟨j + 1, by omega, by omega, by go_num, by rw [HXX.out, HAT.out]; rfl, hbx5⟩
                case measure => simp [intOf]; omega
              · go_wp2_with fail
                go_ret
                exact ⟨retC (by rw [cOne_z HF.out, HXX.out, HAT.out, if_pos hx0]), hbw5⟩
            · obtain rfl : j = n1' := by omega
              have hd : items.cmp items' = Lib.compareInt n1 j := by rw [HXX.out, cmp_done (by rw [← HNL.out]; omega) (by rw [← HNL'.out]; omega) (.inr HNL'.out), ← HNL.out, ← HNL'.out]
              have HD := Lib.hid hd; clear hd
              go_wp2_with fail
              refine (CI.out _ _ _).mono ?_
              rintro e w5 ⟨rfl, rfl⟩
              go_wp2_with fail
              go_ret
              exact ⟨retC (by rw [cOne_z HF.out, HD.out]), hbw⟩
          · obtain rfl : j = n1 := by omega
            have hd : items.cmp items' = Lib.compareInt j n1' := by rw [HXX.out, cmp_done (by rw [← HNL.out]; omega) (by rw [← HNL'.out]; omega) (.inl HNL.out), ← HNL.out, ← HNL'.out]
            have HD := Lib.hid hd; clear hd
            go_wp2_with fail
            refine (CI.out _ _ _).mono ?_
            rintro e w5 ⟨rfl, rfl⟩
            go_wp2_with fail
            go_ret
            exact ⟨retC (by rw [cOne_z HF.out, HD.out]), hbw⟩
      · go_wp2_with fail
        go_ret
        exact ⟨retC (cOne_nz HF.out hv0), hbw4⟩
    · have hF : cF k bo i t keys k bo' i' t' keys' = if bo' = true then -1 else 1 := by
        unfold cF
        rw [hci, if_neg (by simp), if_neg hb]
      have HF := Lib.hid hF; clear hF hci CI CS CK
      cases bo <;> cases bo'
      · exact absurd rfl hb
      · clear hb
        go_enter Tryz.func24, Tryz.ntmps24
        go_wp2_with fail
        refine (CI1.out _).mono ?_
        rintro e w1 ⟨rfl, rfl⟩
        go_wp2_with fail
        go_ret
        exact ⟨retC (cOne_nz HF.out (by simp)), (HBW.out _ HB0.out).1⟩
      · clear hb
        go_enter Tryz.func24, Tryz.ntmps24
        go_wp2_with fail
        refine (CI1.out _).mono ?_
        rintro e w1 ⟨rfl, rfl⟩
        go_wp2_with fail
        go_ret
        exact ⟨retC (cOne_nz HF.out (by simp)), (HBW.out _ HB0.out).1⟩
      · exact absurd rfl hb
  · have hne : ¬ Lib.compareInt k k' = 0 := fun e => hk (compareInt_zero.1 e)
    have hF : cF k bo i t keys k' bo' i' t' keys' = Lib.compareInt k k' := by
      unfold cF
      rw [if_pos hne]
    obtain ⟨p, hp⟩ : ∃ p, Lib.compareInt k k' = p := ⟨_, rfl⟩
    have CI2 := Lib.hid (fun wX => CI.out k k' wX)
    rw [hp] at CI2 hF hne
    have HF := Lib.hid hF; clear hF CI CS CK hp
    go_enter Tryz.func24, Tryz.ntmps24
    go_wp2_with fail
    refine (CI2.out _).mono ?_
    rintro e w1 ⟨rfl, rfl⟩
    go_wp2_with fail
    go_ret
    exact ⟨retC (cOne_nz HF.out hne), (HBW.out _ HB0.out).1⟩
theorem compareOf_any (N : Nat) : ∀ (k : Int) (bo : Bool) (i : Int) (t : ByteArray) (A1 : Option Addr) (n1 c1 : Nat) (A2 : Option Addr) (n2 c2 : Nat) (items : Vals) (keys : List ByteArray)
    (k' : Int) (bo' : Bool) (i' : Int) (t' : ByteArray) (A1' : Option Addr) (n1' c1' : Nat) (A2' : Option Addr) (n2' c2' : Nat) (items' : Vals) (keys' : List ByteArray) (w : World),
    VOk w w.heap.size k i t A1 n1 c1 A2 n2 c2 items keys → VOk w w.heap.size k' i' t' A1' n1' c1' A2' n2' c2' items' keys' → items.nodes ≤ N →
    items.nodes ≤ 1099511627776 → items.letters ≤ 1099511627776 → items'.nodes ≤ 1099511627776 → items'.letters ≤ 1099511627776 → n2 ≤ 1099511627776 → n2' ≤ 1099511627776 →
    Calls Tryz.prog 24 #[.agg #[.int .i64 k, .bool bo, .int .i64 i, .string t, .slice A1 n1 c1, .slice A2 n2 c2], .agg #[.int .i64 k', .bool bo', .int .i64 i', .string t', .slice A1' n1' c1', .slice A2' n2' c2']] w
      fun e w' => e = .returned (.int .i64 (cOne k bo i t items keys k' bo' i' t' items' keys')) ∧ Below w.heap.size w w' := by
  induction N with
  | zero =>
    intro k bo i t A1 n1 c1 A2 n2 c2 items keys k' bo' i' t' A1' n1' c1' A2' n2' c2' items' keys' w hv hv' hN hb1 hl1 hb2 hl2 hn hn'
    have h1 := Vals.len_le items
    have h2 := hv.at_.len_eq
    have h3 := Vals.len_le items'
    have h4 := hv'.at_.len_eq
    exact compareOf_gen k bo i t A1 n1 c1 A2 n2 c2 items keys k' bo' i' t' A1' n1' c1' A2' n2' c2' items' keys' w hv hv' (by omega) (by omega) hn hn' fun j _ _ _ _ _ _ _ _ _ _ _ _ _ _ hj => absurd hj (by omega)
  | succ N ih =>
    intro k bo i t A1 n1 c1 A2 n2 c2 items keys k' bo' i' t' A1' n1' c1' A2' n2' c2' items' keys' w hv hv' hN hb1 hl1 hb2 hl2 hn hn'
    have h1 := Vals.len_le items
    have h2 := hv.at_.len_eq
    have h3 := Vals.len_le items'
    have h4 := hv'.at_.len_eq
    refine compareOf_gen k bo i t A1 n1 c1 A2 n2 c2 items keys k' bo' i' t' A1' n1' c1' A2' n2' c2' items' keys' w hv hv' (by omega) (by omega) hn hn' fun j ka ba ia ta ita ksa ra kb bb ib tb itb ksb rb hj hj' ea eb A1a n1a c1a A2a n2a c2a A1b n1b c1b A2b n2b c2b wX va vb => ?_
    obtain ⟨g1, g2, g3⟩ := Vals.below_at ea
    obtain ⟨g1', g2', g3'⟩ := Vals.below_at eb
    have h5 := va.ks.1
    have h6 := vb.ks.1
    exact ih ka ba ia ta A1a n1a c1a A2a n2a c2a ita ksa kb bb ib tb A1b n1b c1b A2b n2b c2b itb ksb wX va vb (by omega) (by omega) (by omega) (by omega) (by omega) (by omega) (by omega)
end Go.Proofs.YtohkdckllmmfhaaGreatDoor
