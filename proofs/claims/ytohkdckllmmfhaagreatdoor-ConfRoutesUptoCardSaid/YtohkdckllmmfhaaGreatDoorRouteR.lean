/- DERIVED. What the reference's RouteParts returns, without stars: the parts of a route. Condition: the library's variable MaxLen holds a number. -/
import Derived.Test.YtohkdckllmmfhaaGreatDoorRoute
import Derived.Deep.Cut
import Derived.Deep.CutRange
import Derived.Deep.LoopGhost
namespace Go.Proofs.YtohkdckllmmfhaaGreatDoor
open Go.RowKit
set_option linter.unusedVariables false
theorem digitsAlone_any (s : ByteArray) (w : World) (hs : s.size ≤ maxLen) :
    Calls Tryz.prog 60 #[.string s] w fun e w' => e = .returned (.bool (decide (0 < s.size) && allD s.data.toList)) ∧ Below w.heap.size w w' := by
  by_cases h0 : 0 < s.size
  · rw [decide_eq_true h0]
    exact digitsAlone_some s w hs h0
  · rw [decide_eq_false h0]
    exact digitsAlone_none s w (by omega)
set_option maxRecDepth 100000 in
set_option maxHeartbeats 3200000 in
theorem routeParts_any (s : ByteArray) (w : World) (hm : MaxL w) : Calls Tryz.prog 22 #[.string s, .bool false] w (CutPost (routeB s) (routeL s) w) := by
  by_cases h4 : (400 : Int) < (s.size : Int)
  · have hb : routeB s = false := by unfold routeB cutB; rw [decide_eq_false (show ¬ s.size = 0 by omega), decide_eq_false (show ¬ s.size ≤ 400 by omega)]; rfl
    rw [hb]
    clear hb
    go_enter Tryz.func22, Tryz.ntmps22
    go_wp2_with fail
    go_ret2
    exact ⟨none, 0, 0, rfl, ⟨rfl, rfl, rfl⟩, Below.refl _ _⟩
  · by_cases h0 : s.size = 0
    · have hn := isEmpty_nil h0
      have hb : routeB s = true := by unfold routeB; rw [decide_eq_true h0]; rfl
      have hl : routeL s = [] := by unfold routeL; rw [if_pos h0]
      rw [hb, hl]
      clear hb hl
      go_enter Tryz.func22, Tryz.ntmps22
      go_wp2_with fail
      go_ret2
      exact ⟨none, 0, 0, rfl, by rw [if_pos rfl]; exact ⟨Nat.le_refl _, Nat.zero_le _, keys_nil _ _⟩, Below.refl _ _⟩
    · have hn := isEmpty_ne (s := s) (by omega)
      obtain ⟨hm1, m, hm2⟩ := hm
      have HS := Lib.hid (Tryz.strings_Split s dotS m w (by omega) hm2 (by decide))
      have hc0 : Lib.countB s dotS ≤ s.size := Lib.countB_le dotS (by decide) s.size s (Nat.le_refl _)
      have hcl : Lib.countB s dotS + 1 ≤ 401 := by omega
      have HK := Lib.hid (parts_lie s w (by omega))
      have hcb : routeB s = (partsS s).all partB := by unfold routeB cutB; rw [decide_eq_true (show s.size ≤ 400 by omega), decide_eq_false h0]; rfl
      have hl : routeL s = partsS s := by unfold routeL; rw [if_neg h0]
      rw [hcb, hl]
      have hpl := partsS_len s
      have e1 : (Lib.splitB dotS 0 (Lib.countB s dotS) s) = partsS s := rfl
      rw [e1] at HS
      have hps := fun x (hx : x ∈ partsS s) => partsS_size s x hx
      generalize Lib.countB s dotS + 1 = n at HS hcl HK hpl
      generalize partsS s = l at HS HK hpl hps ⊢
      have HPL := Lib.hid hpl
      have HPS := Lib.hid (fun x hx => Nat.le_trans (hps x hx) (show s.size ≤ 400 by omega))
      have HB := Lib.hid ((Below.refl w.heap.size w).alloc (Nat.le_refl _) (.cells (l.map Value.string).toArray 9))
      have HZ := Lib.hid (show (w.alloc (.cells (l.map Value.string).toArray 9)).heap.size = w.heap.size + 1 by simp)
      clear hm2 hm1 hc0 hcb hl hpl e1 hps
      generalize w.alloc (.cells (l.map Value.string).toArray 9) = w1 at HS HK HB HZ
      unfold dotS at HS
      go_enter Tryz.func22, Tryz.ntmps22
      go_wp2_with fail
      refine HS.out.mono ?_
      rintro e w2 ⟨rfl, rfl⟩
      go_wp2_with fail
      go_loopg [8, 9, 19] n (fun g _ _ i wr => ∃ k : Nat, k ≤ n ∧ n - k ≤ g ∧ i = .int .i64 k ∧ (l.take k).all partB = true ∧ Below w2.heap.size w2 wr)
      case atStart => exact ⟨0, Nat.zero_le _, Nat.le_refl _, rfl, rfl, Below.refl _ _⟩
      case round =>
        obtain ⟨k, hk, hgk, rfl, hall, hbw⟩ := hrel
        have HALL := Lib.hid hall; clear hall
        have HBW := Lib.hid hbw
        by_cases hlt : k < n
        · have hkl : k < l.length := by rw [HPL.out]; exact hlt
          obtain ⟨x, hx⟩ : ∃ x, l[k]? = some x := ⟨_, List.getElem?_eq_getElem hkl⟩
          obtain ⟨b, o, hbo, hbl, hcell⟩ := HK.out.2.2 (by omega)
          cases hbo
          have x0 := (hbw.cell (p := ⟨w.heap.size, 0 + k, none⟩) (by rw [HZ.out]; exact hbl)).trans (hcell k x hx)
          simp only [Nat.zero_add] at x0
          have hsx := HPS.out x (List.mem_of_getElem? hx)
          have hxm : x.size ≤ maxLen := by unfold maxLen; omega
          have HD := Lib.hid (fun wx => digitsAlone_any x wx hxm)
          have HI := Lib.hid (fun wx => isKeyR_any x wx hxm)
          have HX := Lib.hid hx
          clear hcell hx hkl hbl hxm hbw
          go_upto_region 9 with (fail)
          go_cut [9] from 23 to 38 (fun v wx => v = .bool (idxB x) ∧ Below wr.heap.size wr wx)
          case first =>
            by_cases hx0 : 0 < x.size
            · have i0 : (0 : Int) < (x.size : Int) := by omega
              have hxn := isEmpty_ne hx0
              have hix : idxB x = (decide (x.size ≤ 4) && (allD x.data.toList && (!(x[0] == 48) || decide (x = ⟨#[48]⟩)))) := by unfold idxB; rw [numB_alt x hx0]
              rw [decide_eq_true hx0, Bool.true_and] at HD
              have HX2 := Lib.hid hix
              clear hix
              cases hd : allD x.data.toList with
              | false =>
                rw [hd] at HD HX2
                clear hd
                go_wp2_with fail
                refine (HD.out _).mono ?_
                rintro e w3 ⟨rfl, hb3⟩
                have HB3 := Lib.hid hb3
                clear hb3
                go_wp2_with fail
                go_meet
                case rel => exact ⟨by rw [HX2.out]; simp, HB3.out⟩
              | true =>
                rw [hd] at HD HX2
                clear hd
                by_cases h4x : (x.size : Int) ≤ 4
                · obtain ⟨c, hc⟩ : ∃ c, x[0] = c := ⟨_, rfl⟩
                  rw [hc, decide_eq_true (show x.size ≤ 4 by omega)] at HX2
                  by_cases h48 : (c.toNat : Int) = 48
                  · have e1 : ((c.toNat : Int) == 48) = true := by simpa using h48
                    have e2 : ((c.toNat : Int) != 48) = false := by simpa using h48
                    have e3 : (c == 48) = true := by rw [u8_ne (c := c) (n := 48) (by omega) (by omega)]; rfl
                    rw [e3] at HX2
                    clear e3 h48
                    by_cases hz : x = ⟨#[48]⟩
                    · have hz1 : x.toList = [48] := by rw [hz, ByteArray.toList_eq]
                      have hz2 : (x.toList == [48]) = true := by rw [hz1]; rfl
                      rw [decide_eq_true hz] at HX2
                      clear hz
                      go_wp2_with fail
                      refine (HD.out _).mono ?_
                      rintro e w3 ⟨rfl, hb3⟩
                      have HB3 := Lib.hid hb3
                      clear hb3
                      go_wp2_with fail
                      go_meet
                      case rel => exact ⟨by rw [HX2.out]; simp, HB3.out⟩
                    · have hz1 : ¬ x.toList = [48] := fun h => hz (by rw [ByteArray.toList_eq] at h; exact ByteArray.ext (Array.toList_inj.1 h))
                      have hz2 : (x.toList == [48]) = false := by simpa using hz1
                      rw [decide_eq_false hz] at HX2
                      clear hz
                      go_wp2_with fail
                      refine (HD.out _).mono ?_
                      rintro e w3 ⟨rfl, hb3⟩
                      have HB3 := Lib.hid hb3
                      clear hb3
                      go_wp2_with fail
                      go_meet
                      case rel => exact ⟨by rw [HX2.out]; simp, HB3.out⟩
                  · have e1 : ((c.toNat : Int) == 48) = false := by simpa using h48
                    have e2 : ((c.toNat : Int) != 48) = true := by simpa using h48
                    have e3 : (c == 48) = false := by simp only [beq_eq_false_iff_ne, ne_eq]; rintro rfl; exact h48 rfl
                    rw [e3] at HX2
                    clear e3 h48
                    go_wp2_with fail
                    refine (HD.out _).mono ?_
                    rintro e w3 ⟨rfl, hb3⟩
                    have HB3 := Lib.hid hb3
                    clear hb3
                    go_wp2_with fail
                    go_meet
                    case rel => exact ⟨by rw [HX2.out]; simp, HB3.out⟩
                · rw [decide_eq_false (show ¬ x.size ≤ 4 by omega)] at HX2
                  go_wp2_with fail
                  refine (HD.out _).mono ?_
                  rintro e w3 ⟨rfl, hb3⟩
                  have HB3 := Lib.hid hb3
                  clear hb3
                  go_wp2_with fail
                  go_meet
                  case rel => exact ⟨by rw [HX2.out]; simp, HB3.out⟩
            · have hxn := isEmpty_nil (s := x) (by omega)
              have hix : idxB x = false := by unfold idxB numB; rw [if_pos (show x.size = 0 by omega)]; simp
              have HX2 := Lib.hid hix
              rw [decide_eq_false hx0, Bool.false_and] at HD
              clear hix
              go_wp2_with fail
              refine (HD.out _).mono ?_
              rintro e w3 ⟨rfl, hb3⟩
              have HB3 := Lib.hid hb3
              clear hb3
              go_wp2_with fail
              go_meet
              case rel => exact ⟨by rw [HX2.out], HB3.out⟩
          case rest =>
            obtain ⟨rfl, hb2⟩ := hcut
            have HB2 := Lib.hid hb2
            clear hb2
            cases hi : idxB x with
            | true =>
              have HO := Lib.hid (show partB x = true by unfold partB; rw [hi]; simp)
              clear hi
              go_wp2_with fail
              go_roundg (n - (k + 1))
              case rel => exact ⟨k + 1, by omega, Nat.le_refl _, by go_num, all_take HX.out HALL.out HO.out, HBW.out.trans (HB2.out.mono HBW.out.size)⟩
              case measure => omega
            | false =>
              cases hkb : keyB x with
              | true =>
                have HO := Lib.hid (show partB x = true by unfold partB; rw [hkb]; simp)
                rw [hkb] at HI
                clear hi hkb
                go_wp2_with fail
                refine (HI.out _).mono ?_
                rintro e w4 ⟨rfl, hb4⟩
                have HB4 := Lib.hid hb4
                clear hb4
                go_wp2_with fail
                go_roundg (n - (k + 1))
                case rel => exact ⟨k + 1, by omega, Nat.le_refl _, by go_num, all_take HX.out HALL.out HO.out, HBW.out.trans ((HB2.out.trans (HB4.out.mono HB2.out.size)).mono HBW.out.size)⟩
                case measure => omega
              | false =>
                have HO := Lib.hid (show partB x = false by unfold partB; rw [hkb, hi]; simp)
                rw [hkb] at HI
                clear hi hkb
                go_wp2_with fail
                refine (HI.out _).mono ?_
                rintro e w4 ⟨rfl, hb4⟩
                have HB4 := Lib.hid hb4
                clear hb4
                go_wp2_with fail
                go_ret2
                rw [all_not HX.out HO.out]
                exact ⟨none, 0, 0, rfl, ⟨rfl, rfl, rfl⟩, HB.out.trans ((HBW.out.trans ((HB2.out.trans (HB4.out.mono HB2.out.size)).mono HBW.out.size)).mono (by rw [HZ.out]; omega))⟩
        · obtain rfl : k = n := by omega
          go_wp2_with fail
          go_ret2
          have ha : l.all partB = true := by
            have := HALL.out
            rwa [List.take_of_length_le (by rw [HPL.out]; exact Nat.le_refl _)] at this
          rw [ha]
          exact ⟨some ⟨w.heap.size, 0, none⟩, k, k, rfl, by rw [if_pos rfl]; exact ⟨Nat.le_refl _, by omega, (HK.out.keep (fun p hp => hbw.cell (by rw [HZ.out]; exact hp)) (by have := hbw.size; rw [HZ.out] at this; exact this))⟩, HB.out.trans (hbw.mono (by rw [HZ.out]; omega))⟩
end Go.Proofs.YtohkdckllmmfhaaGreatDoor
