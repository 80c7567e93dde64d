/- DERIVED. asset.checkSources. Condition: the library's variables are as the program's text lays them. -/
import Derived.Test.YtlifjhglpflplaaDoorSrcA
import Derived.RegionTactic
import Derived.BigRegion
namespace Go.Proofs.YtlifjhglpflplaaDoor
open Go.RowKit
set_option linter.unusedVariables false
def rootB (s : ByteArray) : Bool := Lib.hasPrefix s.data.toList [47] && tpathB ⟨(Lib.trimPrefix s.data.toList [47]).toArray⟩
def srcE (s : ByteArray) (x : Int) (zs : List Int) : Int := if rootB s = false then 3 else if 12 < zs.length then 4 else if (noW x || zs.any noW) = true then 2 else if risP zs then 0 else 5
set_option maxRecDepth 100000 in
theorem noWc_any (x : Int) (w : World) : Calls Tryd.prog 64 #[.int .i64 x] w fun e w' => e = .returned (.bool (noW x)) ∧ w = w' := by
  have HC := Lib.hid (fun wx => isWidth_any x wx)
  go_enter Tryd.func64, Tryd.ntmps64
  go_wp2_with fail
  refine (HC.out _).mono ?_
  rintro e w' ⟨rfl, rfl⟩
  go_wp2_with fail
  go_ret
  exact ⟨by cases noW x <;> rfl, rfl⟩
set_option maxRecDepth 100000 in
set_option maxHeartbeats 800000 in
theorem indexW_any (A : Option Addr) (n c : Nat) (l : List Int) (w : World) (hn : n ≤ 12) (hl : l.length = n) (hr : IntRow w w.heap.size A l) :
    Calls Tryd.prog 105 #[.slice A n c, .func (.func 64) #[] #[]] w fun e w' => ∃ r : Int, e = .returned (.int .i64 r) ∧ decide (0 ≤ r) = l.any noW ∧ Below w.heap.size w w' := by
  have HR := Lib.hid hr; clear hr
  have HL := Lib.hid hl; clear hl
  have eg : ∀ args w, (callFunc 64 args).run Tryd.prog w = .ok (.enter 64 args) w := enters_of Tryd.func64 (by kernel_rfl) rfl
  go_enter Tryd.func105, Tryd.ntmps105
  go_wp2_with fail
  go_loopw [8] (fun i wr => ∃ k : Nat, k ≤ n ∧ i = .int .i64 k ∧ (l.take k).any noW = false ∧ Below w.heap.size w wr) (fun i _ => n - (intOf i).toNat)
  case atStart => exact ⟨0, Nat.zero_le _, rfl, rfl, Below.refl _ _⟩
  case round =>
    obtain ⟨k, hk, rfl, hall, hbw⟩ := hrel
    have HALL := Lib.hid hall; clear hall
    by_cases hlt : k < n
    · obtain ⟨x, hx⟩ : ∃ x, l[k]? = some x := ⟨_, List.getElem?_eq_getElem (by rw [HL.out]; exact hlt)⟩
      obtain ⟨b, off, rfl, hb, hc⟩ := HR.out.at (k := k) (by rw [HL.out]; exact hlt)
      have x0 := (hbw.cell (p := ⟨b, off + k, none⟩) hb).trans (hc k x hx)
      have HC := Lib.hid (fun wx => noWc_any x wx)
      have HX := Lib.hid hx
      clear hx hc
      cases hok : noW x with
      | false =>
        rw [hok] at HC
        have HO := Lib.hid hok
        clear hok
        go_wp2_with fail
        refine (HC.out _).mono ?_
        rintro e w' ⟨rfl, rfl⟩
        go_wp2_with fail
        go_roundw
        case rel => exact ⟨k + 1, by omega, by go_num, noW_step HX.out HALL.out HO.out, hbw⟩
        case measure => simp [intOf]; omega
      | true =>
        rw [hok] at HC
        have HO := Lib.hid hok
        clear hok
        go_wp2_with fail
        refine (HC.out _).mono ?_
        rintro e w' ⟨rfl, rfl⟩
        go_wp2_with fail
        go_ret
        exact ⟨k, rfl, by rw [noW_hit HX.out HO.out]; simp, hbw⟩
    · obtain rfl : k = n := by omega
      go_wp2_with fail
      go_ret
      have ha := HALL.out
      rw [List.take_of_length_le (by rw [HL.out]; exact Nat.le_refl _)] at ha
      exact ⟨-1, rfl, by rw [ha]; rfl, hbw⟩
theorem containsW_any (A : Option Addr) (n c : Nat) (l : List Int) (w : World) (hn : n ≤ 12) (hl : l.length = n) (hr : IntRow w w.heap.size A l) :
    Calls Tryd.prog 63 #[.slice A n c, .func (.func 64) #[] #[]] w fun e w' => e = .returned (.bool (l.any noW)) ∧ Below w.heap.size w w' := by
  have H := Lib.hid (indexW_any A n c l w hn hl hr)
  clear hr hl
  go_enter Tryd.func63, Tryd.ntmps63
  go_wp2_with fail
  refine H.out.mono ?_
  rintro e w1 ⟨r, rfl, hr, hb1⟩
  have HR := Lib.hid hr; clear hr
  go_wp2_with fail
  go_ret
  exact ⟨by rw [← HR.out]; rfl, hb1⟩
set_option maxRecDepth 100000 in
set_option maxHeartbeats 1600000 in
theorem checkSources_any (s : ByteArray) (x : Int) (A : Option Addr) (n c : Nat) (zs : List Int) (w : World) (hv : Vars w) (hz : zs.length = n) (hn : n ≤ c) (hcm : c ≤ 9223372036854775807) (hR : IntRow w w.heap.size A zs) :
    Calls Tryd.prog 36 #[.string s, .int .i64 x, .slice A n c] w fun e w' => e = .returned (.int .i64 (srcE s x zs)) ∧ Below w.heap.size w w' := by
  obtain ⟨rest, hrest⟩ : ∃ r : ByteArray, (⟨(Lib.trimPrefix s.data.toList [47]).toArray⟩ : ByteArray) = r := ⟨_, rfl⟩
  have hcut : ∀ wX, Calls Tryd.prog 61 #[.string s, .string ⟨#[47]⟩] wX fun e w' => e = .returned (.tuple #[.string rest, .bool (Lib.hasPrefix s.data.toList [47])]) ∧ wX = w' := fun wX =>
    (Tryd.strings_CutPrefix s ⟨#[47]⟩ wX).mono fun e w' h => ⟨h.1.trans (by rw [← hrest]), h.2.symm⟩
  have hcp := fun wX (hX : Below w.heap.size w wX) => checkPath_any rest wX ((hv.below hX).1)
  have hE : srcE s x zs = if (Lib.hasPrefix s.data.toList [47] && tpathB rest) = false then 3 else if 12 < n then 4 else if (noW x || zs.any noW) = true then 2 else if risP zs then 0 else 5 := by
    unfold srcE rootB
    rw [hrest, hz]
  have HE := Lib.hid hE
  have HRW := Lib.hid hR
  have HZ := Lib.hid hz
  clear hE hR hz hrest hv
  cases h1 : Lib.hasPrefix s.data.toList [47] with
  | false =>
    rw [h1] at hcut HE
    have HC := Lib.hid hcut
    clear hcut hcp h1
    go_enter Tryd.func36, Tryd.ntmps36
    go_wp2_with fail
    refine (HC.out _).mono ?_
    rintro e w1 ⟨rfl, rfl⟩
    go_wp2_with fail
    go_ret
    exact ⟨by rw [HE.out]; rfl, Below.refl _ _⟩
  | true =>
    rw [h1] at hcut HE
    have HC := Lib.hid hcut
    clear hcut h1
    cases h2 : tpathB rest with
    | false =>
      rw [h2] at hcp HE
      have HP := Lib.hid hcp
      clear hcp h2
      go_enter Tryd.func36, Tryd.ntmps36
      go_wp2_with fail
      refine (HC.out _).mono ?_
      rintro e w1 ⟨rfl, rfl⟩
      go_wp2_with fail
      refine (HP.out _ (Below.refl _ _)).mono ?_
      rintro e w1 ⟨rfl, hb1⟩
      go_wp2_with fail
      go_ret
      exact ⟨by rw [HE.out]; rfl, hb1⟩
    | true =>
      rw [h2] at hcp HE
      have HP := Lib.hid hcp
      clear hcp h2
      by_cases h3 : 12 < n
      · have h3i : (12 : Int) < (n : Int) := by omega
        go_enter Tryd.func36, Tryd.ntmps36
        go_wp2_with fail
        refine (HC.out _).mono ?_
        rintro e w1 ⟨rfl, rfl⟩
        go_wp2_with fail
        refine (HP.out _ (Below.refl _ _)).mono ?_
        rintro e w1 ⟨rfl, hb1⟩
        go_wp2_with fail
        go_ret
        exact ⟨by rw [HE.out, if_neg (by decide), if_pos h3]; rfl, hb1⟩
      · have h3i : ¬ (12 : Int) < (n : Int) := by omega
        have HE2 := Lib.hid (HE.out.trans (by rw [if_neg (by decide), if_neg h3]))
        have HW := Lib.hid (fun wX => isWidth_any x wX)
        have HCW := Lib.hid (fun wX (hX : Below w.heap.size w wX) => containsW_any A n c zs wX (by omega) HZ.out ((HRW.out.below hX (Nat.le_refl _)).more hX.size))
        clear HE
        cases h4 : noW x with
        | true =>
          rw [h4] at HW HE2
          clear h4
          go_enter Tryd.func36, Tryd.ntmps36
          go_wp2_with fail
          refine (HC.out _).mono ?_
          rintro e w1 ⟨rfl, rfl⟩
          go_wp2_with fail
          refine (HP.out _ (Below.refl _ _)).mono ?_
          rintro e w1 ⟨rfl, hb1⟩
          go_wp2_with fail
          refine (HW.out _).mono ?_
          rintro e w2 ⟨rfl, rfl⟩
          go_wp2_with fail
          go_ret
          exact ⟨by rw [HE2.out]; rfl, hb1⟩
        | false =>
          rw [h4] at HW HE2
          clear h4
          cases h5 : zs.any noW with
          | true =>
            rw [h5] at HCW HE2
            clear h5
            go_enter Tryd.func36, Tryd.ntmps36
            go_wp2_with fail
            refine (HC.out _).mono ?_
            rintro e w1 ⟨rfl, rfl⟩
            go_wp2_with fail
            refine (HP.out _ (Below.refl _ _)).mono ?_
            rintro e w1 ⟨rfl, hb1⟩
            go_wp2_with fail
            refine (HW.out _).mono ?_
            rintro e w2 ⟨rfl, rfl⟩
            go_wp2_with fail
            refine (HCW.out _ hb1).mono ?_
            rintro e w3 ⟨rfl, hb3⟩
            have HB := Lib.hid (hb1.trans (hb3.mono hb1.size))
            clear hb1 hb3
            go_wp2_with fail
            go_ret
            exact ⟨by rw [HE2.out]; rfl, HB.out⟩
          | false =>
            rw [h5] at HCW HE2
            have HE3 := Lib.hid (show srcE s x zs = if risP zs then 0 else 5 from HE2.out.trans (if_neg (by decide)))
            clear h5 HE2
            go_enter Tryd.func36, Tryd.ntmps36
            go_wp2_with fail
            refine (HC.out _).mono ?_
            rintro e w1 ⟨rfl, rfl⟩
            go_wp2_with fail
            refine (HP.out _ (Below.refl _ _)).mono ?_
            rintro e w1 ⟨rfl, hb1⟩
            go_wp2_with fail
            refine (HW.out _).mono ?_
            rintro e w2 ⟨rfl, rfl⟩
            go_wp2_with fail
            refine (HCW.out _ hb1).mono ?_
            rintro e w3 ⟨rfl, hb3⟩
            have HB := Lib.hid (hb1.trans (hb3.mono hb1.size))
            clear hb1 hb3
            go_wp2_with fail
            go_loopw [9] (fun i wr => ∃ k : Nat, 1 ≤ k ∧ (k ≤ n ∨ k = 1) ∧ i = .int .i64 k ∧ (∀ j a b, j + 1 < k → zs[j]? = some a → zs[j + 1]? = some b → a < b) ∧ Below w.heap.size w wr) (fun i _ => n - (intOf i).toNat)
            case atStart => exact ⟨1, Nat.le_refl _, .inr rfl, rfl, fun j a b hj => by omega, HB.out⟩
            case round =>
              obtain ⟨k, hk1, hk, rfl, hp, hbw⟩ := hrel
              have HBW := Lib.hid hbw
              clear hbw HB
              by_cases hlt : k < n
              · obtain ⟨y, hy⟩ : ∃ y, zs[k]? = some y := ⟨_, List.getElem?_eq_getElem (by rw [HZ.out]; exact hlt)⟩
                obtain ⟨z, hz⟩ : ∃ z, zs[k - 1]? = some z := ⟨_, List.getElem?_eq_getElem (by rw [HZ.out]; omega)⟩
                obtain ⟨b, off, rfl, hb, hc⟩ := HRW.out.at (k := k) (by rw [HZ.out]; exact hlt)
                have y0 := (HBW.out.cell (p := ⟨b, off + k, none⟩) hb).trans (hc k y hy)
                have z0 := (HBW.out.cell (p := ⟨b, off + (k - 1), none⟩) hb).trans (hc (k - 1) z hz)
                have hkk : ((k - 1 : Nat) : Int) = (k : Int) - 1 := by omega
                have HP2 := Lib.hid hp
                have HY := Lib.hid hy
                have HZ2 := Lib.hid hz
                clear hp hy hz hc
                obtain ⟨m, rfl⟩ : ∃ m, k = m + 1 := ⟨k - 1, by omega⟩
                simp only [Nat.add_sub_cancel] at z0 HZ2
                by_cases hle : y ≤ z
                · go_wp2_with fail
                  go_region
                  go_wp2_with fail
                  go_ret
                  exact ⟨by rw [HE3.out, if_neg (ris_not HZ2.out HY.out hle)]; rfl, HBW.out.drew⟩
                · go_wp2_with fail
                  go_region
                  go_wp2_with fail
                  go_roundw
                  case rel =>
                    refine ⟨m + 2, by omega, .inl (by omega), by go_num, fun j a b hj ha hb => ?_, HBW.out.drew⟩
                    by_cases hjm : j = m
                    · subst hjm
                      rw [HZ2.out] at ha; rw [HY.out] at hb
                      cases ha; cases hb
                      omega
                    · exact HP2.out j a b (by omega) ha hb
                  case measure => simp [intOf]; omega
              · have hr : risP zs := ris_of fun j a b ha hb => hp j a b (by have := (List.getElem?_eq_some_iff.1 hb).1; rw [HZ.out] at this; omega) ha hb
                have HE4 := Lib.hid (HE3.out.trans (if_pos hr))
                clear hp hr
                go_wp2_with fail
                go_ret
                exact ⟨by rw [HE4.out]; rfl, HBW.out⟩
end Go.Proofs.YtlifjhglpflplaaDoor
