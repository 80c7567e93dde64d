/- DERIVED. The reference's MapStringOf. Condition: the table of math/bits holds 5 at its place 31. -/
import Derived.Test.YtkobenohijipeaaDoorMapP
namespace Go.Proofs.YtkobenohijipeaaDoor
open Go.RowKit
set_option linter.unusedVariables false
theorem mapE_form {bz n1 n2 : Nat} {zs : List Int} {ps : List ByteArray} (h : ¬ 200000 < bz) (hf : fitsB bz n1 n2 zs = false) : mapE bz n1 n2 zs ps = 1 := by
  unfold mapE
  rw [bunE_no h hf, if_neg (by decide)]
theorem mapS_bad {bz n1 n2 : Nat} {zs : List Int} {ps : List ByteArray} (h : mapE bz n1 n2 zs ps ≠ 0) : mapS bz n1 n2 zs ps = ⟨#[]⟩ := by
  unfold mapS
  rw [if_neg h]
theorem bs_len (x : ByteArray) : x.data.toList.length = x.size := by rw [Array.length_toList]; rfl
theorem bs_app (l : List UInt8) (b : ByteArray) : (⟨l.toArray⟩ : ByteArray) ++ b = ⟨(l ++ b.data.toList).toArray⟩ := by
  apply ByteArray.ext
  rw [ByteArray.data_append]
  simp
set_option maxRecDepth 100000 in
set_option maxHeartbeats 1600000 in
theorem mapR_any (s : ByteArray) (A1 A2 : Option Addr) (n1 c1 n2 c2 : Nat) (ps : List ByteArray) (zs : List Int) (w : World) (hl : ps.length = n1) (hn : n1 ≤ c1) (hcm : c1 ≤ 9223372036854775807) (hm : MaxT w) (ht : Tz32 w) (hR : StrRow w w.heap.size A1 ps) (hz : zs.length = n2) (hn2 : n2 ≤ maxLen) (hI : IntsAt w w.heap.size A2 zs) :
    Calls Tryd.prog 16 #[.agg #[.string s, .slice A1 n1 c1, .slice A2 n2 c2]] w fun e w' => e = .returned (.tuple #[.string (mapS s.size n1 n2 zs ps), .int .i64 (mapE s.size n1 n2 zs ps)]) ∧ Below w.heap.size w w' := by
  have H1 := Lib.hid (fun wX (hX : Below w.heap.size w wX) => form_any s A1 A2 n1 c1 n2 c2 zs wX hz hn2 ((hI.below hX (Nat.le_refl _)).morm hX.size))
  have H3 := Lib.hid (fun (k : Nat) (hk : k < 1048576) wX (hX : Below w.heap.size w wX) => fmt32 k wX hk (ht.below hX))
  have H2 := Lib.hid (fun x wX (hX : Below w.heap.size w wX) => rPath_any x wX (hm.below hX))
  have HI := Lib.hid hI
  have HZ := Lib.hid hz
  have HR := Lib.hid hR
  have HL := Lib.hid hl
  clear hI hz hR hl ht hm
  unfold maxLen at hn2
  by_cases hbig : (200000 : Int) < (s.size : Int)
  · have hE : mapE s.size n1 n2 zs ps = 4 := by
      have hb : bunE s.size n1 n2 zs = 4 := by unfold bunE; rw [if_pos (by omega)]
      unfold mapE
      rw [hb, if_neg (by decide)]
    have HM := Lib.hid (And.intro hE (mapS_bad (by rw [hE]; decide)))
    rw [HM.out.1, HM.out.2]
    clear hE
    go_enter Tryd.func16, Tryd.ntmps16
    go_wp2_with fail
    go_ret2
    exact ⟨rfl, (Below.refl _ _).alloc (Nat.le_refl _) _⟩
  obtain ⟨ff, hff⟩ : ∃ ff, fitsB s.size n1 n2 zs = ff := ⟨_, rfl⟩
  rw [hff] at H1
  cases ff with
  | false =>
    have hE : mapE s.size n1 n2 zs ps = 1 := mapE_form (by omega) hff
    have HM := Lib.hid (And.intro hE (mapS_bad (by rw [hE]; decide)))
    rw [HM.out.1, HM.out.2]
    clear hE hff
    go_enter Tryd.func16, Tryd.ntmps16
    go_wp2_with fail
    refine (H1.out _ ((Below.refl _ w).alloc (Nat.le_refl _) _)).mono ?_
    rintro e w1 ⟨rfl, hb1⟩
    have HB := Lib.hid (((Below.refl _ w).alloc (Nat.le_refl _) _).trans (hb1.mono (by simp)))
    clear hb1
    go_wp2_with fail
    go_ret2
    exact ⟨rfl, HB.out⟩
  | true =>
    have her : bunE s.size n1 n2 zs = 0 := bunE_yes (by omega) hff
    obtain ⟨f1, f2, f3, f4⟩ := fits_inv her
    have HME := Lib.hid (show mapE s.size n1 n2 zs ps = pathsE ps by unfold mapE; rw [if_pos her])
    have HDI := Lib.hid (fun (k : Nat) (z : Int) (hz : zs[k]? = some z) => diff_in f4 f3 hz)
    clear her hff f3 f4
    subst f1
    go_enter Tryd.func16, Tryd.ntmps16
    go_wp2_with fail
    refine (H1.out _ ((Below.refl _ w).alloc (Nat.le_refl _) _)).mono ?_
    rintro e w1 ⟨rfl, hb1⟩
    have HB := Lib.hid (((Below.refl _ w).alloc (Nat.le_refl _) _).trans (hb1.mono (by simp)))
    have o0 : w1.heap[w.heap.size]? = some (.cells #[.string s, .slice A1 n1 c1, .slice A2 n1 c2] 33 (0, 0)) := (hb1.block w.heap.size (by simp)).trans (heap_alloc_new _ _)
    obtain ⟨e0, e1, e2⟩ := box3m o0
    have hsz1 : w.heap.size < w1.heap.size := (Array.getElem?_eq_some_iff.1 o0).1
    clear o0 hb1
    go_wp2_with fail
    go_loopw [4, 5, 18] (fun o st i wr => ∃ k : Nat, k ≤ n1 ∧ o = .string ⟨(mapL ps zs k).toArray⟩ ∧ st = .int .i64 (startAt zs k) ∧ i = .int .i64 k ∧ pathsE ps = pE (ps.take k) (ps.drop k) ∧ (mapL ps zs k).length ≤ 206 * k ∧ Below w1.heap.size w1 wr) (fun _ _ i _ => n1 - (intOf i).toNat)
    case atStart => exact ⟨0, Nat.zero_le _, rfl, rfl, rfl, rfl, Nat.le_refl _, Below.refl _ _⟩
    case round =>
      obtain ⟨k, hk, rfl, rfl, rfl, he, hle, hbw⟩ := hrel
      have hwz := hbw.size
      by_cases hlt : k < n1
      · obtain ⟨p, hp⟩ : ∃ p, ps[k]? = some p := ⟨_, List.getElem?_eq_getElem (by rw [HL.out]; exact hlt)⟩
        obtain ⟨z, hzk⟩ : ∃ z, zs[k]? = some z := ⟨_, List.getElem?_eq_getElem (by rw [HZ.out]; exact hlt)⟩
        obtain ⟨b, off, rfl, hb, hc⟩ : ∃ b off, A1 = some ⟨b, off, none⟩ ∧ b < w.heap.size ∧ ∀ j x, ps[j]? = some x → w.cell? ⟨b, off + j, none⟩ = some (.string x) := by
          rcases HR.out with h | h
          · rw [h] at hp; simp at hp
          · exact h
        obtain ⟨a, rfl, hab, hac0⟩ := HI.out k z hzk
        have hBW := HB.out.trans (hbw.mono (by omega))
        have g1 : wr.cell? ⟨b, off + k, none⟩ = some (.string p) := (hBW.cell (p := ⟨b, off + k, none⟩) hb).trans (hc k p hp)
        have hnx := he.trans (pE_next hp)
        have HP := Lib.hid (H2.out p)
        have HCT := Lib.hid (fun wX (hX : Below w.heap.size w wX) => Tryd.slices_Contains_string b off k c1 (ps.take k) p wX (by rw [List.length_take, HL.out]; omega) (by omega) (fun j hj => by
          have hj2 : j < k := by rw [List.length_take] at hj; omega
          have hjl : j < ps.length := by rw [HL.out]; omega
          refine (hX.cell (p := ⟨b, off + j, none⟩) hb).trans ?_
          rw [hc j ps[j] (List.getElem?_eq_getElem hjl), List.getD_eq_getElem?_getD, List.getElem?_take_of_lt hj2, List.getElem?_eq_getElem hjl]
          rfl))
        have HBW := Lib.hid hBW
        have hs0 := hBW.size
        have g8 : ∀ wX, Below wr.heap.size wr wX → wX.cell? ⟨w.heap.size, 1, none⟩ = some (.slice (some ⟨b, off, none⟩) n1 c1) ∧ wX.cell? ⟨w.heap.size, 2, none⟩ = some (.slice (some a) n1 c2) ∧ wX.cell? (a.add k) = some (.int .i64 z) := fun wX hX =>
          ⟨(hX.cell (p := ⟨w.heap.size, 1, none⟩) (by show w.heap.size < wr.heap.size; omega)).trans ((hbw.cell (p := ⟨w.heap.size, 1, none⟩) hsz1).trans e1), (hX.cell (p := ⟨w.heap.size, 2, none⟩) (by show w.heap.size < wr.heap.size; omega)).trans ((hbw.cell (p := ⟨w.heap.size, 2, none⟩) hsz1).trans e2), (hX.cell (by rw [addr_block]; omega)).trans ((hBW.cell (by rw [addr_block]; exact hab)).trans hac0)⟩
        have HG8 := Lib.hid g8
        obtain ⟨d0, d1, d2, d3⟩ := HDI.out k z hzk
        have hml := mapL_succ hp hzk
        have hzs := startAt_succ hzk
        have HW1 := Lib.hid hbw
        clear he hp hc hzk e0 e1 e2 g8 hBW hac0 hbw
        cases hpb : tpathB p with
        | false =>
          rw [if_pos hpb] at hnx
          rw [hpb] at HP
          have HM := Lib.hid (And.intro (HME.out.trans hnx) (mapS_bad (ps := ps) (by rw [HME.out.trans hnx]; decide)))
          clear hnx hpb hml hzs
          go_wp2_with fail
          refine (HP.out _ HBW.out).mono ?_
          rintro e w2 ⟨rfl, hb2⟩
          have HB2 := Lib.hid (HBW.out.trans (hb2.mono HBW.out.size))
          clear hb2
          go_wp2_with fail
          go_ret2
          exact ⟨by rw [HM.out.1, HM.out.2]; rfl, HB2.out⟩
        | true =>
          have hps := tpath_size hpb
          rw [if_neg (by rw [hpb]; decide)] at hnx
          rw [hpb] at HP
          clear hpb
          cases hct : Lib.containsS (ps.take k) p with
          | true =>
            rw [if_pos hct] at hnx
            have HQ := Lib.hid (show Lib.containsS ((ps.take k).take k) p = true by rw [List.take_take, Nat.min_self]; exact hct)
            have HM := Lib.hid (And.intro (HME.out.trans hnx) (mapS_bad (ps := ps) (by rw [HME.out.trans hnx]; decide)))
            clear hnx hct hml hzs
            go_wp2_with fail
            refine (HP.out _ HBW.out).mono ?_
            rintro e w2 ⟨rfl, hb2⟩
            have HB2 := Lib.hid (HBW.out.trans (hb2.mono HBW.out.size))
            obtain ⟨x1, x2, x3⟩ := HG8.out _ hb2
            clear hb2
            go_wp2_with fail
            refine (HCT.out _ HB2.out).mono ?_
            rintro e w' ⟨rfl, rfl⟩
            rw [HQ.out]
            go_wp2_with fail
            go_ret2
            exact ⟨by rw [HM.out.1, HM.out.2]; rfl, HB2.out⟩
          | false =>
            rw [if_neg (by rw [hct]; decide)] at hnx
            have HQ := Lib.hid (show Lib.containsS ((ps.take k).take k) p = false by rw [List.take_take, Nat.min_self]; exact hct)
            have HN := Lib.hid hnx
            obtain ⟨st, hst⟩ : ∃ st, startAt zs k = st := ⟨_, rfl⟩
            rw [hst] at d0 d1 d2 hml ⊢
            obtain ⟨q, hq⟩ : ∃ q : Nat, z - st = q := ⟨(z - st).toNat, by omega⟩
            have hq9 : q < 1048576 := by omega
            have hd4 := d32_len 3 q
            have hF := H3.out q hq9
            obtain ⟨g, hg⟩ : ∃ g : ByteArray, (⟨(d32 3 q).toArray⟩ : ByteArray) = g := ⟨_, rfl⟩
            have hg4 : g.size ≤ 4 := by rw [← hg]; show (d32 3 q).toArray.size ≤ 4; simpa using hd4
            rw [hg] at hF
            have HF := Lib.hid hF
            have hQ2 : mlineB p (z - st) = p ++ ⟨#[32]⟩ ++ g ++ ⟨#[10]⟩ := by unfold mlineB; rw [hq, Int.toNat_natCast, hg]
            rw [hQ2] at hml
            have hml2 : (mapL ps zs (k + 1)).length ≤ 206 * (k + 1) := by
              rw [hml, List.length_append]
              have hms := mlineB_size p (z - st)
              rw [hQ2] at hms
              have h4 : (p ++ ⟨#[32]⟩ ++ g ++ ⟨#[10]⟩ : ByteArray).data.toList.length = (p ++ ⟨#[32]⟩ ++ g ++ ⟨#[10]⟩ : ByteArray).size := bs_len _
              omega
            obtain ⟨o, ho⟩ : ∃ o : ByteArray, (⟨(mapL ps zs k).toArray⟩ : ByteArray) = o := ⟨_, rfl⟩
            have hos : o.size ≤ 206 * k := by rw [← ho]; show (mapL ps zs k).toArray.size ≤ _; simpa using hle
            have HO2 := Lib.hid (show o ++ (p ++ ⟨#[32]⟩ ++ g ++ ⟨#[10]⟩) = ⟨(mapL ps zs (k + 1)).toArray⟩ by rw [← ho, bs_app, hml])
            have HL2 := Lib.hid hml2
            have HZS := Lib.hid hzs
            rw [ho]
            clear hnx hct hml hzs hd4 hF hg hQ2 hml2 ho hle hst
            go_wp2_with fail
            refine (HP.out _ HBW.out).mono ?_
            rintro e w2 ⟨rfl, hb2⟩
            have HB2 := Lib.hid (HBW.out.trans (hb2.mono HBW.out.size))
            obtain ⟨x1, x2, x3⟩ := HG8.out _ hb2
            have HBB := Lib.hid hb2
            clear hb2
            go_wp2_with fail
            refine (HCT.out _ HB2.out).mono ?_
            rintro e w' ⟨rfl, rfl⟩
            rw [HQ.out]
            go_wp2_with fail
            refine (HF.out _ HB2.out).mono ?_
            rintro e w3 ⟨rfl, hb3⟩
            have HB3 := Lib.hid (HBB.out.trans (hb3.mono HBB.out.size))
            clear x1 x2 x3
            obtain ⟨x1, x2, x3⟩ := HG8.out _ HB3.out
            have HB4 := Lib.hid (HW1.out.trans (HB3.out.mono hwz))
            clear hb3
            go_wp2_with fail
            go_roundw
            case rel => exact ⟨k + 1, by omega, by rw [← HO2.out], by rw [HZS.out], by go_num, HN.out, HL2.out, HB4.out⟩
            case measure => simp [intOf]; omega
      · have hkn : k = n1 := by omega
        subst hkn
        have hd : ps.drop k = [] := List.drop_eq_nil_of_le (by rw [HL.out]; exact Nat.le_refl _)
        rw [hd] at he
        have h0 : mapE s.size k k zs ps = 0 := (HME.out.trans he).trans (by cases ps.take k <;> rfl)
        have HM := Lib.hid (And.intro h0 (show mapS s.size k k zs ps = ⟨(mapL ps zs k).toArray⟩ by unfold mapS; rw [if_pos h0]))
        have HBL := Lib.hid (HB.out.trans (hbw.mono (by omega)))
        clear he hd h0 e0 e1 e2 hbw
        go_wp2_with fail
        go_ret2
        exact ⟨by rw [HM.out.1, HM.out.2]; rfl, HBL.out⟩
end Go.Proofs.YtkobenohijipeaaDoor
