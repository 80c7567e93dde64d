/- DERIVED. The reference's Resolved. Condition: the library's variable MaxLen holds a number. -/
import Derived.Test.YtekgpimlanaokaaDoorRAddr
import Derived.Test.YtekgpimlanaokaaDoorResolved
namespace Go.Proofs.YtekgpimlanaokaaDoor
set_option linter.unusedVariables false
open Go.RowKit Go.Shelf
set_option maxRecDepth 100000 in
set_option maxHeartbeats 1600000 in
theorem resolved_root (fr : ByteArray) (ref : List UInt8) (w : World) (hm : MaxT w) (hpad : padB fr = true) (hfz : fr.size ≤ 200) (ps0 : List (List UInt8)) (hf : (⟨#[47]⟩ : ByteArray) = bP (adr ps0)) (hsf : ∀ p ∈ ps0, (47 : UInt8) ∉ p) (hal : ps0.all tpl = true) (h200 : (adr ps0).length ≤ 200) (hr : ref.length ≤ 200)
    (hpre : refB (bP ref) = true) (x : Int) (o : ByteArray) (hx : (stpA ps0 (pieces ref)).1 = x) (ho : o = if x = 0 then bP (adr (stpA ps0 (pieces ref)).2) else ⟨#[]⟩) :
    Calls Tryd.prog 6 #[.string fr, .string (bP ref)] w fun e w' => e = .returned (.tuple #[.string o, .int .i64 x]) ∧ Below w.heap.size w w' := by
  have h1 := fun wX (hX : Below w.heap.size w wX) => rAddr1_any fr wX (hm.below hX) (by omega)
  rw [hpad] at h1
  have H1 := Lib.hid h1
  have hz := bP_size ref
  obtain ⟨R, hR⟩ : ∃ R, bP ref = R := ⟨_, rfl⟩
  have h2 := fun wX => Tryd.strings_HasPrefix R ⟨#[47]⟩ wX
  have hpx : Lib.hasPrefix R.data.toList (ByteArray.mk #[47]).data.toList = true := by rw [← hR]; exact hpre
  rw [hpx] at h2
  have H2 := Lib.hid h2
  rw [hR] at hz ⊢
  have h3 := fun wX (hX : Below w.heap.size w wX) => tsplit_any R wX (hm.below hX) (by omega)
  have htp : tparts R = (pieces ref).map bP := by rw [← hR, tparts_eq]
  rw [htp] at h3
  unfold slashS at h3
  have H3 := Lib.hid h3
  have i0 : ¬ (200 : Int) < (R.size : Int) := by omega
  have HF := Lib.hid hf
  have HI := Lib.hid (And.intro hsf (And.intro hal h200))
  have HO := Lib.hid (And.intro hx ho)
  have HPL := Lib.hid (fun p (hp : p ∈ pieces ref) => And.intro (pieces_no ref p hp) (piece_le hp))
  have HR := Lib.hid hr
  obtain ⟨L, hL⟩ : ∃ L, pieces ref = L := ⟨_, rfl⟩
  rw [hL] at H3 HO HPL
  clear h1 h2 h3 hpx hz hpad hf hsf hal hpre hx ho hR htp h200 hr hL hfz
  go_enter Tryd.func6, Tryd.ntmps6
  go_wp2_with fail
  refine (H1.out _ (Below.refl _ _)).mono ?_
  rintro e w1 ⟨rfl, hb1⟩
  have HB1 := Lib.hid hb1
  clear hb1
  go_wp2_with fail
  refine (H2.out _).mono ?_
  rintro e w' ⟨rfl, rfl⟩
  go_wp2_with fail
  refine (H3.out _ HB1.out).mono ?_
  rintro e w2 ⟨n, rfl, hn, hrow, hb2⟩
  have HRW := Lib.hid hrow
  have HB2 := Lib.hid (HB1.out.trans (hb2.mono HB1.out.size))
  clear hrow hb2
  go_wp2_with fail
  go_loop [6, 23] (fun v i => ∃ (k : Nat) (ps : List (List UInt8)), k ≤ n ∧ i = .int .i64 k ∧ v = .string (bP (adr ps)) ∧ stpA ps0 (L.take k) = (0, ps) ∧ (∀ p ∈ ps, (47 : UInt8) ∉ p) ∧ ps.all tpl = true ∧ (adr ps).length ≤ 200) (fun _ i => n - (intOf i).toNat)
  case atStart => exact ⟨0, ps0, Nat.zero_le _, rfl, by rw [← HF.out], by rw [List.take_zero, stpA_nil], HI.out.1, HI.out.2.1, HI.out.2.2⟩
  case round =>
    obtain ⟨k, ps, hk, rfl, rfl, e1, e2, e3, e4⟩ := hrel
    by_cases hlt : k < n
    · obtain ⟨p, hp⟩ : ∃ p, L[k]? = some p := ⟨_, List.getElem?_eq_getElem (by have := HRW.out.1; rw [List.length_map] at this; omega)⟩
      have x0 := HRW.out.2 k (bP p) (by rw [List.getElem?_map, hp]; rfl)
      obtain ⟨hpn, hpl⟩ := HPL.out p (List.mem_of_getElem? hp)
      have hpl2 : p.length ≤ 200 := Nat.le_trans hpl HR.out
      have hnx := stpA_take L ps0 ps k p hp e1
      obtain ⟨xx, hpx⟩ : ∃ xx, bP p = xx := ⟨_, rfl⟩
      rw [hpx] at x0
      clear hp hpl
      by_cases k0 : p = []
      · obtain rfl : xx = ⟨#[]⟩ := by rw [← hpx, k0]
        have hst : stp1 ps p = (0, ps) := by unfold stp1; rw [if_pos (.inl k0)]
        rw [hst, if_pos rfl] at hnx
        have HN := Lib.hid (And.intro hnx (And.intro e2 (And.intro e3 e4)))
        clear e1 e2 e3 e4 hst hnx hpx hpn hpl2 k0
        go_wp2_with fail
        go_round
        case rel => exact ⟨k + 1, ps, by omega, by go_num, rfl, HN.out⟩
        case measure => simp [intOf]; omega
      by_cases k1 : p = [46]
      · obtain rfl : xx = ⟨#[46]⟩ := by rw [← hpx, k1]
        have hst : stp1 ps p = (0, ps) := by unfold stp1; rw [if_pos (.inr k1)]
        rw [hst, if_pos rfl] at hnx
        have HN := Lib.hid (And.intro hnx (And.intro e2 (And.intro e3 e4)))
        clear e1 e2 e3 e4 hst hnx hpx hpn hpl2 k0 k1
        go_wp2_with fail
        go_round
        case rel => exact ⟨k + 1, ps, by omega, by go_num, rfl, HN.out⟩
        case measure => simp [intOf]; omega
      obtain ⟨AD, hAD⟩ : ∃ AD, bP (adr ps) = AD := ⟨_, rfl⟩
      have hroot := adr_root ps
      have haz : AD.size ≤ 200 := by rw [← hAD, bP_size]; exact e4
      have haz1 : 1 ≤ AD.size := by rw [← hAD, bP_size]; simp [adr]
      rw [hAD] at hroot
      rw [hAD]
      by_cases k2 : p = [46, 46]
      · obtain rfl : xx = ⟨#[46, 46]⟩ := by rw [← hpx, k2]
        by_cases hps : ps = []
        · have hst : stp1 ps p = (7, []) := by unfold stp1; rw [if_neg (by rintro (h | h); exact k0 h; exact k1 h), if_pos k2, if_pos hps]
          rw [hst, if_neg (by decide)] at hnx
          rw [show ps.isEmpty = true by rw [hps]; rfl] at hroot
          have hend := stpA_end L ps0 (k + 1) 7 (by decide) hnx
          have hx7 : (7 : Int) = x := hend.symm.trans HO.out.1
          have ho7 := HO.out.2
          rw [← hx7, if_neg (by decide)] at ho7
          have HX := Lib.hid (And.intro hx7 ho7)
          clear e1 e2 e3 e4 hst hnx hpx hpn hpl2 k0 k1 k2 hAD hps hend hx7 ho7
          go_wp2_with fail
          go_ret2
          exact ⟨by rw [HX.out.2, ← HX.out.1]; rfl, HB2.out⟩
        · obtain ⟨qs, q, hq⟩ : ∃ qs q, ps = qs ++ [q] := ⟨ps.dropLast, ps.getLast hps, (List.dropLast_concat_getLast hps).symm⟩
          have hst : stp1 ps p = (0, qs) := by unfold stp1; rw [if_neg (by rintro (h | h); exact k0 h; exact k1 h), if_pos k2, if_neg hps, hq, List.dropLast_concat]
          rw [hst, if_pos rfl] at hnx
          rw [show ps.isEmpty = false by rw [hq]; simp] at hroot
          have hqn : (47 : UInt8) ∉ q := e2 q (by rw [hq]; simp)
          have hup : upB AD = bP (adr qs) := by rw [← hAD, hq]; exact upB_adr qs q hqn
          have hlen : (adr qs).length ≤ 200 := by have := adr_snoc qs q; rw [hq, this] at e4; simp at e4; omega
          obtain ⟨C, hC⟩ : ∃ C, AD.extract 0 (AD.size - 1) = C := ⟨_, rfl⟩
          have hcz : C.size = AD.size - 1 := by rw [← hC]; simp
          have hrm := lib_room C
          have hu : upB AD = C.extract 0 (Lib.lastIndexByte C 47 + 1).toNat := by unfold upB cutB; rw [hC]
          have hli := fun wX => Tryd.strings_LastIndex_one C ⟨#[47]⟩ rfl (by omega) wX
          have h47 : (((⟨#[47]⟩ : ByteArray)[0]'(by decide)).toNat : Int) = 47 := by decide
          rw [h47] at hli
          obtain ⟨y, hy⟩ : ∃ y, Lib.lastIndexByte C 47 = y := ⟨_, rfl⟩
          rw [hy] at hli hrm hu
          obtain ⟨m, hmm⟩ : ∃ m : Nat, y + 1 = m := ⟨(y + 1).toNat, by omega⟩
          obtain rfl : y = (m : Int) - 1 := by omega
          have e5 : ((m : Int) - 1 + 1) = m := by omega
          have e6 : (m : Int) ≤ (AD.size : Int) := by omega
          have hmz : m ≤ AD.size - 1 := by omega
          rw [e5] at hu
          rw [Int.toNat_natCast] at hu
          have hfin : AD.extract 0 m = bP (adr qs) := by
            have h1 := cut_ext AD m hmz
            have h2 : cutB AD = C := hC
            rw [h2, ← hu, hup] at h1
            exact h1
          have i1 : ((AD.size : Int) - 1).toNat = AD.size - 1 := by omega
          have e7 : wrap64 (m : Int) = (m : Int) := by
            clear hli
            unfold wrap64
            omega
          have HLI := Lib.hid hli
          have HFI := Lib.hid hfin
          have HCC := Lib.hid hC
          have HN := Lib.hid (And.intro hnx (And.intro (fun a ha => e2 a (by rw [hq]; exact List.mem_append_left _ ha) : ∀ a ∈ qs, (47 : UInt8) ∉ a) (And.intro (by rw [hq, List.all_append, Bool.and_eq_true] at e3; exact e3.1 : qs.all tpl = true) hlen)))
          clear e1 e2 e3 e4 hst hnx hpx hpn hpl2 k0 k1 k2 hAD hps hq hqn hup hlen hli hfin hC hcz hrm hu hy hmm e5
          go_wp2_with fail
          have hC := HCC.out
          rw [hC]
          clear hC
          refine (HLI.out _).mono ?_
          rintro e w' ⟨rfl, rfl⟩
          go_wp2_with fail
          go_round
          case rel => exact ⟨k + 1, qs, by omega, by go_num, by rw [← HFI.out], HN.out⟩
          case measure => simp [intOf]; omega
      · have n0 : (xx.toList == []) = false := by rw [← hpx]; exact bP_ne k0
        have n1 : (xx.toList == [46]) = false := by rw [← hpx]; exact bP_ne k1
        have n2 : (xx.toList == [46, 46]) = false := by rw [← hpx]; exact bP_ne k2
        have hxz : xx.size = p.length := by rw [← hpx, bP_size]
        have hxz2 : xx.size ≤ 200 := by omega
        have hjo : AD ++ (xx ++ ⟨#[47]⟩) = bP (adr (ps ++ [p])) := by rw [← hAD, ← hpx, bP_join, ← adr_snoc]
        have hjz : (AD ++ (xx ++ ⟨#[47]⟩)).size = (adr (ps ++ [p])).length := by rw [hjo, bP_size]
        have hjz2 : (AD ++ (xx ++ ⟨#[47]⟩)).size = AD.size + (xx.size + 1) := by rw [ByteArray.size_append, ByteArray.size_append]; rfl
        have hpp := fun wX => pathPart_any xx wX (by omega)
        rw [show tpartB xx = tpl p by rw [← hpx]; rfl] at hpp
        by_cases ht : tpl p = true
        · rw [ht] at hpp
          have HPP := Lib.hid hpp
          by_cases hl : (adr (ps ++ [p])).length ≤ 200
          · have hst : stp1 ps p = (0, ps ++ [p]) := by unfold stp1; rw [if_neg (by rintro (h | h); exact k0 h; exact k1 h), if_neg k2, if_pos ⟨ht, hl⟩]
            rw [hst, if_pos rfl] at hnx
            have hsz : ¬ (200 : Int) < ((AD.size : Int) + ((xx.size : Int) + 1)) := by omega
            have HJ := Lib.hid hjo
            have HN := Lib.hid (And.intro hnx (And.intro (by intro a ha; rcases List.mem_append.1 ha with h | h; exact e2 a h; rw [List.mem_singleton.1 h]; exact hpn : ∀ a ∈ ps ++ [p], (47 : UInt8) ∉ a) (And.intro (by rw [List.all_append, e3]; simp [ht] : (ps ++ [p]).all tpl = true) hl)))
            clear e1 e2 e3 e4 hst hnx hpx hpn hpl2 k0 k1 k2 hAD hjo hjz hjz2 hpp hl ht hxz hroot
            go_wp2_with fail
            refine (HPP.out _).mono ?_
            rintro e w' ⟨rfl, rfl⟩
            go_wp2_with fail
            go_round
            case rel => exact ⟨k + 1, ps ++ [p], by omega, by go_num, by rw [← HJ.out], HN.out⟩
            case measure => simp [intOf]; omega
          · have hst : stp1 ps p = (3, []) := by unfold stp1; rw [if_neg (by rintro (h | h); exact k0 h; exact k1 h), if_neg k2, if_neg (fun h => hl h.2)]
            rw [hst, if_neg (by decide)] at hnx
            have hsz : (200 : Int) < ((AD.size : Int) + ((xx.size : Int) + 1)) := by omega
            have hend := stpA_end L ps0 (k + 1) 3 (by decide) hnx
            have hx7 : (3 : Int) = x := hend.symm.trans HO.out.1
            have ho7 := HO.out.2
            rw [← hx7, if_neg (by decide)] at ho7
            have HX := Lib.hid (And.intro hx7 ho7)
            clear e1 e2 e3 e4 hst hnx hpx hpn hpl2 k0 k1 k2 hAD hjo hjz hjz2 hpp hl ht hxz hroot hend hx7 ho7
            go_wp2_with fail
            refine (HPP.out _).mono ?_
            rintro e w' ⟨rfl, rfl⟩
            go_wp2_with fail
            go_ret2
            exact ⟨by rw [HX.out.2, ← HX.out.1]; rfl, HB2.out⟩
        · have ht' : tpl p = false := by simpa using ht
          rw [ht'] at hpp
          have HPP := Lib.hid hpp
          have hst : stp1 ps p = (3, []) := by unfold stp1; rw [if_neg (by rintro (h | h); exact k0 h; exact k1 h), if_neg k2, if_neg (fun h => ht h.1)]
          rw [hst, if_neg (by decide)] at hnx
          have hend := stpA_end L ps0 (k + 1) 3 (by decide) hnx
          have hx7 : (3 : Int) = x := hend.symm.trans HO.out.1
          have ho7 := HO.out.2
          rw [← hx7, if_neg (by decide)] at ho7
          have HX := Lib.hid (And.intro hx7 ho7)
          clear e1 e2 e3 e4 hst hnx hpx hpn hpl2 k0 k1 k2 hAD hjo hjz hjz2 hpp ht ht' hxz hroot hend hx7 ho7
          go_wp2_with fail
          refine (HPP.out _).mono ?_
          rintro e w' ⟨rfl, rfl⟩
          go_wp2_with fail
          go_ret2
          exact ⟨by rw [HX.out.2, ← HX.out.1]; rfl, HB2.out⟩
    · have hkn : k = n := by omega
      have hall : L.take k = L := List.take_of_length_le (by have := HRW.out.1; rw [List.length_map] at this; omega)
      rw [hall] at e1
      have hx0 : (0 : Int) = x := by rw [← HO.out.1, e1]
      have ho0 := HO.out.2
      rw [← hx0, if_pos rfl, e1] at ho0
      have HX := Lib.hid (And.intro hx0 ho0)
      clear e1 e2 e3 e4 hx0 ho0 hall
      obtain ⟨AD, hAD⟩ : ∃ AD, bP (adr ps) = AD := ⟨_, rfl⟩
      rw [hAD]
      have HA := Lib.hid hAD
      clear hAD
      go_wp2_with fail
      go_ret2
      exact ⟨by rw [HX.out.2, ← HX.out.1, HA.out]; rfl, HB2.out⟩
end Go.Proofs.YtekgpimlanaokaaDoor
