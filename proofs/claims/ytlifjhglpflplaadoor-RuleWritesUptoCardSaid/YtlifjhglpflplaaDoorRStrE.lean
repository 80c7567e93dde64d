/- DERIVED. The reference's testString. Condition: at most 2^40 tests, all of them right; the library's variables are as the program's text lays them. -/
import Derived.Test.YtlifjhglpflplaaDoorRStrC
import Derived.Test.YtlifjhglpflplaaDoorTstRefC
import Derived.Laws.EntriesVeiled
namespace Go.Proofs.YtlifjhglpflplaaDoor
open Go.RowKit
set_option linter.unusedVariables false
set_option linter.unusedSimpArgs false
set_option maxRecDepth 100000 in
set_option maxHeartbeats 2000000 in
/-- The closure of testString: the strings of the kids, joined. -/
theorem joinR_any (a : Tst) (br : Bool) (sep : ByteArray) (hsep : sep.size ≤ 3) (q : Nat) (k0 m0 l0 h0 : Int) (A : Option Addr) (n c : Nat) (w : World) (hbig : a.nodes ≤ 1099511627776) (hq : q < w.heap.size) (cq : w.cell? ⟨q, 4, none⟩ = some (.slice A n c)) (ha : a.At w w.heap.size A n)
    (hf : ∀ (wX : World) (k : Nat), Below w.heap.size w wX → ∀ (k1 md lo hi : Int) (A1 : Option Addr) (n1 c1 : Nat) (kd r : Tst), a.drop k = .cons k1 md lo hi kd r → kd.At wX wX.heap.size A1 n1 → (Lit.int .i64 md).wf = true → (Lit.int .i64 lo).wf = true → (Lit.int .i64 hi).wf = true → TxtC 83 k1 md lo hi A1 n1 c1 wX (tS k1 md lo hi kd)) :
    Calls Tryd.prog 111 #[.string sep, .bool br, .pointer (some ⟨q, 0, none⟩)] w fun e w' => e = .returned (.string (joinS (a.kL br) sep)) ∧ Below w.heap.size w w' := by
  obtain ⟨i0, hi, hz0, hz1, hz2⟩ := info_parts strInfo
  have hnl := ha.len_eq
  have hn : n ≤ 1099511627776 := Nat.le_trans (by rw [hnl]; exact Tst.len_le a) hbig
  have HJL := Lib.hid (Nat.le_trans (kids_join a br sep hsep ha.fits) (show 100 * a.nodes ≤ 140737488355328 by omega))
  have HNL := Lib.hid hnl; clear hnl
  have HA := Lib.hid ha; clear ha
  have HF := Lib.hid hf; clear hf
  have HBIG := Lib.hid hbig
  clear hsep hbig
  go_enter Tryd.func111, Tryd.ntmps111
  go_wp2_with fail
  go_loopw [6, 13] (fun v i wr => ∃ (k : Nat) (L : List ByteArray), k ≤ n ∧ i = .int .i64 k ∧ L.length = k ∧ a.kL br = L ++ (a.drop k).kL br ∧ wr.ownsRow w.heap.size 9 1 v k (strs L) ∧ Below w.heap.size w wr) (fun _ i _ => n - (intOf i).toNat)
  case atStart => exact ⟨0, [], Nat.zero_le _, rfl, rfl, by rw [Tst.drop_zero']; rfl, World.ownsRow_nil _ _ _ _, Below.refl _ _⟩
  case round =>
    obtain ⟨k, L, hk, rfl, hL, hcat, hown, hbw⟩ := hrel
    have hw := hbw.size
    obtain ⟨Av, cv, rfl⟩ := slice_of_own hown
    have HOW := Lib.hid hown; clear hown
    have HL := Lib.hid hL; clear hL
    have HCAT := Lib.hid hcat; clear hcat
    by_cases hlt : k < n
    · obtain ⟨b, off, k1, md, lo, hi', A1, n1, c1, kd, r, rfl, e1, e2, E⟩ := HA.out.el k hlt
      have E' := E.below hbw
      obtain ⟨hlb, x0, x1, x2, x3, x4, hnc, hcm, g0, g1, g2, g3, hat⟩ := E'
      clear E
      have hsb : b < wr.heap.size := Nat.lt_of_lt_of_le hlb hbw.size
      have hcall := fun wX (hX : Below w.heap.size wr wX) => HF.out wX k (hbw.trans hX) k1 md lo hi' A1 n1 c1 kd r e1 ((hat.below hX).more (Nat.le_trans hbw.size hX.size)) g1 g2 g3
      have hnext := HCAT.out
      rw [e1, kL_cons] at hnext
      have hz : (tS k1 md lo hi' kd).size ≤ 140000000000000 := by
        have h1 := Tst.nodes_drop' k a
        rw [e1] at h1
        simp only [Tst.nodes] at h1
        have h2 := tS_size k1 md lo hi' kd (i64_of g1) (i64_of g2) (i64_of g3) hat.fits
        have := HBIG.out
        omega
      generalize tS k1 md lo hi' kd = s0 at hcall hnext hz
      obtain ⟨s, hs⟩ : ∃ s, brS br k1 s0 = s := ⟨_, rfl⟩
      rw [hs] at hnext
      unfold TxtC eV at hcall
      have HC := Lib.hid hcall; clear hcall
      have HN := Lib.hid (show a.kL br = (L ++ [s]) ++ (a.drop (k + 1)).kL br by rw [hnext, e2]; simp); clear hnext
      have HBW := Lib.hid hbw; clear hbw
      have HS := Lib.hid hs
      have hbx := heap_alloc_new wr (.cells #[.int .i64 k1, .int .i64 md, .int .i64 lo, .int .i64 hi', .slice A1 n1 c1] 88)
      have HBX := Lib.hid hbx
      clear e1 e2 hat hnc hcm g0 g1 g2 g3 hs hbx
      by_cases hb3 : br = true ∧ k1 = 3
      · obtain ⟨rfl, rfl⟩ := hb3
        have hs2 : s = ⟨#[40]⟩ ++ s0 ++ ⟨#[41]⟩ := by rw [← HS.out]; unfold brS; rw [if_pos ⟨rfl, rfl⟩]
        subst hs2
        go_wp2_with fail
        refine (HC.out _ ((Below.refl _ _).alloc HBW.out.size _)).mono ?_
        rintro e w2 ⟨rfl, hb2⟩
        have hw2 := hb2.size
        simp only [World.size_alloc] at hw2
        have y0 := (box5 ((hb2.block wr.heap.size (by simp)).trans HBX.out)).1
        have HB2 := Lib.hid ((HBW.out.alloc HBW.out.size _).trans (hb2.mono (by have := HBW.out.size; simp; omega)))
        have HO2 := Lib.hid (row_below HOW.out (((Below.refl _ _).alloc (Nat.le_refl _) _).trans (hb2.mono (by simp))))
        obtain ⟨s, hs⟩ : ∃ s : ByteArray, ⟨#[40]⟩ ++ s0 ++ ⟨#[41]⟩ = s := ⟨_, rfl⟩
        have HNW := Lib.hid (World.news_of_block (heap_alloc_new w2 (.cells #[.string (⟨#[40]⟩ ++ s0 ++ ⟨#[41]⟩)] 9)))
        clear hb2 hs
        go_wp2_with (at_builtin; go_loud (refine wpList_append_lies _ rfl _ _ 42 rfl w.heap.size 9 i0 _ 1 16 Tryd.underlying42 hi hz0 hz1 hz2 rfl (by decide) (.slice Av k cv) k (strs L) rfl (HO2.out.alloc _) ⟨w2.heap.size, 0, none⟩ 1 1 [.string (⟨#[40]⟩ ++ s0 ++ ⟨#[41]⟩)] rfl rfl HNW.out (by simp [Value.oneCell']) (by omega) (by unfold maxLen; omega) (by omega) (by simp; omega) (w2.heap.size + 1) (by simp) ?_; intro gg cap2 w7 hown' hgrow hat3 hlt2))
        go_roundw
        case rel =>
          have hbG : Below w.heap.size w w7 := (HB2.out.alloc (by omega) _).grown hgrow (by simp; omega) (fun q hq => (HO2.out.lt q hq).1)
          refine ⟨k + 1, L ++ [⟨#[40]⟩ ++ s0 ++ ⟨#[41]⟩], by omega, by go_num, by rw [List.length_append, HL.out]; rfl, HN.out, ?_, hbG⟩
          rw [show strs (L ++ [⟨#[40]⟩ ++ s0 ++ ⟨#[41]⟩]) = strs L ++ [.string (⟨#[40]⟩ ++ s0 ++ ⟨#[41]⟩)] by unfold strs; rw [List.map_append]; rfl]
          exact hown'
        case measure => simp [intOf]; omega
      · have hs2 : s = s0 := by rw [← HS.out]; unfold brS; rw [if_neg hb3]
        subst hs2
        have hcond : (br = false) ∨ (br = true ∧ ¬ k1 = 3) := by
          cases br with
          | false => exact .inl rfl
          | true => exact .inr ⟨rfl, fun h => hb3 ⟨rfl, h⟩⟩
        clear hb3
        rcases hcond with rfl | ⟨rfl, hk3⟩
        all_goals (
          go_wp2_with fail
          refine (HC.out _ ((Below.refl _ _).alloc HBW.out.size _)).mono ?_
          rintro e w2 ⟨rfl, hb2⟩
          have hw2 := hb2.size
          simp only [World.size_alloc] at hw2
          have y0 := (box5 ((hb2.block wr.heap.size (by simp)).trans HBX.out)).1
          have HB2 := Lib.hid ((HBW.out.alloc HBW.out.size _).trans (hb2.mono (by have := HBW.out.size; simp; omega)))
          have HO2 := Lib.hid (row_below HOW.out (((Below.refl _ _).alloc (Nat.le_refl _) _).trans (hb2.mono (by simp))))
          have HNW := Lib.hid (World.news_of_block (heap_alloc_new w2 (.cells #[.string s] 9)))
          clear hb2
          go_wp2_with (at_builtin; go_loud (refine wpList_append_lies _ rfl _ _ 42 rfl w.heap.size 9 i0 _ 1 16 Tryd.underlying42 hi hz0 hz1 hz2 rfl (by decide) (.slice Av k cv) k (strs L) rfl (HO2.out.alloc _) ⟨w2.heap.size, 0, none⟩ 1 1 [.string s] rfl rfl HNW.out (by simp [Value.oneCell']) (by omega) (by unfold maxLen; omega) (by omega) (by simp; omega) (w2.heap.size + 1) (by simp) ?_; intro gg cap2 w7 hown' hgrow hat3 hlt2))
          go_roundw
          case rel =>
            have hbG : Below w.heap.size w w7 := (HB2.out.alloc (by omega) _).grown hgrow (by simp; omega) (fun q hq => (HO2.out.lt q hq).1)
            refine ⟨k + 1, L ++ [s], by omega, by go_num, by rw [List.length_append, HL.out]; rfl, HN.out, ?_, hbG⟩
            rw [show strs (L ++ [s]) = strs L ++ [.string s] by unfold strs; rw [List.map_append]; rfl]
            exact hown'
          case measure => simp [intOf]; omega)
    · obtain rfl : k = n := by omega
      have hall : a.kL br = L := by rw [HCAT.out, HNL.out, Tst.drop_len']; simp [Tst.kL]
      have HALL := Lib.hid hall; clear hall
      have HJ := Lib.hid (joinOwn_any (L := L) (v := .slice Av k cv) (wX := wr) sep (by rw [HL.out]; exact HOW.out) (by rw [HL.out]; omega) (by rw [← HALL.out]; exact HJL.out))
      go_wp2_with fail
      refine HJ.out.mono ?_
      rintro e w8 ⟨rfl, hb8⟩
      have HB8 := Lib.hid (hbw.trans (hb8.mono hbw.size))
      clear hb8
      go_wp2_with fail
      go_ret
      exact ⟨by rw [HALL.out]; rfl, HB8.out⟩
end Go.Proofs.YtlifjhglpflplaaDoor
